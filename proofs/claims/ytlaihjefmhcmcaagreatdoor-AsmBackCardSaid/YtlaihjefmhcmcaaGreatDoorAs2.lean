/- Plain words: a text's lines and what they are; what is printed is read back. -/
import Derived.Test.YtlaihjefmhcmcaaGreatDoorAs1
import Derived.Lib.Split
import Derived.Lib.SplitLaws
import Derived.Lib.IndexBytes
namespace Go.Proofs.YtlaihjefmhcmcaaGreatDoor
set_option linter.unusedVariables false
def splitNL : List UInt8 → List (List UInt8)
  | [] => [[]]
  | c :: r => if c = 10 then [] :: splitNL r else match splitNL r with | p :: ps => (c :: p) :: ps | [] => [[c]]
theorem splitNL_cons (c : UInt8) (r : List UInt8) : splitNL (c :: r) = if c = 10 then [] :: splitNL r else match splitNL r with | p :: ps => (c :: p) :: ps | [] => [[c]] := rfl
theorem splitNL_none : ∀ (a : List UInt8), (∀ c ∈ a, c ≠ 10) → splitNL a = [a]
  | [], _ => rfl
  | c :: a, h => by
    rw [splitNL_cons, if_neg (h c (by simp)), splitNL_none a (fun x hx => h x (List.mem_cons_of_mem _ hx))]
theorem splitNL_cut : ∀ (a b : List UInt8), (∀ c ∈ a, c ≠ 10) → splitNL (a ++ 10 :: b) = a :: splitNL b
  | [], b, _ => by rw [List.nil_append, splitNL_cons, if_pos rfl]
  | c :: a, b, h => by
    rw [List.cons_append, splitNL_cons, if_neg (h c (by simp)), splitNL_cut a b (fun x hx => h x (List.mem_cons_of_mem _ hx))]
theorem splitK_nl : ∀ (n : Nat) (l : List UInt8), l.length ≤ n → Lib.splitK [10] 0 (Lib.count l [10]) l = splitNL l
  | 0, l, h => by
    obtain rfl : l = [] := List.eq_nil_of_length_eq_zero (by omega)
    rfl
  | n + 1, l, h => by
    have hio := Lib.index_one l 10
    have hge := Lib.indexByte_ge l 10
    by_cases hi : Lib.indexByte l 10 = -1
    · have h0 := Lib.indexByte_none hi
      rw [Lib.count_miss (by rw [hio]; exact hi), splitNL_none l (fun c hc e => by
        obtain ⟨k, hk⟩ := List.getElem?_of_mem hc
        exact h0 k (by rw [hk, e]))]
      rfl
    · obtain ⟨i, hi2⟩ : ∃ i : Nat, Lib.indexByte l 10 = i := ⟨(Lib.indexByte l 10).toNat, by omega⟩
      obtain ⟨h1, h2⟩ := Lib.indexByte_some hi2
      have hil : i < l.length := (List.getElem?_eq_some_iff.1 h1).1
      have e : l = l.take i ++ 10 :: l.drop (i + 1) := by
        have := (List.take_append_drop i l).symm
        rw [List.drop_eq_getElem_cons hil, (List.getElem?_eq_some_iff.1 h1).2] at this
        exact this
      rw [Lib.count_hit (by simp) (hio.trans hi2), Nat.add_comm 1]
      show (if Lib.index l [10] == -1 then [l] else l.take ((Lib.index l [10]).toNat + 0) :: Lib.splitK [10] 0 (Lib.count (l.drop (i + 1)) [10]) (l.drop ((Lib.index l [10]).toNat + 1))) = _
      rw [hio, hi2, if_neg (by simp)]
      show l.take i :: Lib.splitK [10] 0 (Lib.count (l.drop (i + 1)) [10]) (l.drop (i + 1)) = _
      rw [splitK_nl n (l.drop (i + 1)) (by rw [List.length_drop]; omega)]
      conv => rhs; rw [e]
      rw [splitNL_cut _ _ (fun c hc k => by
        obtain ⟨j, hj⟩ := List.getElem?_of_mem hc
        rw [List.getElem?_take] at hj
        split at hj
        · exact h2 j (by omega) (by rw [hj, k])
        · cases hj)]
theorem splitB_nl (l : List UInt8) : Lib.splitB ⟨#[10]⟩ 0 (Lib.countB (mk l) ⟨#[10]⟩) (mk l) = (splitNL l).map mk := by
  have h := Lib.splitB_data ⟨#[10]⟩ 0 (Lib.countB (mk l) ⟨#[10]⟩) (mk l)
  have h2 : Lib.splitK [10] 0 (Lib.count l [10]) l = splitNL l := splitK_nl l.length l (Nat.le_refl _)
  have h3 : List.map (fun x : ByteArray => x.data.toList) (Lib.splitB ⟨#[10]⟩ 0 (Lib.countB (mk l) ⟨#[10]⟩) (mk l)) = splitNL l := h.trans h2
  rw [← h3, List.map_map]
  conv => lhs; rw [← List.map_id (Lib.splitB ⟨#[10]⟩ 0 (Lib.countB (mk l) ⟨#[10]⟩) (mk l))]
  exact List.map_congr_left fun x _ => rfl
theorem splitNL_ne (l : List UInt8) : splitNL l ≠ [] := by
  cases l with
  | nil => simp [splitNL]
  | cons c r =>
    unfold splitNL
    split
    · simp
    · split <;> simp
theorem splitNL_sum : ∀ (l : List UInt8), (splitNL l).length ≤ l.length + 1 ∧ ∀ p ∈ splitNL l, p.length ≤ l.length
  | [] => by simp [splitNL]
  | c :: r => by
    obtain ⟨h1, h2⟩ := splitNL_sum r
    unfold splitNL
    split
    · refine ⟨by simp; omega, fun p hp => ?_⟩
      rcases List.mem_cons.1 hp with rfl | hp
      · simp
      · have := h2 p hp; simp; omega
    · cases hs : splitNL r with
      | nil => exact absurd hs (splitNL_ne r)
      | cons q qs =>
        rw [hs] at h1 h2
        refine ⟨by simp at h1 ⊢; omega, fun p hp => ?_⟩
        rcases List.mem_cons.1 hp with rfl | hp
        · have := h2 q (by simp); simp; omega
        · have := h2 p (List.mem_cons_of_mem _ hp); simp; omega
/-! A line without its comment and blanks. -/
def blankB (c : UInt8) : Bool := c == 32 || c == 9
def cutHash (p : List UInt8) : List UInt8 := p.takeWhile (fun c => c != 35)
def trimB (p : List UInt8) : List UInt8 := ((p.reverse.dropWhile blankB).reverse).dropWhile blankB
def bareL (p : List UInt8) : List UInt8 := trimB (cutHash p)
/-! What stands there. -/
def arrLine (a : Ar) : List UInt8 := [46, 97, 114, 114, 97, 121, 32] ++ (a.name ++ 32 :: Lib.itoa a.size)
def arrOk (a : Ar) : Prop := labelB a.name = true ∧ 1 ≤ a.size ∧ a.size ≤ 1048576
open Classical in
noncomputable def readA (t : List UInt8) : Option Ar := if h : ∃ a, arrOk a ∧ t = arrLine a then some h.choose else none
open Classical in
noncomputable def readI2 (t : List UInt8) : Option In := if h : ∃ x, rightB x = true ∧ I64 x.n ∧ txtL x = t then some h.choose else none
noncomputable def readLn (t : List UInt8) : Option Ln := if t.getLast? = some 58 then (if labelB t.dropLast then some ⟨t.dropLast, zeroI⟩ else none) else (readI2 t).map fun x => ⟨[], x⟩
theorem lab_no32 {n : List UInt8} (h : labelB n = true) : ∀ c ∈ n, c ≠ 32 := fun c hc e => by
  have := (lab_all h).1 c hc
  rw [e] at this
  exact absurd this (by decide)
theorem cutB_at (a b : List UInt8) (h : ∀ c ∈ a, c ≠ 32) : Lib.cut (a ++ 32 :: b) [32] = (a, b, true) := by
  have hi : Lib.indexByte (a ++ 32 :: b) 32 = a.length := by
    induction a with
    | nil => simp [Lib.indexByte]
    | cons x a ih =>
      have hx : x ≠ 32 := h x (by simp)
      have := ih (fun c hc => h c (List.mem_cons_of_mem _ hc))
      rw [List.cons_append]
      unfold Lib.indexByte
      rw [this]
      simp [hx]
  unfold Lib.cut
  rw [Lib.index_one, hi, if_pos (by omega)]
  simp
theorem arr_inj {a b : Ar} (ha : arrOk a) (hb : arrOk b) (h : arrLine a = arrLine b) : a = b := by
  unfold arrLine at h
  have h2 := List.append_cancel_left h
  have c1 := cutB_at a.name (Lib.itoa a.size) (lab_no32 ha.1)
  have c2 := cutB_at b.name (Lib.itoa b.size) (lab_no32 hb.1)
  rw [h2, c2] at c1
  simp only [Prod.mk.injEq] at c1
  have e := itoa_inj (a := a.size) (b := b.size) ⟨by have := ha.2.1; omega, by have := ha.2.2; omega⟩ ⟨by have := hb.2.1; omega, by have := hb.2.2; omega⟩ c1.2.1.symm
  cases a; cases b
  simp_all
theorem readA_some {a : Ar} (h : arrOk a) : readA (arrLine a) = some a := by
  unfold readA
  have k : ∃ b, arrOk b ∧ arrLine a = arrLine b := ⟨a, h, rfl⟩
  rw [dif_pos k, arr_inj k.choose_spec.1 h k.choose_spec.2.symm]
theorem readA_none {t : List UInt8} (h : ∀ a, arrOk a → t ≠ arrLine a) : readA t = none := by
  unfold readA
  rw [dif_neg (fun ⟨a, h1, h2⟩ => h a h1 h2)]
theorem readA_ok {t : List UInt8} {a : Ar} (h : readA t = some a) : arrOk a ∧ t = arrLine a := by
  unfold readA at h
  split at h
  · rename_i k
    injection h with h
    rw [← h]
    exact k.choose_spec
  · cases h
theorem readI2_some {x : In} (h : rightB x = true) (hn : I64 x.n) : readI2 (txtL x) = some x := by
  unfold readI2
  have k : ∃ y, rightB y = true ∧ I64 y.n ∧ txtL y = txtL x := ⟨x, h, hn, rfl⟩
  rw [dif_pos k, txt_inj k.choose_spec.1 h k.choose_spec.2.1 hn k.choose_spec.2.2]
theorem readI2_none {t : List UInt8} (h : ∀ x, rightB x = true → I64 x.n → txtL x ≠ t) : readI2 t = none := by
  unfold readI2
  rw [dif_neg (fun ⟨a, h1, h2, h3⟩ => h a h1 h2 h3)]
theorem readI2_ok {t : List UInt8} {x : In} (h : readI2 t = some x) : rightB x = true ∧ I64 x.n ∧ txtL x = t := by
  unfold readI2 at h
  split at h
  · rename_i k
    injection h with h
    rw [← h]
    exact k.choose_spec
  · cases h
/-! The whole text. -/
structure Ps where
  arrs : List Ar
  lns : List Ln
  fr : List Int
noncomputable def stepPs (st : Ps) (i : Nat) (t : List UInt8) : Option Ps :=
  if t = [] then some st
  else match (if st.lns = [] then readA t else none) with
    | some a => some { st with arrs := st.arrs ++ [a] }
    | none => match readLn t with
      | some l => some { st with lns := st.lns ++ [l], fr := st.fr ++ [(i : Int) + 1] }
      | none => none
noncomputable def runPs : List (List UInt8) → Nat → Ps → Int ⊕ Ps
  | [], _, st => .inr st
  | p :: r, i, st => match stepPs st i (bareL p) with
    | some s => runPs r (i + 1) s
    | none => .inl ((i : Int) + 1)
def endPs (st : Ps) : Cd × Int × Int :=
  if (faultL ⟨st.lns, st.arrs⟩).2 ≠ -1 then (⟨[], []⟩, (faultL ⟨st.lns, st.arrs⟩).1, st.fr.getD (faultL ⟨st.lns, st.arrs⟩).2.toNat 0)
  else if (faultL ⟨st.lns, st.arrs⟩).1 ≠ 0 then (⟨[], []⟩, (faultL ⟨st.lns, st.arrs⟩).1, 1)
  else (⟨st.lns, st.arrs⟩, 0, 0)
noncomputable def parseL (t : List UInt8) : Cd × Int × Int := match runPs (splitNL t) 0 ⟨[], [], []⟩ with
  | .inl k => (⟨[], []⟩, 60, k)
  | .inr st => endPs st
end Go.Proofs.YtlaihjefmhcmcaaGreatDoor
