/- Blocks of code, in plain words. -/
import Derived.Test.YtnfoplefaibmhaaGreatDoorAs3
namespace Go.Proofs.YtnfoplefaibmhaaGreatDoor
set_option linter.unusedVariables false
def branB (op : Int) : Bool := decide (op = 21 ∨ op = 22 ∨ op = 23 ∨ op = 24)
def turnsB (op : Int) : Bool := decide (op = 21 ∨ op = 22 ∨ op = 23 ∨ op = 24 ∨ op = 25 ∨ op = 26 ∨ op = 27)
theorem turnsB_iff (op : Int) : turnsB op = true ↔ 21 ≤ op ∧ op ≤ 27 := by unfold turnsB; rw [decide_eq_true_iff]; omega
theorem branB_iff (op : Int) : branB op = true ↔ 21 ≤ op ∧ op ≤ 24 := by unfold branB; rw [decide_eq_true_iff]; omega
def isB (L : List In) (T : List Int) (k : Nat) : Bool :=
  k == 0 || T.contains (k : Int) || (match k with | 0 => false | i + 1 => match L[i]? with | some x => turnsB x.op | none => false)
def begsN (L : List In) (T : List Int) : List Nat := (List.range L.length).filter (isB L T)
def begI (L : List In) (T : List Int) : List Int := (begsN L T).map fun (k : Nat) => (k : Int)
def Bp (L : List In) (T : List Int) (j : Nat) (k : Int) : Prop :=
  k = 0 ∨ (∃ i, i < j ∧ ∃ t, T[i]? = some t ∧ 0 ≤ t ∧ k = t) ∨ (∃ i, i < j ∧ ∃ x, L[i]? = some x ∧ turnsB x.op = true ∧ k = (i : Int) + 1)
theorem Bp_zero (L : List In) (T : List Int) (k : Int) : Bp L T 0 k ↔ k = 0 := by
  constructor
  · rintro (h | ⟨i, hi, _⟩ | ⟨i, hi, _⟩)
    · exact h
    · omega
    · omega
  · exact .inl
theorem Bp_step {L : List In} {T : List Int} {j : Nat} {x : In} {t : Int} (hx : L[j]? = some x) (ht : T[j]? = some t) (k : Int) :
    Bp L T (j + 1) k ↔ Bp L T j k ∨ (0 ≤ t ∧ k = t) ∨ (turnsB x.op = true ∧ k = (j : Int) + 1) := by
  constructor
  · rintro (h | ⟨i, hi, t', e, h0, h1⟩ | ⟨i, hi, x', e, h0, h1⟩)
    · exact .inl (.inl h)
    · by_cases hij : i = j
      · subst hij
        rw [ht] at e
        cases e
        exact .inr (.inl ⟨h0, h1⟩)
      · exact .inl (.inr (.inl ⟨i, by omega, t', e, h0, h1⟩))
    · by_cases hij : i = j
      · subst hij
        rw [hx] at e
        cases e
        exact .inr (.inr ⟨h0, h1⟩)
      · exact .inl (.inr (.inr ⟨i, by omega, x', e, h0, h1⟩))
  · rintro ((h | ⟨i, hi, r⟩ | ⟨i, hi, r⟩) | ⟨h0, h1⟩ | ⟨h0, h1⟩)
    · exact .inl h
    · exact .inr (.inl ⟨i, by omega, r⟩)
    · exact .inr (.inr ⟨i, by omega, r⟩)
    · exact .inr (.inl ⟨j, by omega, t, ht, h0, h1⟩)
    · exact .inr (.inr ⟨j, by omega, x, hx, h0, h1⟩)
theorem isB_iff {L : List In} {T : List Int} (hT : T.length = L.length) (k : Nat) : isB L T k = true ↔ Bp L T L.length (k : Int) := by
  unfold isB Bp
  rw [Bool.or_eq_true, Bool.or_eq_true, beq_iff_eq, List.contains_iff_mem]
  constructor
  · rintro ((h | h) | h)
    · exact .inl (by omega)
    · obtain ⟨i, hi, e⟩ := List.mem_iff_getElem.1 h
      exact .inr (.inl ⟨i, by omega, (k : Int), by rw [List.getElem?_eq_getElem hi, e], by omega, rfl⟩)
    · cases k with
      | zero => simp at h
      | succ i =>
        simp only at h
        split at h
        · rename_i x hx
          exact .inr (.inr ⟨i, (List.getElem?_eq_some_iff.1 hx).1, x, hx, h, by omega⟩)
        · cases h
  · rintro (h | ⟨i, hi, t, e, h0, h1⟩ | ⟨i, hi, x, e, h0, h1⟩)
    · exact .inl (.inl (by omega))
    · exact .inl (.inr (by rw [h1]; exact List.mem_of_getElem? e))
    · obtain rfl : k = i + 1 := by omega
      refine .inr ?_
      simp only [e]
      exact h0
theorem begs_lt {L : List In} {T : List Int} {k : Nat} (h : k ∈ begsN L T) : k < L.length := List.mem_range.1 (List.mem_filter.1 h).1
theorem begs_mem {L : List In} {T : List Int} (hT : T.length = L.length) (hb : ∀ t ∈ T, t ≤ (L.length : Int)) (k : Int) : (Bp L T L.length k ∧ k ≠ (L.length : Int)) ↔ k ∈ begI L T := by
  unfold begI
  rw [List.mem_map]
  constructor
  · rintro ⟨h, hne⟩
    have hk : 0 ≤ k ∧ k ≤ (L.length : Int) := by
      rcases h with h | ⟨i, hi, t, e, h0, h1⟩ | ⟨i, hi, x, e, h0, h1⟩
      · omega
      · have := hb t (List.mem_of_getElem? e); omega
      · omega
    obtain ⟨m, rfl⟩ := Int.eq_ofNat_of_zero_le hk.1
    exact ⟨m, List.mem_filter.2 ⟨List.mem_range.2 (by omega), (isB_iff hT m).2 h⟩, rfl⟩
  · rintro ⟨m, hm, rfl⟩
    exact ⟨(isB_iff hT m).1 (List.mem_filter.1 hm).2, by have := begs_lt hm; omega⟩
theorem begs_rising (L : List In) (T : List Int) : (begsN L T).Pairwise (· < ·) := List.pairwise_lt_range.filter _
theorem rising_int {l : List Nat} (h : l.Pairwise (· < ·)) : (l.map fun (k : Nat) => (k : Int)).Pairwise (· < ·) := List.pairwise_map.2 (h.imp fun {a b} hab => by omega)
theorem begI_rising (L : List In) (T : List Int) : (begI L T).Pairwise (· < ·) := rising_int (begs_rising L T)
theorem begI_len (L : List In) (T : List Int) : (begI L T).length = (begsN L T).length := by unfold begI; rw [List.length_map]
theorem begs_len (L : List In) (T : List Int) : (begsN L T).length ≤ L.length := by
  have := List.length_filter_le (isB L T) (List.range L.length)
  rw [List.length_range] at this
  exact this
/-! Landings. -/
def landL (L : List In) : List Int := (L.zipIdx.filter fun p => p.1.op == 26).map fun p => (p.2 : Int) + 1
theorem landL_nil : landL [] = [] := rfl
theorem landL_snoc (L : List In) (x : In) : landL (L ++ [x]) = if x.op = 26 then landL L ++ [(L.length : Int) + 1] else landL L := by
  unfold landL
  rw [List.zipIdx_append, List.filter_append, List.map_append]
  by_cases h : x.op = 26 <;> simp [h]
theorem landL_len (L : List In) : (landL L).length ≤ L.length := by
  unfold landL
  rw [List.length_map]
  have := List.length_filter_le (fun p : In × Nat => p.1.op == 26) L.zipIdx
  rw [List.length_zipIdx] at this
  exact this
theorem landL_mem {L : List In} {k : Int} : k ∈ landL L ↔ ∃ (i : Nat) (x : In), L[i]? = some x ∧ x.op = 26 ∧ k = (i : Int) + 1 := by
  unfold landL
  rw [List.mem_map]
  constructor
  · rintro ⟨⟨x, i⟩, hp, rfl⟩
    obtain ⟨h1, h2⟩ := List.mem_filter.1 hp
    exact ⟨i, x, List.mk_mem_zipIdx_iff_getElem?.1 h1, by simpa using h2, rfl⟩
  · rintro ⟨i, x, h1, h2, rfl⟩
    exact ⟨(x, i), List.mem_filter.2 ⟨List.mk_mem_zipIdx_iff_getElem?.2 h1, by simpa using h2⟩, rfl⟩
/-! Where a block leads to. -/
def leadsX (L : List In) (x : In) (t : Int) (last : Nat) : List Int :=
  if branB x.op = true then [t, (last : Int) + 1] else if x.op = 25 ∨ x.op = 26 then [t] else if x.op = 27 then landL L else [(last : Int) + 1]
/-! Blocks. -/
def endOf (B : List Nat) (n i : Nat) : Nat := B.getD (i + 1) n
def splitL (B : List Nat) (n : Nat) : List (Nat × Nat) := (List.range B.length).map fun i => (B.getD i 0, endOf B n i)
theorem splitL_len (B : List Nat) (n : Nat) : (splitL B n).length = B.length := by unfold splitL; rw [List.length_map, List.length_range]
theorem splitL_get {B : List Nat} {n i : Nat} (h : i < B.length) (h' : i < (splitL B n).length) : (splitL B n)[i]'h' = (B[i]'h, endOf B n i) := by
  have e : (splitL B n)[i]? = some (B[i]'h, endOf B n i) := by
    unfold splitL
    rw [List.getElem?_map, List.getElem?_range h, Option.map_some, List.getD_eq_getElem?_getD, List.getElem?_eq_getElem h]
    rfl
  rw [List.getElem?_eq_getElem h'] at e
  exact Option.some.inj e
end Go.Proofs.YtnfoplefaibmhaaGreatDoor
