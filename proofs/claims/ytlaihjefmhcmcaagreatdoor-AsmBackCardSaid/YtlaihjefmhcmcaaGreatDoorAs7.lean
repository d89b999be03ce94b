/- Plain words: what is printed is read back. -/
import Derived.Test.YtlaihjefmhcmcaaGreatDoorAsB
namespace Go.Proofs.YtlaihjefmhcmcaaGreatDoor
set_option linter.unusedVariables false
def okT (c : UInt8) : Bool := inLabB c || c == 32 || c == 44 || c == 40 || c == 41 || c == 45 || c == 58
theorem okT_no {c : UInt8} (h : okT c = true) : c ≠ 35 ∧ c ≠ 10 ∧ c ≠ 9 := by
  refine ⟨?_, ?_, ?_⟩ <;> (intro e; rw [e] at h; exact absurd h (by decide))
theorem lab_ok {c : UInt8} (h : inLabB c = true) : okT c = true := by unfold okT; rw [h]; rfl
theorem num_ok {c : UInt8} (h : inNumB c = true) : okT c = true ∧ blankB c = false := by
  have := of_decide_eq_true h
  constructor
  · rcases this with k | k
    · exact lab_ok (decide_eq_true (.inl k))
    · have e : c = 45 := UInt8.toNat_inj.1 k
      rw [e]; decide
  · unfold blankB
    rw [Bool.or_eq_false_iff]
    constructor <;> (rw [beq_eq_false_iff_ne]; intro e; rw [e] at this; revert this; decide)
theorem lab_nb {c : UInt8} (h : inLabB c = true) : blankB c = false := by
  unfold blankB
  rw [Bool.or_eq_false_iff]
  constructor <;> (rw [beq_eq_false_iff_ne]; intro e; rw [e] at h; exact absurd h (by decide))
/-- A text with no blank at its ends, no comment, no line feed. -/
structure Core (t : List UInt8) : Prop where
  ok : ∀ c ∈ t, okT c = true
  first : ∃ x r, t = x :: r ∧ blankB x = false
  last : ∃ q y, t = q ++ [y] ∧ blankB y = false
theorem drop_pre {p t : List UInt8} (hp : ∀ c ∈ p, blankB c = true) (ht : ∃ x r, t = x :: r ∧ blankB x = false) : (p ++ t).dropWhile blankB = t := by
  obtain ⟨x, r, rfl, hx⟩ := ht
  induction p with
  | nil => rw [List.nil_append, List.dropWhile_cons, if_neg (by rw [hx]; simp)]
  | cons a p ih =>
    rw [List.cons_append, List.dropWhile_cons, if_pos (hp a (by simp))]
    exact ih (fun c hc => hp c (List.mem_cons_of_mem _ hc))
theorem trim_mid {t p b : List UInt8} (h : Core t) (hp : ∀ c ∈ p, blankB c = true) (hb : ∀ c ∈ b, blankB c = true) : trimB (p ++ t ++ b) = t := by
  unfold trimB
  obtain ⟨q, y, e, hy⟩ := h.last
  have e1 : (p ++ t ++ b).reverse = b.reverse ++ (t.reverse ++ p.reverse) := by simp
  rw [e1, drop_pre (fun c hc => hb c (List.mem_reverse.1 hc)) ⟨y, q.reverse ++ p.reverse, by rw [e]; simp, hy⟩]
  have e2 : (t.reverse ++ p.reverse).reverse = p ++ t := by simp
  rw [e2, drop_pre hp h.first]
theorem blank_no {c : UInt8} (h : blankB c = true) : c ≠ 35 := by
  intro e; rw [e] at h; exact absurd h (by decide)
theorem hash_all : ∀ (l : List UInt8), (∀ c ∈ l, c ≠ 35) → ∀ tail, (tail = [] ∨ ∃ r, tail = 35 :: r) → cutHash (l ++ tail) = l
  | [], _, tail, ht => by
    rcases ht with rfl | ⟨r, rfl⟩
    · rfl
    · unfold cutHash; rfl
  | x :: l, h, tail, ht => by
    have ih := hash_all l (fun c hc => h c (List.mem_cons_of_mem _ hc)) tail ht
    unfold cutHash at ih ⊢
    rw [List.cons_append, List.takeWhile_cons, if_pos (by simp [h x (by simp)]), ih]
theorem bare_mid {t p b tail : List UInt8} (h : Core t) (hp : ∀ c ∈ p, blankB c = true) (hb : ∀ c ∈ b, blankB c = true) (ht : tail = [] ∨ ∃ r, tail = 35 :: r) : bareL (p ++ t ++ b ++ tail) = t := by
  unfold bareL
  rw [hash_all (p ++ t ++ b) (fun c hc => ?_) tail ht, trim_mid h hp hb]
  rcases List.mem_append.1 hc with hc | hc
  · rcases List.mem_append.1 hc with hc | hc
    · exact blank_no (hp c hc)
    · exact (okT_no (h.ok c hc)).1
  · exact blank_no (hb c hc)
theorem bare_none {p tail : List UInt8} (hp : ∀ c ∈ p, blankB c = true) (ht : tail = [] ∨ ∃ r, tail = 35 :: r) : bareL (p ++ tail) = [] := by
  unfold bareL
  rw [hash_all p (fun c hc => blank_no (hp c hc)) tail ht]
  unfold trimB
  have e : ∀ l : List UInt8, (∀ c ∈ l, blankB c = true) → l.dropWhile blankB = [] := by
    intro l
    induction l with
    | nil => intro _; rfl
    | cons a l ih => intro h; rw [List.dropWhile_cons, if_pos (h a (by simp)), ih (fun c hc => h c (List.mem_cons_of_mem _ hc))]
  rw [e _ (fun c hc => hp c (List.mem_reverse.1 hc))]; rfl
/-! A line's text. -/
def lnCore (l : Ln) : List UInt8 := if l.label ≠ [] then l.label ++ [58] else txtL l.ins
def lnPre (l : Ln) : List UInt8 := if l.label ≠ [] then [] else [9]
theorem lnTxt_eq (l : Ln) : lnTxt l = lnPre l ++ lnCore l ++ [10] := by
  unfold lnTxt lnPre lnCore
  split
  · simp
  · simp
def GoodLn (l : Ln) : Prop := (l.label ≠ [] → labelB l.label = true ∧ l.ins = zeroI) ∧ (l.label = [] → rightB l.ins = true ∧ I64 l.ins.n)
theorem core_lab {n : List UInt8} (h : labelB n = true) : Core (n ++ [58]) := by
  obtain ⟨h1, h2, _⟩ := lab_all h
  refine ⟨fun c hc => ?_, ?_, ⟨n, 58, rfl, by decide⟩⟩
  · rcases List.mem_append.1 hc with hc | hc
    · exact lab_ok (h1 c hc)
    · rw [List.mem_singleton.1 hc]; decide
  · cases n with
    | nil => simp at h2
    | cons x r => exact ⟨x, r ++ [58], rfl, lab_nb (h1 x (by simp))⟩
theorem nm_fin2 : ∀ k : Fin 28, ((nmL ((k.val : Int) + 1)).all inLabB = true ∧ (nmL ((k.val : Int) + 1)).head? ≠ some 46) := by decide +kernel
theorem nm_ok {op : Int} (h : isOp op = true) : (∀ c ∈ nmL op, inLabB c = true) ∧ ∃ x r, nmL op = x :: r ∧ x ≠ 46 := by
  obtain ⟨k, rfl⟩ := op_nat h
  obtain ⟨a, b⟩ := nm_fin2 k
  refine ⟨List.all_eq_true.1 a, ?_⟩
  have hl := (nm_len (op := (k.val : Int) + 1) h).1
  cases e : nmL ((k.val : Int) + 1) with
  | nil => rw [e] at hl; simp at hl
  | cons x r =>
    refine ⟨x, r, rfl, fun k => ?_⟩
    rw [e, k] at b
    exact b rfl
theorem itoa_last (v : Int) : ∃ q y, Lib.itoa v = q ++ [y] ∧ inNumB y = true := by
  have hne := itoa_ne v
  refine ⟨(Lib.itoa v).dropLast, (Lib.itoa v).getLast hne, (List.dropLast_concat_getLast hne).symm, itoa_in v _ (List.getLast_mem hne)⟩
def tplOk (c : UInt8) : Bool := c == 68 || c == 65 || c == 66 || c == 78 || c == 83 || c == 76 || c == 44 || c == 32 || c == 40 || c == 41
theorem has_tpl : ∀ k : Fin 28, (hasL ((k.val : Int) + 1)).all tplOk = true ∧ ((hasL ((k.val : Int) + 1)) = [] ∨ (hasL ((k.val : Int) + 1)).getLast? = some 65 ∨ (hasL ((k.val : Int) + 1)).getLast? = some 66 ∨ (hasL ((k.val : Int) + 1)).getLast? = some 78 ∨ (hasL ((k.val : Int) + 1)).getLast? = some 83 ∨ (hasL ((k.val : Int) + 1)).getLast? = some 76 ∨ (hasL ((k.val : Int) + 1)).getLast? = some 41) := by decide +kernel
theorem piece_ok {x : In} (hn : x.name ≠ [] → ∀ c ∈ x.name, inLabB c = true) {c : UInt8} (hc : tplOk c = true) : ∀ y ∈ pieceL x c, okT y = true := by
  have hx : ∀ v : Int, ∀ y ∈ (120 : UInt8) :: Lib.itoa v, okT y = true := by
    intro v y hy
    rcases List.mem_cons.1 hy with rfl | hy
    · decide
    · exact (num_ok (itoa_in v y hy)).1
  intro y hy
  unfold pieceL at hy
  split at hy
  · exact hx _ y hy
  split at hy
  · exact hx _ y hy
  split at hy
  · exact hx _ y hy
  split at hy
  · exact (num_ok (itoa_in _ y hy)).1
  split at hy
  · exact (num_ok (itoa_in _ y hy)).1
  split at hy
  · exact lab_ok (hn (by intro e; rw [e] at hy; cases hy) y hy)
  · rename_i h1 h2 h3 h4 h5 h6
    rw [List.mem_singleton.1 hy]
    unfold tplOk at hc
    simp [h1, h2, h3, h4, h5, h6] at hc
    rcases hc with ((rfl | rfl) | rfl) | rfl <;> decide
theorem core_txt {x : In} (h : rightB x = true) : Core (txtL x) ∧ (∃ y r, txtL x = y :: r ∧ y ≠ 46) ∧ (txtL x).getLast? ≠ some 58 := by
  have hop := right_op h
  obtain ⟨hn1, y, r, hnm, hy46⟩ := nm_ok hop
  have hname : x.name ≠ [] → ∀ c ∈ x.name, inLabB c = true := by
    intro hne
    have hc := lab_of_name h hne
    rw [right_eq] at h
    unfold rightE at h
    rw [hc] at h
    simp only [Bool.and_eq_true] at h
    exact (lab_all (by simpa using h.2)).1
  have hname2 : (hasL x.op).contains 76 = true → labelB x.name = true := by
    intro hc
    rw [right_eq] at h
    unfold rightE at h
    rw [hc] at h
    simp only [Bool.and_eq_true] at h
    simpa using h.2
  obtain ⟨t1, t2⟩ : (hasL x.op).all tplOk = true ∧ (hasL x.op = [] ∨ (hasL x.op).getLast? = some 65 ∨ (hasL x.op).getLast? = some 66 ∨ (hasL x.op).getLast? = some 78 ∨ (hasL x.op).getLast? = some 83 ∨ (hasL x.op).getLast? = some 76 ∨ (hasL x.op).getLast? = some 41) := by
    obtain ⟨k, hk⟩ := op_nat hop
    rw [hk]; exact has_tpl k
  have hy : inLabB y = true := hn1 y (by rw [hnm]; simp)
  have okargs : ∀ c ∈ argsL x, okT c = true := by
    intro c hc
    unfold argsL at hc
    obtain ⟨t, ht, hc⟩ := List.mem_flatMap.1 hc
    exact piece_ok hname (List.all_eq_true.1 t1 t ht) c hc
  have okall : ∀ c ∈ txtL x, okT c = true := by
    intro c hc
    unfold txtL at hc
    split at hc
    · exact lab_ok (hn1 c hc)
    · rcases List.mem_append.1 hc with hc | hc
      · exact lab_ok (hn1 c hc)
      · rcases List.mem_cons.1 hc with rfl | hc
        · decide
        · exact okargs c hc
  have hfirst : ∃ r', txtL x = y :: r' := by
    unfold txtL
    split
    · exact ⟨r, hnm⟩
    · exact ⟨r ++ 32 :: argsL x, by rw [hnm]; rfl⟩
  have hlast : ∃ q z, txtL x = q ++ [z] ∧ blankB z = false ∧ z ≠ 58 := by
    by_cases he : hasL x.op = []
    · have hne : nmL x.op ≠ [] := by rw [hnm]; simp
      refine ⟨(nmL x.op).dropLast, (nmL x.op).getLast hne, ?_, lab_nb (hn1 _ (List.getLast_mem hne)), fun e => ?_⟩
      · unfold txtL; rw [if_pos he]; exact (List.dropLast_concat_getLast hne).symm
      · have := hn1 _ (List.getLast_mem hne)
        rw [e] at this
        exact absurd this (by decide)
    · have hp : ∀ c, (hasL x.op).getLast? = some c → (∃ q z, pieceL x c = q ++ [z] ∧ blankB z = false ∧ z ≠ 58) → ∃ q z, txtL x = q ++ [z] ∧ blankB z = false ∧ z ≠ 58 := by
        rintro c hc ⟨q, z, e, hz⟩
        have e2 : hasL x.op = (hasL x.op).dropLast ++ [c] := by
          rw [List.getLast?_eq_some_getLast he] at hc
          injection hc with hc
          rw [← hc]; exact (List.dropLast_concat_getLast he).symm
        refine ⟨nmL x.op ++ 32 :: ((hasL x.op).dropLast.flatMap (pieceL x) ++ q), z, ?_, hz⟩
        unfold txtL
        rw [if_neg he]
        unfold argsL
        conv => lhs; rw [e2]
        rw [List.flatMap_append]
        simp [e]
      have hnum : ∀ v : Int, ∃ q z, Lib.itoa v = q ++ [z] ∧ blankB z = false ∧ z ≠ 58 := by
        intro v
        obtain ⟨q, z, e, hz⟩ := itoa_last v
        exact ⟨q, z, e, (num_ok hz).2, fun k => by rw [k] at hz; exact absurd hz (by decide)⟩
      have hreg : ∀ v : Int, ∃ q z, (120 : UInt8) :: Lib.itoa v = q ++ [z] ∧ blankB z = false ∧ z ≠ 58 := by
        intro v
        obtain ⟨q, z, e, hz⟩ := hnum v
        exact ⟨120 :: q, z, by rw [e]; rfl, hz⟩
      rcases t2 with k | k | k | k | k | k | k
      · exact absurd k he
      · exact hp _ k (hreg _)
      · exact hp _ k (hreg _)
      · exact hp _ k (hnum _)
      · exact hp _ k (hnum _)
      · refine hp _ k ?_
        have hc : (hasL x.op).contains 76 = true := List.contains_iff_mem.2 (List.mem_of_getLast? k)
        have hl := hname2 hc
        have hne := lab_ne hl
        refine ⟨x.name.dropLast, x.name.getLast hne, (List.dropLast_concat_getLast hne).symm, lab_nb ((lab_all hl).1 _ (List.getLast_mem hne)), fun e => ?_⟩
        have := (lab_all hl).1 _ (List.getLast_mem hne)
        rw [e] at this
        exact absurd this (by decide)
      · exact hp _ k ⟨[], 41, rfl, by decide, by decide⟩
  obtain ⟨r', hr'⟩ := hfirst
  obtain ⟨q, z, hq, hz, hz58⟩ := hlast
  refine ⟨⟨okall, ⟨y, r', hr', lab_nb hy⟩, ⟨q, z, hq, hz⟩⟩, ⟨y, r', hr', hy46⟩, ?_⟩
  rw [hq]
  simpa using hz58
theorem ln_read {l : Ln} (h : GoodLn l) : Core (lnCore l) ∧ readLn (lnCore l) = some l ∧ readA (lnCore l) = none := by
  unfold lnCore
  obtain ⟨lab, x⟩ := l
  by_cases e : lab = []
  · obtain ⟨h1, h2⟩ := h.2 e
    rw [if_neg (by simp [e])]
    obtain ⟨k1, ⟨y, r, k2, k3⟩, k4⟩ := core_txt h1
    refine ⟨k1, ?_, ?_⟩
    · have : readLn (txtL x) = some ⟨[], x⟩ := by
        unfold readLn
        rw [if_neg k4, readI2_some h1 h2]; rfl
      rw [this, e]
    · show readA (txtL x) = none
      rw [k2]
      refine readA_none (fun a _ ea => ?_)
      unfold arrLine at ea
      have e2 : y :: r = 46 :: ([97, 114, 114, 97, 121, 32] ++ (a.name ++ 32 :: Lib.itoa a.size)) := ea
      injection e2 with e3 _
      exact k3 e3
  · obtain ⟨h1, h2⟩ := h.1 e
    rw [if_pos e]
    refine ⟨core_lab h1, ?_, ?_⟩
    · show readLn (lab ++ [58]) = _
      have h2 : x = zeroI := h2
      unfold readLn
      rw [if_pos (by simp), List.dropLast_concat, if_pos h1, h2]
    · refine readA_none (fun a _ ea => ?_)
      have hm : (32 : UInt8) ∈ arrLine a := by unfold arrLine; simp
      rw [← ea] at hm
      rcases List.mem_append.1 hm with hm | hm
      · exact lab_no32 h1 32 hm rfl
      · simp at hm
theorem arr_read {a : Ar} (h : arrOk a) : Core (arrLine a) ∧ readA (arrLine a) = some a := by
  refine ⟨⟨fun c hc => ?_, ⟨46, _, rfl, by decide⟩, ?_⟩, readA_some h⟩
  · unfold arrLine at hc
    rcases List.mem_append.1 hc with hc | hc
    · simp at hc
      rcases hc with rfl | rfl | rfl | rfl | rfl | rfl <;> decide
    · rcases List.mem_append.1 hc with hc | hc
      · exact lab_ok ((lab_all h.1).1 c hc)
      · rcases List.mem_cons.1 hc with rfl | hc
        · decide
        · exact (num_ok (itoa_in _ c hc)).1
  · obtain ⟨q, y, e, hy⟩ := itoa_last a.size
    refine ⟨[46, 97, 114, 114, 97, 121, 32] ++ (a.name ++ 32 :: q), y, ?_, (num_ok hy).2⟩
    unfold arrLine
    rw [e]; simp
end Go.Proofs.YtlaihjefmhcmcaaGreatDoor
