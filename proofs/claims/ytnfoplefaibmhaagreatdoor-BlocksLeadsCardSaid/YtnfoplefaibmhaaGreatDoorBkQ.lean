/- The blocks' ends, where they lead; in plain words. -/
import Derived.Test.YtnfoplefaibmhaaGreatDoorBkP
import Derived.Test.YtnfoplefaibmhaaGreatDoorMapN
namespace Go.Proofs.YtnfoplefaibmhaaGreatDoor
set_option linter.unusedVariables false
def endsN (L : List In) (T : List Int) : List Nat := begsN L T ++ [L.length]
def nB (L : List In) (T : List Int) : Nat := (begsN L T).length
/-- Where block i begins; behind the last one, the end. -/
def eN (L : List In) (T : List Int) (i : Nat) : Nat := (endsN L T).getD i 0
theorem nB_le (L : List In) (T : List Int) : nB L T ≤ L.length := begs_len L T
theorem ends_len (L : List In) (T : List Int) : (endsN L T).length = nB L T + 1 := by unfold endsN nB; rw [List.length_append]; rfl
theorem ends_rising (L : List In) (T : List Int) : (endsN L T).Pairwise (· < ·) := by
  unfold endsN
  rw [List.pairwise_append]
  exact ⟨begs_rising L T, List.pairwise_singleton _ _, fun a ha b hb => by rw [List.mem_singleton.1 hb]; exact begs_lt ha⟩
theorem eN_get {L : List In} {T : List Int} {i : Nat} (h : i < (endsN L T).length) : (endsN L T)[i]'h = eN L T i := by
  unfold eN
  rw [List.getD_eq_getElem?_getD, List.getElem?_eq_getElem h]
  rfl
theorem eN_lt' {L : List In} {T : List Int} {i j : Nat} (hij : i < j) (hj : j ≤ nB L T) : eN L T i < eN L T j := by
  have hl := ends_len L T
  rw [← eN_get (by omega), ← eN_get (by omega)]
  exact List.pairwise_iff_getElem.1 (ends_rising L T) i j (by omega) (by omega) hij
theorem eN_last (L : List In) (T : List Int) : eN L T (nB L T) = L.length := by
  unfold eN endsN nB
  rw [List.getD_eq_getElem?_getD, List.getElem?_append_right (Nat.le_refl _), Nat.sub_self]
  rfl
theorem eN_le {L : List In} {T : List Int} {i : Nat} (h : i ≤ nB L T) : eN L T i ≤ L.length := by
  rcases Nat.lt_or_ge i (nB L T) with h1 | h1
  · have := eN_lt' h1 (Nat.le_refl _); rw [eN_last] at this; omega
  · obtain rfl : i = nB L T := by omega
    rw [eN_last]; exact Nat.le_refl _
theorem eN_mem {L : List In} {T : List Int} {i : Nat} (h : i < nB L T) : eN L T i ∈ begsN L T := by
  have e : eN L T i = (begsN L T)[i]'h := by
    unfold eN endsN
    rw [List.getD_eq_getElem?_getD, List.getElem?_append_left h, List.getElem?_eq_getElem h]
    rfl
  rw [e]
  exact List.getElem_mem h
theorem eN_beg {L : List In} {T : List Int} {i : Nat} (h : i < (begI L T).length) : (begI L T)[i]'h = (eN L T i : Int) := by
  have h' : i < (begsN L T).length := by rw [← begI_len]; exact h
  have e : (begI L T)[i]? = some (eN L T i : Int) := by
    unfold begI eN endsN
    rw [List.getElem?_map, List.getD_eq_getElem?_getD, List.getElem?_append_left h', List.getElem?_eq_getElem h']
    rfl
  rw [List.getElem?_eq_getElem h] at e
  exact Option.some.inj e
theorem mem_beg {L : List In} {T : List Int} {q : Nat} (h : q ∈ begsN L T) : ∃ i, i < nB L T ∧ eN L T i = q := by
  obtain ⟨i, hi, e⟩ := List.mem_iff_getElem.1 h
  refine ⟨i, hi, ?_⟩
  rw [← e]
  unfold eN endsN
  rw [List.getD_eq_getElem?_getD, List.getElem?_append_left hi, List.getElem?_eq_getElem hi]
  rfl
theorem zero_beg {L : List In} {T : List Int} (h : 0 < L.length) : 0 ∈ begsN L T := List.mem_filter.2 ⟨List.mem_range.2 h, rfl⟩
theorem eN_zero (L : List In) (T : List Int) : eN L T 0 = 0 := by
  rcases Nat.eq_zero_or_pos L.length with h | h
  · have := eN_le (Nat.zero_le (nB L T)); omega
  · obtain ⟨i, hi, e⟩ := mem_beg (zero_beg (T := T) h)
    rcases Nat.eq_zero_or_pos i with h0 | h0
    · subst h0; exact e
    · have := eN_lt' h0 (Nat.le_of_lt hi); omega
theorem eN_inj {L : List In} {T : List Int} {i j : Nat} (hi : i ≤ nB L T) (hj : j ≤ nB L T) (h : eN L T i = eN L T j) : i = j := by
  rcases Nat.lt_trichotomy i j with k | k | k
  · have := eN_lt' k hj; omega
  · exact k
  · have := eN_lt' k hi; omega
/-- Nothing begins inside a block. -/
theorem eN_gap {L : List In} {T : List Int} {i q : Nat} (hi : i < nB L T) (h1 : eN L T i < q) (h2 : q < eN L T (i + 1)) : q ∉ begsN L T := by
  intro h
  obtain ⟨j, hj, rfl⟩ := mem_beg h
  rcases Nat.lt_trichotomy i j with k | k | k
  · rcases Nat.lt_trichotomy (i + 1) j with m | m | m
    · have := eN_lt' m (Nat.le_of_lt hj); omega
    · rw [m] at h2; omega
    · omega
  · rw [k] at h1; omega
  · have := eN_lt' k (Nat.le_of_lt hi); omega
theorem beg_of {L : List In} {T : List Int} {q : Nat} (hq : q < L.length) (h : isB L T q = true) : q ∈ begsN L T := List.mem_filter.2 ⟨List.mem_range.2 hq, h⟩
theorem isB_to {L : List In} {T : List Int} {q : Nat} (h : (q : Int) ∈ T) : isB L T q = true := by
  unfold isB
  rw [List.contains_iff_mem.2 h]
  simp
theorem isB_turn {L : List In} {T : List Int} {i : Nat} {x : In} (h : L[i]? = some x) (ht : turnsB x.op = true) : isB L T (i + 1) = true := by
  unfold isB
  simp only [h, ht]
  simp
/-- A place that is led to: some block's beginning, or the end. -/
theorem place_of {L : List In} {T : List Int} {q : Nat} (hq : q ≤ L.length) (h : isB L T q = true) : ∃ i, i ≤ nB L T ∧ eN L T i = q := by
  rcases Nat.lt_or_ge q L.length with h1 | h1
  · obtain ⟨i, hi, e⟩ := mem_beg (beg_of h1 h)
    exact ⟨i, Nat.le_of_lt hi, e⟩
  · exact ⟨nB L T, Nat.le_refl _, by rw [eN_last]; omega⟩
/-- No turn but at a block's end. -/
theorem no_turn {L : List In} {T : List Int} {i k : Nat} {x : In} (hi : i < nB L T) (h1 : eN L T i ≤ k) (h2 : k + 1 < eN L T (i + 1)) (hx : L[k]? = some x) : turnsB x.op = false := by
  cases e : turnsB x.op with
  | false => rfl
  | true =>
    have hle := eN_le (show i + 1 ≤ nB L T by omega)
    exact absurd (beg_of (by omega) (isB_turn hx e)) (eN_gap hi (by omega) h2)
/-- Nothing leads into a block. -/
theorem no_into {L : List In} {T : List Int} {i : Nat} {t : Int} (hi : i < nB L T) (ht : t ∈ T) : ¬ ((eN L T i : Int) < t ∧ t < (eN L T (i + 1) : Int)) := by
  rintro ⟨h1, h2⟩
  obtain ⟨q, rfl⟩ := Int.eq_ofNat_of_zero_le (by omega : 0 ≤ t)
  have hle := eN_le (show i + 1 ≤ nB L T by omega)
  exact eN_gap hi (by omega) (by omega) (beg_of (by omega) (isB_to ht))
/-! Split. -/
def splitE (L : List In) (T : List Int) (j : Nat) : List (Nat × Nat) := (List.range j).map fun i => (eN L T i, eN L T (i + 1))
theorem splitE_len (L : List In) (T : List Int) (j : Nat) : (splitE L T j).length = j := by unfold splitE; rw [List.length_map, List.length_range]
theorem splitE_get {L : List In} {T : List Int} {j i : Nat} (h : i < (splitE L T j).length) : (splitE L T j)[i]'h = (eN L T i, eN L T (i + 1)) := by
  have hj : i < j := by rw [splitE_len] at h; exact h
  have e : (splitE L T j)[i]? = some (eN L T i, eN L T (i + 1)) := by
    unfold splitE
    rw [List.getElem?_map, List.getElem?_range hj]
    rfl
  rw [List.getElem?_eq_getElem h] at e
  exact Option.some.inj e
theorem splitE_succ (L : List In) (T : List Int) (j : Nat) : splitE L T (j + 1) = splitE L T j ++ [(eN L T j, eN L T (j + 1))] := by
  unfold splitE
  rw [List.range_succ, List.map_append]
  rfl
/-! What leads where. -/
/-- What is asked of code: branches, jumps and calls lead somewhere in it. -/
structure Goes (L : List In) (T : List Int) : Prop where
  len : T.length = L.length
  to : ∀ t ∈ T, -1 ≤ t ∧ t ≤ (L.length : Int)
  by_ : ∀ (i : Nat) (x : In) (t : Int), L[i]? = some x → T[i]? = some t → 21 ≤ x.op → x.op ≤ 26 → 0 ≤ t
  no_ : ∀ (i : Nat) (x : In) (t : Int), L[i]? = some x → T[i]? = some t → ¬ (21 ≤ x.op ∧ x.op ≤ 26) → t = -1
  op_ : ∀ (i : Nat) (x : In), L[i]? = some x → 1 ≤ x.op ∧ x.op ≤ 28
def lastN (L : List In) (T : List Int) (i : Nat) : Nat := eN L T (i + 1) - 1
theorem last_lt {L : List In} {T : List Int} {i : Nat} (hi : i < nB L T) : lastN L T i < L.length ∧ lastN L T i + 1 = eN L T (i + 1) ∧ eN L T i ≤ lastN L T i := by
  have h1 := eN_lt' (show i < i + 1 by omega) (show i + 1 ≤ nB L T by omega)
  have h2 := eN_le (show i + 1 ≤ nB L T by omega)
  unfold lastN
  omega
def leadsI (L : List In) (T : List Int) (i : Nat) : List Int :=
  match L[lastN L T i]?, T[lastN L T i]? with
  | some x, some t => leadsX L x t (lastN L T i)
  | _, _ => []
theorem leads_at {L : List In} {T : List Int} (g : Goes L T) {i : Nat} (hi : i < nB L T) : ∃ x t, L[lastN L T i]? = some x ∧ T[lastN L T i]? = some t ∧ leadsI L T i = leadsX L x t (lastN L T i) := by
  have h1 := (last_lt hi).1
  have h2 : lastN L T i < T.length := by have := g.len; omega
  refine ⟨_, _, List.getElem?_eq_getElem h1, List.getElem?_eq_getElem h2, ?_⟩
  unfold leadsI
  rw [List.getElem?_eq_getElem h1, List.getElem?_eq_getElem h2]
theorem to_place {L : List In} {T : List Int} (g : Goes L T) {j : Nat} {t : Int} (ht : T[j]? = some t) (h0 : 0 ≤ t) : ∃ k, k ≤ nB L T ∧ t = (eN L T k : Int) := by
  obtain ⟨q, rfl⟩ := Int.eq_ofNat_of_zero_le h0
  have hm := List.mem_of_getElem? ht
  obtain ⟨k, hk, e⟩ := place_of (L := L) (T := T) (q := q) (by have := (g.to _ hm).2; omega) (isB_to hm)
  exact ⟨k, hk, by rw [e]⟩
theorem land_place {L : List In} {T : List Int} {t : Int} (h : t ∈ landL L) : ∃ k, k ≤ nB L T ∧ t = (eN L T k : Int) := by
  obtain ⟨i, x, h1, h2, rfl⟩ := landL_mem.1 h
  have hi := (List.getElem?_eq_some_iff.1 h1).1
  obtain ⟨k, hk, e⟩ := place_of (L := L) (T := T) (q := i + 1) (by omega) (isB_turn h1 ((turnsB_iff _).2 (by omega)))
  exact ⟨k, hk, by rw [e]; omega⟩
theorem leads_place {L : List In} {T : List Int} (g : Goes L T) {i : Nat} (hi : i < nB L T) {t : Int} (h : t ∈ leadsI L T i) : ∃ k, k ≤ nB L T ∧ t = (eN L T k : Int) := by
  obtain ⟨x, u, hx, hu, e⟩ := leads_at g hi
  have hl := (last_lt hi).2.1
  have hn : ∃ k, k ≤ nB L T ∧ ((lastN L T i : Int) + 1) = (eN L T k : Int) := ⟨i + 1, by omega, by omega⟩
  rw [e] at h
  unfold leadsX at h
  split at h
  · rename_i hb
    have := (branB_iff _).1 hb
    rcases List.mem_cons.1 h with rfl | h
    · exact to_place g hu (g.by_ _ _ _ hx hu (by omega) (by omega))
    · rw [List.mem_singleton.1 h]; exact hn
  · split at h
    · rename_i hb
      rw [List.mem_singleton.1 h]
      exact to_place g hu (g.by_ _ _ _ hx hu (by omega) (by omega))
    · split at h
      · exact land_place h
      · rw [List.mem_singleton.1 h]; exact hn
/-- The map from where a block begins to its number, with j blocks in it. -/
def bmF (L : List In) (T : List Int) : Nat → Int → Option Int
  | 0 => putN (fun _ => none) (L.length : Int) (nB L T : Int)
  | j + 1 => putN (bmF L T j) (eN L T j : Int) (j : Int)
theorem bm_out {L : List In} {T : List Int} (j : Nat) (hj : j ≤ nB L T) (k : Nat) (hk : j ≤ k) (hk2 : k < nB L T) : bmF L T j (eN L T k : Int) = none := by
  induction j with
  | zero =>
    have := eN_lt' hk2 (Nat.le_refl _)
    rw [eN_last] at this
    unfold bmF putN
    rw [if_neg (by omega)]
  | succ j ih =>
    have := eN_lt' (show j < k by omega) (Nat.le_of_lt hk2)
    unfold bmF putN
    rw [if_neg (by omega)]
    exact ih (by omega) (by omega)
theorem bm_in {L : List In} {T : List Int} (j : Nat) (hj : j ≤ nB L T) (k : Nat) (hk : k < j ∨ k = nB L T) : bmF L T j (eN L T k : Int) = some (k : Int) := by
  induction j with
  | zero =>
    obtain rfl : k = nB L T := by omega
    unfold bmF putN
    rw [if_pos (by rw [eN_last])]
  | succ j ih =>
    unfold bmF putN
    by_cases e : k = j
    · subst e; rw [if_pos rfl]
    · have hne : ¬ (eN L T k : Int) = (eN L T j : Int) := fun h => e (eN_inj (L := L) (T := T) (i := k) (j := j) (by omega) (by omega) (by omega))
      rw [if_neg hne]
      exact ih (by omega) (by omega)
/-- The blocks to which block i leads. -/
def nextN (L : List In) (T : List Int) (i : Nat) : List Nat := (List.range (nB L T + 1)).filter fun k => (leadsI L T i).contains (eN L T k : Int)
def nextI (L : List In) (T : List Int) (i : Nat) : List Int := (nextN L T i).map fun (k : Nat) => (k : Int)
theorem nextI_rising (L : List In) (T : List Int) (i : Nat) : (nextI L T i).Pairwise (· < ·) := rising_int (List.pairwise_lt_range.filter _)
theorem nextI_len (L : List In) (T : List Int) (i : Nat) : (nextI L T i).length ≤ nB L T + 1 := by
  unfold nextI nextN
  rw [List.length_map]
  have := List.length_filter_le (fun k => (leadsI L T i).contains (eN L T k : Int)) (List.range (nB L T + 1))
  rw [List.length_range] at this
  exact this
theorem nextI_mem {L : List In} {T : List Int} {i : Nat} {k : Int} : k ∈ nextI L T i ↔ ∃ q : Nat, q ≤ nB L T ∧ k = (q : Int) ∧ (eN L T q : Int) ∈ leadsI L T i := by
  unfold nextI nextN
  rw [List.mem_map]
  constructor
  · rintro ⟨q, h, rfl⟩
    obtain ⟨h1, h2⟩ := List.mem_filter.1 h
    exact ⟨q, by have := List.mem_range.1 h1; omega, rfl, List.contains_iff_mem.1 h2⟩
  · rintro ⟨q, h1, rfl, h2⟩
    exact ⟨q, List.mem_filter.2 ⟨List.mem_range.2 (by omega), List.contains_iff_mem.2 h2⟩, rfl⟩
/-- What the set has, q of the places taken. -/
def NxF (L : List In) (T : List Int) (i q : Nat) (k : Int) : Prop := ∃ t ∈ (leadsI L T i).take q, k = (bmF L T (nB L T) t).getD 0
theorem NxF_zero (L : List In) (T : List Int) (i : Nat) (k : Int) : NxF L T i 0 k ↔ False := by
  unfold NxF
  simp
theorem NxF_step {L : List In} {T : List Int} {i q : Nat} (h : q < (leadsI L T i).length) (k : Int) : NxF L T i (q + 1) k ↔ NxF L T i q k ∨ k = (bmF L T (nB L T) ((leadsI L T i)[q]'h)).getD 0 := by
  unfold NxF
  rw [List.take_succ_eq_append_getElem h]
  constructor
  · rintro ⟨t, ht, e⟩
    rcases List.mem_append.1 ht with h1 | h1
    · exact .inl ⟨t, h1, e⟩
    · rw [List.mem_singleton.1 h1] at e; exact .inr e
  · rintro (⟨t, ht, e⟩ | e)
    · exact ⟨t, List.mem_append.2 (.inl ht), e⟩
    · exact ⟨_, List.mem_append.2 (.inr (List.mem_singleton.2 rfl)), e⟩
theorem NxF_all {L : List In} {T : List Int} (g : Goes L T) {i : Nat} (hi : i < nB L T) (k : Int) : NxF L T i (leadsI L T i).length k ↔ k ∈ nextI L T i := by
  unfold NxF
  rw [List.take_length, nextI_mem]
  constructor
  · rintro ⟨t, ht, rfl⟩
    obtain ⟨q, hq, rfl⟩ := leads_place g hi ht
    refine ⟨q, hq, ?_, ht⟩
    rw [bm_in _ (Nat.le_refl _) _ (by omega)]
    rfl
  · rintro ⟨q, hq, rfl, ht⟩
    refine ⟨_, ht, ?_⟩
    rw [bm_in _ (Nat.le_refl _) _ (by omega)]
    rfl
/-- What a place's number may be. -/
theorem bm_bound {L : List In} {T : List Int} (j : Nat) (hj : j ≤ nB L T) (t : Int) : 0 ≤ (bmF L T j t).getD 0 ∧ (bmF L T j t).getD 0 ≤ (nB L T : Int) := by
  induction j with
  | zero =>
    unfold bmF putN
    split
    · simp
    · simp
  | succ j ih =>
    unfold bmF putN
    split
    · simp; omega
    · exact ih (by omega)
theorem leads_bound {L : List In} {T : List Int} (g : Goes L T) {i : Nat} (hi : i < nB L T) : ∀ t ∈ leadsI L T i, 0 ≤ t ∧ t ≤ (L.length : Int) := by
  intro t ht
  obtain ⟨k, hk, rfl⟩ := leads_place g hi ht
  have := eN_le hk
  omega
theorem leads_len {L : List In} {T : List Int} (g : Goes L T) {i : Nat} (hi : i < nB L T) : (leadsI L T i).length ≤ L.length + 2 := by
  obtain ⟨x, u, _, _, e⟩ := leads_at g hi
  rw [e]
  unfold leadsX
  have := landL_len L
  split
  · simp
  · split
    · simp
    · split
      · omega
      · simp
end Go.Proofs.YtnfoplefaibmhaaGreatDoor
