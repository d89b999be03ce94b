/- Plain words: where labels lead to. -/
import Derived.Test.YtlaihjefmhcmcaaGreatDoorAs1
namespace Go.Proofs.YtlaihjefmhcmcaaGreatDoor
set_option linter.unusedVariables false
def stepF (st : (List UInt8 → Option Int) × Nat) (l : Ln) : (List UInt8 → Option Int) × Nat :=
  if l.label = [] then (st.1, st.2 + 1) else (putF st.1 l.label (st.2 : Int), st.2)
def placesL (A : List Ln) : (List UInt8 → Option Int) × Nat := A.foldl stepF (fun _ => none, 0)
theorem placesL_snoc (A : List Ln) (l : Ln) : placesL (A ++ [l]) = stepF (placesL A) l := by unfold placesL; rw [List.foldl_append]; rfl
theorem flatI_snoc (A : List Ln) (l : Ln) : flatI (A ++ [l]) = if l.label = [] then flatI A ++ [l.ins] else flatI A := by
  unfold flatI
  rw [List.filter_append]
  by_cases h : l.label = []
  · rw [if_pos h]; simp [h]
  · rw [if_neg h]; simp [h]
theorem snoc_ind {α : Type} {P : List α → Prop} (h0 : P []) (hs : ∀ A l, P A → P (A ++ [l])) (L : List α) : P L := by
  have key : ∀ n, ∀ L : List α, L.length = n → P L := by
    intro n
    induction n with
    | zero => intro L h; rw [List.length_eq_zero_iff.1 h]; exact h0
    | succ n ih =>
      intro L h
      have hne : L ≠ [] := by intro e; rw [e] at h; simp at h
      rw [← List.dropLast_concat_getLast hne]
      exact hs _ _ (ih _ (by simp; omega))
  exact key _ L rfl
theorem placesL_num (A : List Ln) : (placesL A).2 = (flatI A).length := by
  refine snoc_ind (P := fun A => (placesL A).2 = (flatI A).length) rfl (fun A l ih => ?_) A
  show (placesL (A ++ [l])).2 = (flatI (A ++ [l])).length
  rw [placesL_snoc, flatI_snoc]
  unfold stepF
  by_cases h : l.label = []
  · rw [if_pos h, if_pos h, List.length_append, ← ih]; rfl
  · rw [if_neg h, if_neg h, ← ih]
theorem hasLab_app (A B : List Ln) (n : List UInt8) : hasLab (A ++ B) n = (hasLab A n || hasLab B n) := by unfold hasLab; rw [List.any_append]
theorem hasLab_one (l : Ln) (n : List UInt8) : hasLab [l] n = decide (l.label = n) := by simp [hasLab]
theorem ahead_in : ∀ (A B : List Ln) (n : List UInt8), hasLab A n = true → aheadL (A ++ B) n = aheadL A n
  | [], _, _, h => by cases h
  | a :: A, B, n, h => by
    unfold aheadL
    rw [List.cons_append, List.takeWhile_cons, List.takeWhile_cons]
    by_cases e : a.label = n
    · rw [if_neg (by simp [e]), if_neg (by simp [e])]
    · have h' : hasLab A n = true := by
        unfold hasLab at h ⊢
        rw [List.any_cons, decide_eq_false e, Bool.false_or] at h
        exact h
      have ih := ahead_in A B n h'
      unfold aheadL at ih
      rw [if_pos (by simp [e]), if_pos (by simp [e]), List.filter_cons, List.filter_cons]
      split
      · rw [List.length_cons, List.length_cons, ih]
      · exact ih
theorem ahead_out : ∀ (A B : List Ln) (n : List UInt8), hasLab A n = false → aheadL (A ++ B) n = (flatI A).length + aheadL B n
  | [], _, _, _ => by simp [flatI]
  | a :: A, B, n, h => by
    unfold hasLab at h
    rw [List.any_cons, Bool.or_eq_false_iff] at h
    have e : a.label ≠ n := of_decide_eq_false h.1
    have ih := ahead_out A B n h.2
    have e1 : aheadL (a :: A ++ B) n = aheadL (A ++ B) n + if a.label = [] then 1 else 0 := by
      unfold aheadL
      rw [List.cons_append, List.takeWhile_cons, if_pos (by simp [e]), List.filter_cons]
      split
      · rename_i k; rw [if_pos (of_decide_eq_true k)]; rfl
      · rename_i k; rw [if_neg (by simpa using k)]; rfl
    have e2 : (flatI (a :: A)).length = (flatI A).length + if a.label = [] then 1 else 0 := by
      unfold flatI
      rw [List.filter_cons]
      split
      · rename_i k; rw [if_pos (of_decide_eq_true k)]; rfl
      · rename_i k; rw [if_neg (by simpa using k)]; rfl
    rw [e1, ih, e2]; omega
/-- Each label once. -/
def OnceL (L : List Ln) : Prop := ∀ i (h : i < L.length), (L[i]'h).label ≠ [] → hasLab (L.take i) (L[i]'h).label = false
theorem once_init {A : List Ln} {l : Ln} (h : OnceL (A ++ [l])) : OnceL A ∧ (l.label ≠ [] → hasLab A l.label = false) := by
  refine ⟨fun i hi hn => ?_, fun hn => ?_⟩
  · have := h i (by simp; omega) (by rw [List.getElem_append_left hi]; exact hn)
    rw [List.getElem_append_left hi, List.take_append_of_le_length (by omega)] at this
    exact this
  · have := h A.length (by simp) (by rw [List.getElem_append_right (by omega)]; simpa using hn)
    rw [List.getElem_append_right (by omega), List.take_left' rfl] at this
    simpa using this
theorem places_at (L : List Ln) : OnceL L → ∀ n, (placesL L).1 n = if n ≠ [] ∧ hasLab L n = true then some (aheadL L n : Int) else none := by
  refine snoc_ind (P := fun L => OnceL L → ∀ n, (placesL L).1 n = if n ≠ [] ∧ hasLab L n = true then some (aheadL L n : Int) else none) ?_ ?_ L
  · intro _ n
    rw [if_neg (fun k => by cases k.2)]; rfl
  · intro A l ih h n
    obtain ⟨hA, hl⟩ := once_init h
    have ihn := ih hA n
    rw [placesL_snoc, hasLab_app, hasLab_one]
    unfold stepF
    by_cases e : l.label = []
    · rw [if_pos e]
      show (placesL A).1 n = _
      rw [ihn]
      by_cases k : n ≠ [] ∧ hasLab A n = true
      · rw [if_pos k, if_pos ⟨k.1, by rw [k.2]; rfl⟩, ahead_in _ _ _ k.2]
      · rw [if_neg k, if_neg]
        rintro ⟨k1, k2⟩
        have : decide (l.label = n) = false := decide_eq_false (by rw [e]; exact fun q => k1 q.symm)
        rw [this, Bool.or_false] at k2
        exact k ⟨k1, k2⟩
    · rw [if_neg e]
      show putF (placesL A).1 l.label ((placesL A).2 : Int) n = _
      unfold putF
      by_cases k : n = l.label
      · subst k
        rw [if_pos rfl, if_pos ⟨e, by simp⟩, ahead_out _ _ _ (hl e), placesL_num]
        have : aheadL [l] l.label = 0 := by simp [aheadL]
        rw [this, Nat.add_zero]
      · rw [if_neg k, ihn, decide_eq_false (fun q => k q.symm), Bool.or_false]
        by_cases q : n ≠ [] ∧ hasLab A n = true
        · rw [if_pos q, if_pos q, ahead_in _ _ _ q.2]
        · rw [if_neg q, if_neg q]
theorem linesE_zero (c : Cd) : ∀ (L : List Ln) (i : Nat), (linesE c L i).1 = 0 → ∀ k (h : k < L.length), lineE c (i + k) (L[k]'h) = 0
  | [], _, _, k, h => by cases h
  | l :: L, i, hz, k, h => by
    unfold linesE at hz
    by_cases e : lineE c i l = 0
    · rw [if_neg (by rw [e]; simp)] at hz
      cases k with
      | zero => exact e
      | succ k =>
        have := linesE_zero c L (i + 1) hz k (by simpa using h)
        rw [Nat.add_assoc, Nat.add_comm 1] at this
        exact this
    · rw [if_pos e] at hz
      exact absurd hz e
/-- What is fine. -/
theorem ok_all {c : Cd} (h : (faultL c).1 = 0) : c.lines.length ≤ 40000 ∧ c.arrays.any badArr = false ∧ arrsE c.arrays [] = false ∧ (faultL c).2 = -1 ∧ ∀ i (hi : i < c.lines.length), lineE c i (c.lines[i]'hi) = 0 := by
  by_cases h1 : 40000 < c.lines.length
  · rw [faultL_long c h1] at h; cases h
  cases h2 : c.arrays.any badArr
  case true => rw [faultL_arr c h1 h2] at h; cases h
  cases h3 : arrsE c.arrays []
  case true => rw [faultL_twice c h1 h2 h3] at h; cases h
  rw [faultL_lines c h1 h2 h3] at h ⊢
  have hz := linesE_zero c c.lines 0 h
  refine ⟨by omega, rfl, rfl, ?_, fun i hi => by have := hz i hi; rwa [Nat.zero_add] at this⟩
  have key : ∀ (L : List Ln) (i : Nat), (linesE c L i).1 = 0 → (linesE c L i).2 = -1 := by
    intro L
    induction L with
    | nil => intro i _; rfl
    | cons l L ih =>
      intro i hz
      unfold linesE at hz ⊢
      by_cases e : lineE c i l = 0
      · rw [if_neg (by rw [e]; simp)] at hz ⊢
        exact ih _ hz
      · rw [if_pos e] at hz; exact absurd hz e
  exact key _ _ h
theorem ok_line {c : Cd} {i : Nat} {l : Ln} (h : lineE c i l = 0) : (l.label ≠ [] → labelB l.label = true ∧ l.ins = zeroI ∧ hasLab (c.lines.take i) l.label = false) ∧
    (l.label = [] → rightB l.ins = true ∧ (l.ins.name ≠ [] → (if l.ins.op = 17 then hasArr c.arrays l.ins.name else hasLab c.lines l.ins.name) = true)) := by
  unfold lineE at h
  refine ⟨fun e => ?_, fun e => ?_⟩
  · rw [if_pos e] at h
    by_cases k : labelB l.label = false ∨ l.ins ≠ zeroI
    · rw [if_pos k] at h; cases h
    · rw [if_neg k] at h
      refine ⟨by cases q : labelB l.label <;> simp_all, by by_cases q : l.ins = zeroI <;> simp_all, ?_⟩
      cases q : hasLab (c.lines.take i) l.label
      · rfl
      · rw [if_pos q] at h; cases h
  · rw [if_neg (by simp [e])] at h
    by_cases k : rightB l.ins = false
    · rw [if_pos k] at h; cases h
    · rw [if_neg k] at h
      refine ⟨by cases q : rightB l.ins <;> simp_all, fun hn => ?_⟩
      cases q : (if l.ins.op = 17 then hasArr c.arrays l.ins.name else hasLab c.lines l.ins.name)
      · rw [if_pos ⟨hn, q⟩] at h; cases h
      · rfl
theorem ok_once {c : Cd} (h : (faultL c).1 = 0) : OnceL c.lines := fun i hi hn => ((ok_line ((ok_all h).2.2.2.2 i hi)).1 hn).2.2
theorem flatI_mem {L : List Ln} {x : In} (h : x ∈ flatI L) : ∃ i, ∃ hi : i < L.length, (L[i]'hi).label = [] ∧ (L[i]'hi).ins = x := by
  unfold flatI at h
  obtain ⟨l, hl, rfl⟩ := List.mem_map.1 h
  obtain ⟨hm, hp⟩ := List.mem_filter.1 hl
  obtain ⟨i, hi, e⟩ := List.getElem_of_mem hm
  exact ⟨i, hi, by rw [e]; exact of_decide_eq_true hp, by rw [e]⟩
/-- Where an instruction of fine code leads to, by the map. -/
theorem ok_to {c : Cd} (h : (faultL c).1 = 0) {x : In} (hx : x ∈ flatI c.lines) : (if ((placesL c.lines).1 x.name).isSome = false ∨ x.op = 17 then (-1 : Int) else ((placesL c.lines).1 x.name).getD 0) = toL c x := by
  obtain ⟨i, hi, e1, e2⟩ := flatI_mem hx
  have hl := (ok_line ((ok_all h).2.2.2.2 i hi)).2 e1
  rw [e2] at hl
  have hp := places_at c.lines (ok_once h) x.name
  unfold toL
  by_cases hn : x.name = []
  · rw [if_neg (fun k => k.1 hn)] at hp
    rw [hp, if_pos (.inl rfl), if_pos (.inl hn)]
  · by_cases ho : x.op = 17
    · rw [if_pos (.inr ho), if_pos (.inr ho)]
    · have := hl.2 hn
      rw [if_neg ho] at this
      rw [if_pos ⟨hn, this⟩] at hp
      rw [hp, if_neg (fun k => k.elim (fun k => by cases k) ho), if_neg (fun k => k.elim hn ho)]
      rfl
end Go.Proofs.YtlaihjefmhcmcaaGreatDoor
