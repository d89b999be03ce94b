/- Plain words about labels and faults. -/
import Derived.Test.YtlaihjefmhcmcaaGreatDoorAs0
import Derived.Test.YtlaihjefmhcmcaaGreatDoorMapI
namespace Go.Proofs.YtlaihjefmhcmcaaGreatDoor
set_option linter.unusedVariables false
def firstLab (n : List UInt8) : List Ln → Nat → Option Int
  | [], _ => none
  | l :: r, i => if l.label ≠ [] ∧ l.label = n then some (i : Int) else firstLab n r (i + 1)
theorem firstLab_cons (n : List UInt8) (a : Ln) (A : List Ln) (i : Nat) : firstLab n (a :: A) i = if a.label ≠ [] ∧ a.label = n then some (i : Int) else firstLab n A (i + 1) := rfl
theorem firstLab_app (n : List UInt8) : ∀ (A B : List Ln) (i : Nat), firstLab n (A ++ B) i = match firstLab n A i with | some v => some v | none => firstLab n B (i + A.length)
  | [], B, i => by simp [firstLab]
  | a :: A, B, i => by
    rw [List.cons_append, firstLab_cons, firstLab_cons]
    by_cases h : a.label ≠ [] ∧ a.label = n
    · rw [if_pos h, if_pos h]
    · rw [if_neg h, if_neg h, firstLab_app n A B (i + 1), List.length_cons, Nat.add_assoc, Nat.add_comm 1]
theorem firstLab_le (n : List UInt8) : ∀ (A : List Ln) (i : Nat) (v : Int), firstLab n A i = some v → ∃ k : Nat, v = (k : Int) ∧ i ≤ k ∧ k < i + A.length
  | [], i, v, h => by simp [firstLab] at h
  | a :: A, i, v, h => by
    unfold firstLab at h
    split at h
    · injection h with h
      exact ⟨i, h.symm, Nat.le_refl _, by simp⟩
    · obtain ⟨k, h1, h2, h3⟩ := firstLab_le n A (i + 1) v h
      exact ⟨k, h1, by omega, by simp; omega⟩
theorem firstLab_has (n : List UInt8) (hn : n ≠ []) : ∀ (A : List Ln) (i : Nat), (firstLab n A i).isSome = hasLab A n
  | [], i => rfl
  | a :: A, i => by
    unfold firstLab hasLab
    rw [List.any_cons]
    by_cases h : a.label = n
    · rw [if_pos ⟨by rw [h]; exact hn, h⟩, decide_eq_true h]; rfl
    · rw [if_neg (fun k => h k.2), decide_eq_false h, Bool.false_or]
      exact firstLab_has n hn A (i + 1)
theorem firstLab_nil : ∀ (A : List Ln) (i : Nat), firstLab [] A i = none
  | [], _ => rfl
  | a :: A, i => by
    unfold firstLab
    rw [if_neg (fun k => k.1 k.2)]
    exact firstLab_nil A (i + 1)
/-- Whether a label stands ahead already. -/
theorem firstLab_ahead (L : List Ln) (i : Nat) (h : i < L.length) (hn : (L[i]'h).label ≠ []) : ∃ v : Nat, firstLab (L[i]'h).label L 0 = some (v : Int) ∧ v ≤ i ∧ (decide ((v : Int) < (i : Int)) = hasLab (L.take i) (L[i]'h).label) := by
  have hs : L = L.take i ++ L.drop i := (List.take_append_drop i L).symm
  have e := firstLab_app (L[i]'h).label (L.take i) (L.drop i) 0
  rw [← hs] at e
  have hh := firstLab_has (L[i]'h).label hn (L.take i) 0
  have hlen : (L.take i).length = i := by rw [List.length_take]; omega
  cases hf : firstLab (L[i]'h).label (L.take i) 0 with
  | some v =>
    rw [hf] at e hh
    obtain ⟨k, rfl, _, h3⟩ := firstLab_le _ _ _ _ hf
    refine ⟨k, e, by omega, ?_⟩
    rw [← hh]
    exact decide_eq_true (by omega)
  | none =>
    rw [hf] at e hh
    have e2 : firstLab (L[i]'h).label L 0 = some (i : Int) := by
      rw [e]
      show firstLab _ (L.drop i) (0 + (L.take i).length) = _
      rw [List.drop_eq_getElem_cons h, hlen, Nat.zero_add]
      unfold firstLab
      rw [if_pos ⟨hn, rfl⟩]
    refine ⟨i, e2, Nat.le_refl _, ?_⟩
    rw [← hh]
    exact decide_eq_false (by omega)
/-- The labels of the first lines. -/
def labF (L : List Ln) (j : Nat) : List UInt8 → Option Int := fun n => firstLab n (L.take j) 0
theorem labF_zero (L : List Ln) : ∀ n, none = labF L 0 n := fun n => rfl
theorem labF_all (L : List Ln) (j : Nat) (h : L.length ≤ j) : ∀ n, labF L j n = firstLab n L 0 := fun n => by unfold labF; rw [List.take_of_length_le h]
theorem labF_step (L : List Ln) (j : Nat) (h : j < L.length) (n : List UInt8) : labF L (j + 1) n = match labF L j n with | some v => some v | none => if (L[j]'h).label ≠ [] ∧ (L[j]'h).label = n then some (j : Int) else none := by
  unfold labF
  rw [List.take_succ_eq_append_getElem h, firstLab_app, List.length_take, Nat.min_eq_left (Nat.le_of_lt h), Nat.zero_add]
  rfl
theorem labF_skip (L : List Ln) (j : Nat) (h : j < L.length) (hl : (L[j]'h).label = []) : ∀ n, labF L j n = labF L (j + 1) n := fun n => by
  rw [labF_step L j h, if_neg (fun k => k.1 hl)]
  cases labF L j n <;> rfl
theorem labF_had (L : List Ln) (j : Nat) (h : j < L.length) (hs : (labF L j (L[j]'h).label).isSome = true) : ∀ n, labF L j n = labF L (j + 1) n := fun n => by
  rw [labF_step L j h]
  cases e : labF L j n with
  | some v => rfl
  | none =>
    rw [if_neg (fun k => by rw [k.2, e] at hs; cases hs)]
theorem labF_put (L : List Ln) (j : Nat) (h : j < L.length) (hl : (L[j]'h).label ≠ []) (hs : (labF L j (L[j]'h).label).isSome = false) : ∀ n, putF (labF L j) (L[j]'h).label (j : Int) n = labF L (j + 1) n := fun n => by
  rw [labF_step L j h]
  unfold putF
  by_cases e : n = (L[j]'h).label
  · subst e
    rw [if_pos rfl, if_pos ⟨hl, rfl⟩]
    cases k : labF L j (L[j]'h).label with
    | some v => rw [k] at hs; cases hs
    | none => rfl
  · rw [if_neg e, if_neg (fun k => e k.2.symm)]
    cases labF L j n <;> rfl
/-- What is wrong with a line, by two maps. -/
def lineG (fa fl : List UInt8 → Option Int) (i : Int) (l : Ln) : Int :=
  if l.label ≠ [] then (if labelB l.label = false ∨ l.ins ≠ zeroI then 60 else if (fl l.label).getD 0 < i then 61 else 0)
  else if rightB l.ins = false then 60
  else if l.ins.name ≠ [] ∧ (if l.ins.op = 17 then (fa l.ins.name).isSome else (fl l.ins.name).isSome) = false then 61 else 0
theorem lineG_eq (c : Cd) (fa fl : List UInt8 → Option Int) (ha : ∀ n, (fa n).isSome = hasArr c.arrays n) (hl : ∀ n, fl n = firstLab n c.lines 0) (i : Nat) (h : i < c.lines.length) : lineG fa fl (i : Int) (c.lines[i]'h) = lineE c i (c.lines[i]'h) := by
  unfold lineG lineE
  by_cases e : (c.lines[i]'h).label ≠ []
  · rw [if_pos e, if_pos e]
    obtain ⟨v, h1, h2, h3⟩ := firstLab_ahead c.lines i h e
    rw [hl, h1, ← h3]
    by_cases k : labelB (c.lines[i]'h).label = false ∨ (c.lines[i]'h).ins ≠ zeroI
    · rw [if_pos k, if_pos k]
    · rw [if_neg k, if_neg k]
      show (if (v : Int) < (i : Int) then (61 : Int) else 0) = _
      by_cases q : (v : Int) < (i : Int)
      · rw [if_pos q, if_pos (decide_eq_true q)]
      · rw [if_neg q, if_neg (by simpa using q)]
  · rw [if_neg e, if_neg e]
    by_cases k : rightB (c.lines[i]'h).ins = false
    · rw [if_pos k, if_pos k]
    · rw [if_neg k, if_neg k]
      by_cases q : (c.lines[i]'h).ins.name = []
      · rw [if_neg (fun z => z.1 q), if_neg (fun z => z.1 q)]
      · rw [ha, hl, firstLab_has _ q]
theorem linesE_step (c : Cd) (L : List Ln) (j : Nat) (h : j < L.length) (hz : lineE c j (L[j]'h) = 0) : linesE c (L.drop j) j = linesE c (L.drop (j + 1)) (j + 1) := by
  rw [List.drop_eq_getElem_cons h]
  rw [linesE, if_neg (by rw [hz]; simp)]
theorem linesE_hit (c : Cd) (L : List Ln) (j : Nat) (h : j < L.length) (hz : lineE c j (L[j]'h) ≠ 0) : linesE c (L.drop j) j = (lineE c j (L[j]'h), (j : Int)) := by
  rw [List.drop_eq_getElem_cons h]
  rw [linesE, if_pos hz]
theorem linesE_end (c : Cd) (L : List Ln) (j : Nat) (h : ¬ j < L.length) : linesE c (L.drop j) j = (0, -1) := by
  rw [List.drop_eq_nil_of_le (by omega)]; rfl
theorem arrsE_step (L : List Ar) (j : Nat) (h : j < L.length) (ns : List (List UInt8)) : arrsE (L.drop j) ns = (ns.contains (L[j]'h).name || arrsE (L.drop (j + 1)) ((L[j]'h).name :: ns)) := by
  rw [List.drop_eq_getElem_cons h]; rfl
theorem hasArr_step (L : List Ar) (j : Nat) (h : j < L.length) (n : List UInt8) : hasArr (L.take (j + 1)) n = (hasArr (L.take j) n || decide ((L[j]'h).name = n)) := by
  unfold hasArr
  rw [List.take_succ_eq_append_getElem h, List.any_append]
  simp
def badArr (a : Ar) : Bool := !labelB a.name || decide (a.size < 1 ∨ 1048576 < a.size)
theorem any_step (p : Ar → Bool) (L : List Ar) (j : Nat) (h : j < L.length) : (L.drop j).any p = (p (L[j]'h) || (L.drop (j + 1)).any p) := by
  rw [List.drop_eq_getElem_cons h, List.any_cons]
theorem faultL_long (c : Cd) (h : 40000 < c.lines.length) : faultL c = (1, -1) := by unfold faultL; rw [if_pos h]
theorem faultL_arr (c : Cd) (h : ¬ 40000 < c.lines.length) (k : c.arrays.any badArr = true) : faultL c = (1, -1) := by
  unfold faultL; rw [if_neg h, if_pos (by exact k)]
theorem faultL_twice (c : Cd) (h : ¬ 40000 < c.lines.length) (k : c.arrays.any badArr = false) (k2 : arrsE c.arrays [] = true) : faultL c = (61, -1) := by
  unfold faultL; rw [if_neg h, if_neg (by show ¬ c.arrays.any badArr = true; rw [k]; simp), if_pos k2]
theorem faultL_lines (c : Cd) (h : ¬ 40000 < c.lines.length) (k : c.arrays.any badArr = false) (k2 : arrsE c.arrays [] = false) : faultL c = linesE c c.lines 0 := by
  unfold faultL; rw [if_neg h, if_neg (by show ¬ c.arrays.any badArr = true; rw [k]; simp), if_neg (by rw [k2]; simp)]
end Go.Proofs.YtlaihjefmhcmcaaGreatDoor
