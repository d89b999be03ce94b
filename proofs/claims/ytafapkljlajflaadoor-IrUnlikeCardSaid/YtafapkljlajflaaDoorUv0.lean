/- Names taken down one by one: plain. -/
import Derived.Test.YtafapkljlajflaaDoorUb
namespace Go.Proofs.YtafapkljlajflaaDoor
open Go.RowKit
theorem namesB_snoc : ∀ (l had : List (List UInt8)) (x : List UInt8), namesB had (l ++ [x]) = (namesB had l && (nameC x && !(had.contains x || l.contains x)))
  | [], had, x => by simp [namesB]
  | a :: l, had, x => by
    show (nameC a && !had.contains a && namesB (a :: had) (l ++ [x])) = (nameC a && !had.contains a && namesB (a :: had) l && (nameC x && !(had.contains x || (a :: l).contains x)))
    rw [namesB_snoc l (a :: had) x, List.contains_cons, List.contains_cons]
    have e : (x == a || had.contains x || l.contains x) = (had.contains x || (x == a || l.contains x)) := by
      cases (x == a) <;> cases had.contains x <;> cases l.contains x <;> rfl
    rw [e]
    cases nameC a <;> cases had.contains a <;> cases namesB (a :: had) l <;> simp
theorem namesB_left : ∀ (l r had : List (List UInt8)), namesB had (l ++ r) = true → namesB had l = true
  | [], r, had, _ => rfl
  | a :: l, r, had, h => by
    have h' : (nameC a && !had.contains a && namesB (a :: had) (l ++ r)) = true := h
    rw [Bool.and_eq_true] at h'
    show (nameC a && !had.contains a && namesB (a :: had) l) = true
    rw [h'.1, namesB_left l r _ h'.2]; rfl
theorem any_names (l : List Ar) (n : List UInt8) : (l.map (·.name)).contains n = arrHas l n := by
  unfold arrHas
  induction l with
  | nil => rfl
  | cons a l ih =>
    rw [List.map_cons, List.contains_cons, ih, List.any_cons]
    congr 1
    rw [Bool.eq_iff_iff, beq_iff_eq, decide_eq_true_iff, eq_comm]
theorem any_fnames (l : List Fl) (n : List UInt8) : (l.map (·.name)).contains n = flwHas l n := by
  unfold flwHas
  induction l with
  | nil => rfl
  | cons a l ih =>
    rw [List.map_cons, List.contains_cons, ih, List.any_cons]
    congr 1
    rw [Bool.eq_iff_iff, beq_iff_eq, decide_eq_true_iff, eq_comm]
theorem arrHas_snoc (l : List Ar) (a : Ar) (n : List UInt8) : arrHas (l ++ [a]) n = (arrHas l n || decide (a.name = n)) := by simp [arrHas]
theorem flwHas_snoc (l : List Fl) (a : Fl) (n : List UInt8) : flwHas (l ++ [a]) n = (flwHas l n || decide (a.name = n)) := by simp [flwHas]
def sizB (a : Ar) : Bool := decide (1 ≤ a.size ∧ a.size ≤ 1048576)
/-- Where a function's name stands, if it does. -/
def placeF (l : List Fl) : List UInt8 → Option Int := fun n => if flwHas l n = true then some (plcOf l n : Int) else none
theorem placeF_some (l : List Fl) (n : List UInt8) : (placeF l n).isSome = flwHas l n := by
  unfold placeF
  cases flwHas l n <;> simp
theorem plc_lt {l : List Fl} {n : List UInt8} (h : flwHas l n = true) : plcOf l n < l.length := by
  unfold flwHas at h
  rw [List.any_eq_true] at h
  obtain ⟨x, hx, hp⟩ := h
  exact List.findIdx_lt_length_of_exists ⟨x, hx, hp⟩
theorem placeF_snoc (l : List Fl) (x : Fl) (h : flwHas l x.name = false) (n : List UInt8) : placeF (l ++ [x]) n = if n = x.name then some (l.length : Int) else placeF l n := by
  unfold placeF
  rw [flwHas_snoc]
  by_cases e : n = x.name
  · subst e
    rw [if_pos rfl, h, decide_eq_true rfl, Bool.false_or, if_pos rfl]
    have : plcOf (l ++ [x]) x.name = l.length := by
      unfold plcOf
      rw [List.findIdx_append]
      have h0 : List.findIdx (fun f => decide (f.name = x.name)) l = l.length := List.findIdx_eq_length.2 (fun y hy => by
        unfold flwHas at h
        have := List.any_eq_false.1 h y hy
        simpa using this)
      rw [h0, if_neg (Nat.lt_irrefl _)]
      simp [List.findIdx_cons]
    rw [this]
  · rw [if_neg e, decide_eq_false (fun k => e k.symm), Bool.or_false]
    cases hf : flwHas l n with
    | false => rfl
    | true =>
      rw [if_pos rfl, if_pos rfl]
      have : plcOf (l ++ [x]) n = plcOf l n := by
        have hl := plc_lt hf
        unfold plcOf at hl ⊢
        rw [List.findIdx_append, if_pos hl]
      rw [this]
/-- Up to the j-th array all is well. -/
def okA (A : List Ar) (j : Nat) : Bool := (A.take j).all sizB && namesB [] ((A.take j).map (·.name))
def okF (A : List Ar) (F : List Fl) (j : Nat) : Bool := A.all sizB && namesB [] (A.map (·.name) ++ (F.take j).map (·.name))
theorem declB_eq (u : Un) : declB u = (okF u.arrays u.flows u.flows.length && flwHas u.flows mainN && decide (((u.flows[plcOf u.flows mainN]?).map (·.params)).getD 0 ≤ 0)) := by
  unfold declB okF
  rw [List.take_length]; rfl
theorem okA_step (A : List Ar) (j : Nat) (h : j < A.length) (hj : okA A j = true) : okA A (j + 1) = (sizB (A[j]'h) && (nameC (A[j]'h).name && !arrHas (A.take j) (A[j]'h).name)) := by
  unfold okA at hj ⊢
  rw [Bool.and_eq_true] at hj
  rw [List.take_succ_eq_append_getElem h, List.all_append, hj.1, List.map_append, List.map_cons, List.map_nil, namesB_snoc, hj.2, any_names]
  simp
theorem okF_step (A : List Ar) (F : List Fl) (j : Nat) (h : j < F.length) (hj : okF A F j = true) : okF A F (j + 1) = (nameC (F[j]'h).name && !arrHas A (F[j]'h).name && !flwHas (F.take j) (F[j]'h).name) := by
  unfold okF at hj ⊢
  rw [Bool.and_eq_true] at hj
  have e : A.map (·.name) ++ ((F.take j ++ [F[j]'h]).map (·.name)) = (A.map (·.name) ++ (F.take j).map (·.name)) ++ [(F[j]'h).name] := by rw [List.map_append, ← List.append_assoc]; rfl
  rw [List.take_succ_eq_append_getElem h, e, namesB_snoc, hj.1, hj.2, List.contains_append, any_names, any_fnames]
  cases nameC (F[j]'h).name <;> cases arrHas A (F[j]'h).name <;> cases flwHas (F.take j) (F[j]'h).name <;> rfl
theorem okA_no {u : Un} {j : Nat} (h : okA u.arrays j = false) : declB u = false := by
  cases hd : declB u with
  | false => rfl
  | true =>
    rw [declB_eq, Bool.and_eq_true, Bool.and_eq_true] at hd
    have h1 := hd.1.1
    unfold okF at h1
    rw [Bool.and_eq_true, List.take_length] at h1
    have h2 := namesB_left _ _ _ h1.2
    have e : u.arrays = u.arrays.take j ++ u.arrays.drop j := (List.take_append_drop j _).symm
    have h3 : okA u.arrays j = true := by
      unfold okA
      rw [Bool.and_eq_true]
      constructor
      · have := h1.1
        rw [e, List.all_append, Bool.and_eq_true] at this
        exact this.1
      · rw [e, List.map_append] at h2
        exact namesB_left _ _ _ h2
    rw [h] at h3; cases h3
theorem okF_no {u : Un} {j : Nat} (h : okF u.arrays u.flows j = false) : declB u = false := by
  cases hd : declB u with
  | false => rfl
  | true =>
    rw [declB_eq, Bool.and_eq_true, Bool.and_eq_true] at hd
    have h1 := hd.1.1
    unfold okF at h1
    rw [Bool.and_eq_true, List.take_length] at h1
    have e : u.flows = u.flows.take j ++ u.flows.drop j := (List.take_append_drop j _).symm
    have h3 : okF u.arrays u.flows j = true := by
      unfold okF
      rw [Bool.and_eq_true]
      refine ⟨h1.1, ?_⟩
      have h2 := h1.2
      rw [e, List.map_append, ← List.append_assoc] at h2
      exact namesB_left _ _ _ h2
    rw [h] at h3; cases h3
theorem okA_all {A : List Ar} (F : List Fl) (h : okA A A.length = true) : okF A F 0 = true := by
  unfold okA at h
  unfold okF
  rw [List.take_length] at h
  rw [List.take_zero, List.map_nil, List.append_nil]
  exact h
end Go.Proofs.YtafapkljlajflaaDoor
