/- A row of lines, one instruction of which is written anew. -/
import Derived.Test.YtlaihjefmhcmcaaGreatDoorRows
import Derived.WalkKit
import Derived.ProofKit
import Derived.OpenShut
import Derived.WalkLawsBesides
import Derived.WalkSpells
import Derived.Outline
import Derived.Handy
import Derived.Lib.Hide
import Derived.Lib.OthersKept
import Derived.KernelRfl
import Derived.Carry
import Derived.OwnWalk
import Derived.Test.YtlaihjefmhcmcaaGreatDoorAs4
import Derived.Test.YtlaihjefmhcmcaaGreatDoorRow
namespace Go.Proofs.YtlaihjefmhcmcaaGreatDoor
open Go.ChangeShapes Go.WideShapes Go.ChangeAt Go.RowKit
set_option linter.unusedVariables false
theorem set_at (P R : List Value) (k t : Nat) (h : P.length = k) (v : Value) : (P ++ R).set (k + t) v = P ++ R.set t v := by
  subst h
  rw [List.set_append_right _ _ (by omega)]
  congr 2
  omega
theorem flat_fix (M : List Ln) (j : Nat) (h : j < M.length) (x : In) : ((((((M.flatMap cellsL).set (j * 7 + 1) (.int .i64 x.op)).set (j * 7 + 2) (.int .i64 x.d)).set (j * 7 + 3) (.int .i64 x.a)).set (j * 7 + 4) (.int .i64 x.b)).set (j * 7 + 5) (.int .i64 x.n)).set (j * 7 + 6) (.string (mk x.name)) = (M.set j ⟨(M[j]'h).label, x⟩).flatMap cellsL := by
  obtain ⟨A, l, B, rfl, hA⟩ : ∃ A l B, M = A ++ l :: B ∧ A.length = j := ⟨M.take j, M[j]'h, M.drop (j + 1), by rw [← List.drop_eq_getElem_cons h, List.take_append_drop], by rw [List.length_take]; omega⟩
  have e : (A ++ l :: B)[j]'h = l := by rw [List.getElem_append_right (by omega)]; simp [hA]
  rw [e]
  have hl : (A.flatMap cellsL).length = j * 7 := by rw [flat_len cellsL 7 lenL, hA]
  have e2 : (A ++ l :: B).set j ⟨l.label, x⟩ = A ++ ⟨l.label, x⟩ :: B := by
    rw [List.set_append_right _ _ (by omega), hA, Nat.sub_self]; rfl
  rw [e2, List.flatMap_append, List.flatMap_append, List.flatMap_cons, List.flatMap_cons]
  rw [set_at _ _ _ 1 hl, set_at _ _ _ 2 hl, set_at _ _ _ 3 hl, set_at _ _ _ 4 hl, set_at _ _ _ 5 hl, set_at _ _ _ 6 hl]
  rfl
theorem grown_trans {a b c : World} {r : Option Nat} (h : a.grownBy b r) (k : b.grownBy c r) : a.grownBy c r :=
  ⟨k.os.trans h.os, k.tape.trans h.tape, k.output.trans h.output, Nat.le_trans h.size k.size, fun i hi hr => (k.block i (Nat.lt_of_lt_of_le hi h.size) hr).trans (h.block i hi hr)⟩
theorem row_fix {w : World} {base : Nat} {e : TypeId} {g n cap : Nat} {M : List Ln} (h : w.ownsRow base e 7 (.slice (some ⟨g, 0, none⟩) n cap) n (M.flatMap cellsL)) (j : Nat) (hj : j < M.length) (x : In) :
    ((((((w.setCell ⟨g, j * 7 + 1, none⟩ (.int .i64 x.op)).setCell ⟨g, j * 7 + 2, none⟩ (.int .i64 x.d)).setCell ⟨g, j * 7 + 3, none⟩ (.int .i64 x.a)).setCell ⟨g, j * 7 + 4, none⟩ (.int .i64 x.b)).setCell ⟨g, j * 7 + 5, none⟩ (.int .i64 x.n)).setCell ⟨g, j * 7 + 6, none⟩ (.string (mk x.name))).ownsRow base e 7 (.slice (some ⟨g, 0, none⟩) n cap) n ((M.set j ⟨(M[j]'hj).label, x⟩).flatMap cellsL) ∧ w.grownBy ((((((w.setCell ⟨g, j * 7 + 1, none⟩ (.int .i64 x.op)).setCell ⟨g, j * 7 + 2, none⟩ (.int .i64 x.d)).setCell ⟨g, j * 7 + 3, none⟩ (.int .i64 x.a)).setCell ⟨g, j * 7 + 4, none⟩ (.int .i64 x.b)).setCell ⟨g, j * 7 + 5, none⟩ (.int .i64 x.n)).setCell ⟨g, j * 7 + 6, none⟩ (.string (mk x.name))) (some g) := by
  obtain ⟨h1, g1⟩ := h.stored (j * 7 + 1) (.int .i64 x.op)
  obtain ⟨h2, g2⟩ := h1.stored (j * 7 + 2) (.int .i64 x.d)
  obtain ⟨h3, g3⟩ := h2.stored (j * 7 + 3) (.int .i64 x.a)
  obtain ⟨h4, g4⟩ := h3.stored (j * 7 + 4) (.int .i64 x.b)
  obtain ⟨h5, g5⟩ := h4.stored (j * 7 + 5) (.int .i64 x.n)
  obtain ⟨h6, g6⟩ := h5.stored (j * 7 + 6) (.string (mk x.name))
  rw [flat_fix M j hj x] at h6
  exact ⟨h6, grown_trans (grown_trans (grown_trans (grown_trans (grown_trans g1 g2) g3) g4) g5) g6⟩
def midL (f : Nat → Ln → Ln) (M : List Ln) (i : Nat) : List Ln := (M.mapIdx f).take i ++ M.drop i
theorem midL_zero (f : Nat → Ln → Ln) (M : List Ln) : midL f M 0 = M := by unfold midL; simp
theorem midL_all (f : Nat → Ln → Ln) (M : List Ln) (i : Nat) (h : M.length ≤ i) : midL f M i = M.mapIdx f := by
  unfold midL
  rw [List.drop_eq_nil_of_le h, List.append_nil, List.take_of_length_le (by simpa using h)]
theorem midL_len (f : Nat → Ln → Ln) (M : List Ln) (i : Nat) (h : i ≤ M.length) : (midL f M i).length = M.length := by
  unfold midL; simp; omega
theorem midL_get (f : Nat → Ln → Ln) (M : List Ln) (i : Nat) (h : i < M.length) (h' : i < (midL f M i).length) : (midL f M i)[i]'h' = M[i]'h := by
  have hl : ((M.mapIdx f).take i).length = i := by simp; omega
  have e : (midL f M i)[i]? = M[i]? := by
    unfold midL
    rw [List.getElem?_append_right (by omega), hl, Nat.sub_self, List.getElem?_drop, Nat.add_zero]
  rw [List.getElem?_eq_getElem h, List.getElem?_eq_getElem h'] at e
  injection e
theorem midL_next (f : Nat → Ln → Ln) (M : List Ln) (i : Nat) (h : i < M.length) : midL f M (i + 1) = (midL f M i).set i (f i (M[i]'h)) := by
  have hl : ((M.mapIdx f).take i).length = i := by simp; omega
  unfold midL
  rw [List.set_append_right _ _ (by omega), hl, Nat.sub_self, List.take_succ_eq_append_getElem (by simpa using h), List.append_assoc]
  have e : (M.drop i).set 0 (f i (M[i]'h)) = f i (M[i]'h) :: M.drop (i + 1) := by rw [List.drop_eq_getElem_cons h]; rfl
  rw [e, List.getElem_mapIdx]
  rfl
end Go.Proofs.YtlaihjefmhcmcaaGreatDoor
