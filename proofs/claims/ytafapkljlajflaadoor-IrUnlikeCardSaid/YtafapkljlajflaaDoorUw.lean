/- ir.Check. -/
import Derived.Test.YtafapkljlajflaaDoorRows
import Derived.WalkKit
import Derived.ProofKit
import Derived.OpenShut
import Derived.WalkLawsBesides
import Derived.WalkSpells
import Derived.Outline
import Derived.Handy
import Derived.Lib.Hide
import Derived.Lib.OthersKept
import Derived.KernelRfl
import Derived.Carry
import Derived.RegionTactic
import Derived.BigRegion
import Derived.OwnWalk
import Derived.Deep.Cut
import Derived.IntWalk
import Derived.Deep.QuietTactic
import Derived.BigQuiet
import Derived.Deep.RegionHeld3
import Derived.Test.YtafapkljlajflaaDoorUv
namespace Go.Proofs.YtafapkljlajflaaDoor
open Go.ChangeShapes Go.WideShapes Go.ChangeAt Go.RowKit
set_option linter.unusedVariables false
/-- What the walks ask of a unit beside its form: how long its lists and names are. -/
structure UnFit (u : Un) : Prop where
  of ::
  nm : NamesOk u
  cn : ∀ f ∈ u.flows, cntT f.blocks ≤ 4611686018427387904
  xn : ∀ f ∈ u.flows, ∀ b ∈ f.blocks, ∀ x ∈ b.ins, x.name.length ≤ 140737488355328
theorem namM_eq {u : Un} {FA : List UInt8 → Option Int} (hA : ∀ n, (FA n).isSome = arrHas u.arrays n) (k : Int) (n : List UInt8) : namM FA (placeF u.flows) k n = namB u k n := by
  unfold namM namB
  rw [hA, placeF_some]
theorem argM_eq (u : Un) (vals : Int) (x : Xn) (h : x.kind = 9 → flwHas u.flows x.name = true) : argM u (placeF u.flows) vals x = argB u vals x := by
  unfold argM argB
  by_cases h9 : x.kind = 9
  · rw [if_pos h9, if_pos h9]
    unfold placeF
    rw [if_pos (h h9)]
    rfl
  · rw [if_neg h9, if_neg h9]
theorem insM_eq {u : Un} {FA : List UInt8 → Option Int} (hA : ∀ n, (FA n).isSome = arrHas u.arrays n) (vals : Int) (x : Xn) : insM u FA (placeF u.flows) vals x = insB u vals x := by
  unfold insM insB
  rw [namM_eq hA]
  cases hn : namB u x.kind x.name with
  | false => simp
  | true =>
    rw [argM_eq u vals x (fun h9 => by
      unfold namB at hn
      rw [h9] at hn
      simpa using hn)]
theorem blkM_eq {u : Un} {FA : List UInt8 → Option Int} (hA : ∀ n, (FA n).isSome = arrHas u.arrays n) (f : Fl) (b : Bk) : blkM u FA (placeF u.flows) f.values f.blocks.length b = blkB u f b := by
  unfold blkM blkB
  have e : b.ins.all (insM u FA (placeF u.flows) f.values) = b.ins.all (insB u f.values) := by
    congr 1
    funext x
    exact insM_eq hA f.values x
  rw [e]
  rfl
theorem xnok_of {u : Un} {x : Xn} (hl : x.name.length ≤ 140737488355328) : XnOk u (placeF u.flows) x := ⟨hl, fun _ h => by
  rw [placeF_some] at h
  exact ⟨plcOf u.flows x.name, by unfold placeF; rw [if_pos h], plc_lt h⟩⟩
theorem badBk_at (u : Un) (f : Fl) : ∀ (L : List Bk) (j k0 : Nat) (hj : j ≤ L.length), (∀ t (ht : t < j), blkB u f (L[t]'(by omega)) = true) → badBk u f L k0 = badBk u f (L.drop j) (k0 + j)
  | L, 0, k0, _, _ => rfl
  | [], j + 1, k0, hj, _ => by cases hj
  | b :: r, j + 1, k0, hj, h => by
    have h0 : blkB u f b = true := h 0 (by omega)
    have ih := badBk_at u f r j (k0 + 1) (by simpa using hj) (fun t ht => h (t + 1) (by omega))
    rw [badBk, if_pos h0, ih, List.drop_succ_cons]
    congr 1; omega
theorem badFl_at (u : Un) : ∀ (L : List Fl) (j k0 : Nat) (hj : j ≤ L.length), (∀ t (ht : t < j), flwB (L[t]'(by omega)) = true ∧ badBk u (L[t]'(by omega)) (L[t]'(by omega)).blocks 0 = none) → badFl u L k0 = badFl u (L.drop j) (k0 + j)
  | L, 0, k0, _, _ => rfl
  | [], j + 1, k0, hj, _ => by cases hj
  | f :: r, j + 1, k0, hj, h => by
    have h0 := h 0 (by omega)
    have ih := badFl_at u r j (k0 + 1) (by simpa using hj) (fun t ht => h (t + 1) (by omega))
    have h1 : flwB f = true := h0.1
    have h2 : badBk u f f.blocks 0 = none := h0.2
    rw [badFl, if_pos h1, h2]
    show badFl u r (k0 + 1) = _
    rw [ih, List.drop_succ_cons]
    congr 1; omega
def chkV (x : Int × Nat × Nat) : Ending := .returned (.tuple #[.int .i64 x.1, .agg #[.int .i64 x.2.1, .int .i64 x.2.2]])
theorem wrong_flow {u : Un} {i : Nat} (hd : declB u = true) (hi : i < u.flows.length) (hall : ∀ t (ht : t < i), flwB (u.flows[t]'(by omega)) = true ∧ badBk u (u.flows[t]'(by omega)) (u.flows[t]'(by omega)).blocks 0 = none) (hf : flwB (u.flows[i]'hi) = false) : wrongU u = (70, i, 0) := by
  unfold wrongU
  rw [if_pos hd, badFl_at u u.flows i 0 (by omega) hall, List.drop_eq_getElem_cons hi]
  unfold badFl
  rw [if_neg (by rw [hf]; decide), Nat.zero_add]
theorem wrong_block {u : Un} {i k : Nat} (hd : declB u = true) (hi : i < u.flows.length) (hall : ∀ t (ht : t < i), flwB (u.flows[t]'(by omega)) = true ∧ badBk u (u.flows[t]'(by omega)) (u.flows[t]'(by omega)).blocks 0 = none) (hf : flwB (u.flows[i]'hi) = true) (hk : k < (u.flows[i]'hi).blocks.length) (hkk : ∀ t (ht : t < k), blkB u (u.flows[i]'hi) ((u.flows[i]'hi).blocks[t]'(by omega)) = true) (hb : blkB u (u.flows[i]'hi) ((u.flows[i]'hi).blocks[k]'hk) = false) : wrongU u = (70, i, k) := by
  unfold wrongU
  rw [if_pos hd, badFl_at u u.flows i 0 (by omega) hall, List.drop_eq_getElem_cons hi]
  unfold badFl
  rw [if_pos hf, badBk_at u _ _ k 0 (by omega) hkk, List.drop_eq_getElem_cons hk]
  unfold badBk
  rw [if_neg (by rw [hb]; decide), Nat.zero_add, Nat.zero_add]
theorem block_none {u : Un} {f : Fl} (h : ∀ t (ht : t < f.blocks.length), blkB u f (f.blocks[t]'ht) = true) : badBk u f f.blocks 0 = none := by
  rw [badBk_at u f f.blocks f.blocks.length 0 (Nat.le_refl _) h, List.drop_eq_nil_of_le (Nat.le_refl _)]; rfl
theorem wrong_none {u : Un} (hd : declB u = true) (hall : ∀ t (ht : t < u.flows.length), flwB (u.flows[t]'ht) = true ∧ badBk u (u.flows[t]'ht) (u.flows[t]'ht).blocks 0 = none) : wrongU u = (0, 0, 0) := by
  unfold wrongU
  rw [if_pos hd, badFl_at u u.flows u.flows.length 0 (Nat.le_refl _) hall, List.drop_eq_nil_of_le (Nat.le_refl _)]; rfl
end Go.Proofs.YtafapkljlajflaaDoor
