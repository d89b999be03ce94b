/- Examples of layer 9, parsed. -/
import Derived.Test.YtjimeengkfjihaaGreatDoorRows
import Derived.WalkKit
import Derived.ProofKit
import Derived.KernelRfl
import Derived.Test.YtjimeengkfjihaaGreatDoorAsK
namespace Go.Proofs.YtjimeengkfjihaaGreatDoor
open Go.ChangeShapes Go.WideShapes Go.ChangeAt Go.RowKit
set_option linter.unusedVariables false
set_option maxRecDepth 100000
def mExT : List UInt8 := [46, 97, 114, 114, 97, 121, 32, 97, 32, 50, 10, 108, 105, 32, 120, 49, 55, 44, 32, 51, 10, 108, 105, 32, 120, 49, 48, 44, 32, 55, 10, 101, 99, 97, 108, 108, 10]
def mExC : Cd := ⟨[⟨[], ⟨16, 17, 0, 0, 3, []⟩⟩, ⟨[], ⟨16, 10, 0, 0, 7, []⟩⟩, ⟨[], ⟨28, 0, 0, 0, 0, []⟩⟩], [⟨[97], 2⟩]⟩
theorem mEx_l0 : readA [46, 97, 114, 114, 97, 121, 32, 97, 32, 50] = some ⟨[97], 2⟩ := by
  have h := readA_some (a := ⟨[97], 2⟩) (show arrOk _ from ⟨by decide, by decide, by decide⟩)
  have e : arrLine ⟨[97], 2⟩ = [46, 97, 114, 114, 97, 121, 32, 97, 32, 50] := by kernel_rfl
  rw [e] at h; exact h
theorem mEx_l1 : readLn [108, 105, 32, 120, 49, 55, 44, 32, 51] = some ⟨[], ⟨16, 17, 0, 0, 3, []⟩⟩ := by
  have e : txtL ⟨16, 17, 0, 0, 3, []⟩ = [108, 105, 32, 120, 49, 55, 44, 32, 51] := by kernel_rfl
  have h := readLn_ins (x := ⟨16, 17, 0, 0, 3, []⟩) (by kernel_rfl) (show I64 _ from ⟨by decide, by decide⟩) (by rw [e]; decide)
  rw [e] at h; exact h
theorem mEx_l2 : readLn [108, 105, 32, 120, 49, 48, 44, 32, 55] = some ⟨[], ⟨16, 10, 0, 0, 7, []⟩⟩ := by
  have e : txtL ⟨16, 10, 0, 0, 7, []⟩ = [108, 105, 32, 120, 49, 48, 44, 32, 55] := by kernel_rfl
  have h := readLn_ins (x := ⟨16, 10, 0, 0, 7, []⟩) (by kernel_rfl) (show I64 _ from ⟨by decide, by decide⟩) (by rw [e]; decide)
  rw [e] at h; exact h
theorem mEx_l3 : readLn [101, 99, 97, 108, 108] = some ⟨[], ⟨28, 0, 0, 0, 0, []⟩⟩ := by
  have e : txtL ⟨28, 0, 0, 0, 0, []⟩ = [101, 99, 97, 108, 108] := by kernel_rfl
  have h := readLn_ins (x := ⟨28, 0, 0, 0, 0, []⟩) (by kernel_rfl) (show I64 _ from ⟨by decide, by decide⟩) (by rw [e]; decide)
  rw [e] at h; exact h
theorem mEx_run : runPs (splitNL mExT) 0 ⟨[], [], []⟩ = .inr ⟨mExC.arrays, mExC.lines, [2, 3, 4]⟩ := by
  have hs : splitNL mExT = [[46, 97, 114, 114, 97, 121, 32, 97, 32, 50], [108, 105, 32, 120, 49, 55, 44, 32, 51], [108, 105, 32, 120, 49, 48, 44, 32, 55], [101, 99, 97, 108, 108], []] := by kernel_rfl
  rw [hs]
  rw [run_cons _ _ 0 _ ⟨[⟨[97], 2⟩], [], []⟩ [46, 97, 114, 114, 97, 121, 32, 97, 32, 50] (by kernel_rfl) (step_arr _ 0 (by simp) rfl mEx_l0)]
  rw [run_cons _ _ 1 _ ⟨[⟨[97], 2⟩], [⟨[], ⟨16, 17, 0, 0, 3, []⟩⟩], [2]⟩ [108, 105, 32, 120, 49, 55, 44, 32, 51] (by kernel_rfl) (step_line _ 1 (by simp) (by rw [if_pos rfl]; exact readA_head (by decide)) mEx_l1)]
  rw [run_cons _ _ 2 _ ⟨[⟨[97], 2⟩], [⟨[], ⟨16, 17, 0, 0, 3, []⟩⟩, ⟨[], ⟨16, 10, 0, 0, 7, []⟩⟩], [2, 3]⟩ [108, 105, 32, 120, 49, 48, 44, 32, 55] (by kernel_rfl) (step_line _ 2 (by simp) (by rw [if_neg (by simp)]) mEx_l2)]
  rw [run_cons _ _ 3 _ ⟨[⟨[97], 2⟩], [⟨[], ⟨16, 17, 0, 0, 3, []⟩⟩, ⟨[], ⟨16, 10, 0, 0, 7, []⟩⟩, ⟨[], ⟨28, 0, 0, 0, 0, []⟩⟩], [2, 3, 4]⟩ [101, 99, 97, 108, 108] (by kernel_rfl) (step_line _ 3 (by simp) (by rw [if_neg (by simp)]) mEx_l3)]
  rw [run_cons _ _ 4 _ ⟨[⟨[97], 2⟩], [⟨[], ⟨16, 17, 0, 0, 3, []⟩⟩, ⟨[], ⟨16, 10, 0, 0, 7, []⟩⟩, ⟨[], ⟨28, 0, 0, 0, 0, []⟩⟩], [2, 3, 4]⟩ [] (by kernel_rfl) (step_nil _ 4)]
  rfl
theorem mEx_f : faultL mExC = (0, -1) := by kernel_rfl
theorem mEx_p : parseL mExT = (mExC, 0, 0) := by
  rw [parse_end mEx_run]
  unfold endPs
  have h : faultL ⟨mExC.lines, mExC.arrays⟩ = (0, -1) := mEx_f
  simp only [h]
  rfl
theorem mEx_fit : CdFit mExC := ⟨fun l hl => (by revert l; decide), fun a ha => (by revert a; decide)⟩
theorem mEx_n64 : ∀ l ∈ mExC.lines, I64 l.ins.n := by unfold I64; decide
end Go.Proofs.YtjimeengkfjihaaGreatDoor
