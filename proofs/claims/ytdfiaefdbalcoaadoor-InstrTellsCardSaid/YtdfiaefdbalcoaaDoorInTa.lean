/- The document's own answer: forms, labels. -/
import Derived.Test.YtdfiaefdbalcoaaDoorRows
import Derived.WalkKit
import Derived.ProofKit
import Derived.OpenShut
import Derived.WalkLawsBesides
import Derived.WalkSpells
import Derived.Outline
import Derived.Handy
import Derived.Lib.Hide
import Derived.Lib.OthersKept
import Derived.KernelRfl
import Derived.Test.YtdfiaefdbalcoaaDoorInC
namespace Go.Proofs.YtdfiaefdbalcoaaDoor
open Go.ChangeShapes Go.WideShapes Go.ChangeAt Go.RowKit
set_option linter.unusedVariables false
def rformV (op : Int) : Value := .tuple #[.string (mk (nmL op)), .string (mk (hasL op))]
set_option maxRecDepth 100000 in
theorem rform_1 (w : World) : Calls Tryd.prog 31 #[.int .i64 1] w fun e w' => e = .returned (rformV 1) ∧ Below w.heap.size w w' := by
  have hv : rformV 1 = .tuple #[.string ⟨#[97, 100, 100]⟩, .string ⟨#[68, 44, 32, 65, 44, 32, 66]⟩] := by kernel_rfl
  rw [hv]; clear hv
  go_enter Tryd.func31, Tryd.ntmps31
  go_wp2_with fail
  go_ret2
  exact ⟨rfl, by repeat (first | exact Below.refl _ _ | (refine ext_alloc ?_ _) | (refine ext_drew ?_) | (refine ext_set ?_ (by simp) _))⟩
set_option maxRecDepth 100000 in
theorem rform_2 (w : World) : Calls Tryd.prog 31 #[.int .i64 2] w fun e w' => e = .returned (rformV 2) ∧ Below w.heap.size w w' := by
  have hv : rformV 2 = .tuple #[.string ⟨#[115, 117, 98]⟩, .string ⟨#[68, 44, 32, 65, 44, 32, 66]⟩] := by kernel_rfl
  rw [hv]; clear hv
  go_enter Tryd.func31, Tryd.ntmps31
  go_wp2_with fail
  go_ret2
  exact ⟨rfl, by repeat (first | exact Below.refl _ _ | (refine ext_alloc ?_ _) | (refine ext_drew ?_) | (refine ext_set ?_ (by simp) _))⟩
set_option maxRecDepth 100000 in
theorem rform_3 (w : World) : Calls Tryd.prog 31 #[.int .i64 3] w fun e w' => e = .returned (rformV 3) ∧ Below w.heap.size w w' := by
  have hv : rformV 3 = .tuple #[.string ⟨#[109, 117, 108]⟩, .string ⟨#[68, 44, 32, 65, 44, 32, 66]⟩] := by kernel_rfl
  rw [hv]; clear hv
  go_enter Tryd.func31, Tryd.ntmps31
  go_wp2_with fail
  go_ret2
  exact ⟨rfl, by repeat (first | exact Below.refl _ _ | (refine ext_alloc ?_ _) | (refine ext_drew ?_) | (refine ext_set ?_ (by simp) _))⟩
set_option maxRecDepth 100000 in
theorem rform_4 (w : World) : Calls Tryd.prog 31 #[.int .i64 4] w fun e w' => e = .returned (rformV 4) ∧ Below w.heap.size w w' := by
  have hv : rformV 4 = .tuple #[.string ⟨#[100, 105, 118]⟩, .string ⟨#[68, 44, 32, 65, 44, 32, 66]⟩] := by kernel_rfl
  rw [hv]; clear hv
  go_enter Tryd.func31, Tryd.ntmps31
  go_wp2_with fail
  go_ret2
  exact ⟨rfl, by repeat (first | exact Below.refl _ _ | (refine ext_alloc ?_ _) | (refine ext_drew ?_) | (refine ext_set ?_ (by simp) _))⟩
set_option maxRecDepth 100000 in
theorem rform_5 (w : World) : Calls Tryd.prog 31 #[.int .i64 5] w fun e w' => e = .returned (rformV 5) ∧ Below w.heap.size w w' := by
  have hv : rformV 5 = .tuple #[.string ⟨#[114, 101, 109]⟩, .string ⟨#[68, 44, 32, 65, 44, 32, 66]⟩] := by kernel_rfl
  rw [hv]; clear hv
  go_enter Tryd.func31, Tryd.ntmps31
  go_wp2_with fail
  go_ret2
  exact ⟨rfl, by repeat (first | exact Below.refl _ _ | (refine ext_alloc ?_ _) | (refine ext_drew ?_) | (refine ext_set ?_ (by simp) _))⟩
set_option maxRecDepth 100000 in
theorem rform_6 (w : World) : Calls Tryd.prog 31 #[.int .i64 6] w fun e w' => e = .returned (rformV 6) ∧ Below w.heap.size w w' := by
  have hv : rformV 6 = .tuple #[.string ⟨#[97, 110, 100]⟩, .string ⟨#[68, 44, 32, 65, 44, 32, 66]⟩] := by kernel_rfl
  rw [hv]; clear hv
  go_enter Tryd.func31, Tryd.ntmps31
  go_wp2_with fail
  go_ret2
  exact ⟨rfl, by repeat (first | exact Below.refl _ _ | (refine ext_alloc ?_ _) | (refine ext_drew ?_) | (refine ext_set ?_ (by simp) _))⟩
set_option maxRecDepth 100000 in
theorem rform_7 (w : World) : Calls Tryd.prog 31 #[.int .i64 7] w fun e w' => e = .returned (rformV 7) ∧ Below w.heap.size w w' := by
  have hv : rformV 7 = .tuple #[.string ⟨#[111, 114]⟩, .string ⟨#[68, 44, 32, 65, 44, 32, 66]⟩] := by kernel_rfl
  rw [hv]; clear hv
  go_enter Tryd.func31, Tryd.ntmps31
  go_wp2_with fail
  go_ret2
  exact ⟨rfl, by repeat (first | exact Below.refl _ _ | (refine ext_alloc ?_ _) | (refine ext_drew ?_) | (refine ext_set ?_ (by simp) _))⟩
set_option maxRecDepth 100000 in
theorem rform_8 (w : World) : Calls Tryd.prog 31 #[.int .i64 8] w fun e w' => e = .returned (rformV 8) ∧ Below w.heap.size w w' := by
  have hv : rformV 8 = .tuple #[.string ⟨#[120, 111, 114]⟩, .string ⟨#[68, 44, 32, 65, 44, 32, 66]⟩] := by kernel_rfl
  rw [hv]; clear hv
  go_enter Tryd.func31, Tryd.ntmps31
  go_wp2_with fail
  go_ret2
  exact ⟨rfl, by repeat (first | exact Below.refl _ _ | (refine ext_alloc ?_ _) | (refine ext_drew ?_) | (refine ext_set ?_ (by simp) _))⟩
set_option maxRecDepth 100000 in
theorem rform_9 (w : World) : Calls Tryd.prog 31 #[.int .i64 9] w fun e w' => e = .returned (rformV 9) ∧ Below w.heap.size w w' := by
  have hv : rformV 9 = .tuple #[.string ⟨#[115, 108, 108]⟩, .string ⟨#[68, 44, 32, 65, 44, 32, 66]⟩] := by kernel_rfl
  rw [hv]; clear hv
  go_enter Tryd.func31, Tryd.ntmps31
  go_wp2_with fail
  go_ret2
  exact ⟨rfl, by repeat (first | exact Below.refl _ _ | (refine ext_alloc ?_ _) | (refine ext_drew ?_) | (refine ext_set ?_ (by simp) _))⟩
set_option maxRecDepth 100000 in
theorem rform_10 (w : World) : Calls Tryd.prog 31 #[.int .i64 10] w fun e w' => e = .returned (rformV 10) ∧ Below w.heap.size w w' := by
  have hv : rformV 10 = .tuple #[.string ⟨#[115, 114, 97]⟩, .string ⟨#[68, 44, 32, 65, 44, 32, 66]⟩] := by kernel_rfl
  rw [hv]; clear hv
  go_enter Tryd.func31, Tryd.ntmps31
  go_wp2_with fail
  go_ret2
  exact ⟨rfl, by repeat (first | exact Below.refl _ _ | (refine ext_alloc ?_ _) | (refine ext_drew ?_) | (refine ext_set ?_ (by simp) _))⟩
set_option maxRecDepth 100000 in
theorem rform_11 (w : World) : Calls Tryd.prog 31 #[.int .i64 11] w fun e w' => e = .returned (rformV 11) ∧ Below w.heap.size w w' := by
  have hv : rformV 11 = .tuple #[.string ⟨#[115, 108, 116]⟩, .string ⟨#[68, 44, 32, 65, 44, 32, 66]⟩] := by kernel_rfl
  rw [hv]; clear hv
  go_enter Tryd.func31, Tryd.ntmps31
  go_wp2_with fail
  go_ret2
  exact ⟨rfl, by repeat (first | exact Below.refl _ _ | (refine ext_alloc ?_ _) | (refine ext_drew ?_) | (refine ext_set ?_ (by simp) _))⟩
set_option maxRecDepth 100000 in
theorem rform_12 (w : World) : Calls Tryd.prog 31 #[.int .i64 12] w fun e w' => e = .returned (rformV 12) ∧ Below w.heap.size w w' := by
  have hv : rformV 12 = .tuple #[.string ⟨#[115, 108, 116, 117]⟩, .string ⟨#[68, 44, 32, 65, 44, 32, 66]⟩] := by kernel_rfl
  rw [hv]; clear hv
  go_enter Tryd.func31, Tryd.ntmps31
  go_wp2_with fail
  go_ret2
  exact ⟨rfl, by repeat (first | exact Below.refl _ _ | (refine ext_alloc ?_ _) | (refine ext_drew ?_) | (refine ext_set ?_ (by simp) _))⟩
set_option maxRecDepth 100000 in
theorem rform_13 (w : World) : Calls Tryd.prog 31 #[.int .i64 13] w fun e w' => e = .returned (rformV 13) ∧ Below w.heap.size w w' := by
  have hv : rformV 13 = .tuple #[.string ⟨#[115, 101, 113, 122]⟩, .string ⟨#[68, 44, 32, 65]⟩] := by kernel_rfl
  rw [hv]; clear hv
  go_enter Tryd.func31, Tryd.ntmps31
  go_wp2_with fail
  go_ret2
  exact ⟨rfl, by repeat (first | exact Below.refl _ _ | (refine ext_alloc ?_ _) | (refine ext_drew ?_) | (refine ext_set ?_ (by simp) _))⟩
set_option maxRecDepth 100000 in
theorem rform_14 (w : World) : Calls Tryd.prog 31 #[.int .i64 14] w fun e w' => e = .returned (rformV 14) ∧ Below w.heap.size w w' := by
  have hv : rformV 14 = .tuple #[.string ⟨#[115, 110, 101, 122]⟩, .string ⟨#[68, 44, 32, 65]⟩] := by kernel_rfl
  rw [hv]; clear hv
  go_enter Tryd.func31, Tryd.ntmps31
  go_wp2_with fail
  go_ret2
  exact ⟨rfl, by repeat (first | exact Below.refl _ _ | (refine ext_alloc ?_ _) | (refine ext_drew ?_) | (refine ext_set ?_ (by simp) _))⟩
set_option maxRecDepth 100000 in
theorem rform_15 (w : World) : Calls Tryd.prog 31 #[.int .i64 15] w fun e w' => e = .returned (rformV 15) ∧ Below w.heap.size w w' := by
  have hv : rformV 15 = .tuple #[.string ⟨#[109, 118]⟩, .string ⟨#[68, 44, 32, 65]⟩] := by kernel_rfl
  rw [hv]; clear hv
  go_enter Tryd.func31, Tryd.ntmps31
  go_wp2_with fail
  go_ret2
  exact ⟨rfl, by repeat (first | exact Below.refl _ _ | (refine ext_alloc ?_ _) | (refine ext_drew ?_) | (refine ext_set ?_ (by simp) _))⟩
set_option maxRecDepth 100000 in
theorem rform_16 (w : World) : Calls Tryd.prog 31 #[.int .i64 16] w fun e w' => e = .returned (rformV 16) ∧ Below w.heap.size w w' := by
  have hv : rformV 16 = .tuple #[.string ⟨#[108, 105]⟩, .string ⟨#[68, 44, 32, 78]⟩] := by kernel_rfl
  rw [hv]; clear hv
  go_enter Tryd.func31, Tryd.ntmps31
  go_wp2_with fail
  go_ret2
  exact ⟨rfl, by repeat (first | exact Below.refl _ _ | (refine ext_alloc ?_ _) | (refine ext_drew ?_) | (refine ext_set ?_ (by simp) _))⟩
set_option maxRecDepth 100000 in
theorem rform_17 (w : World) : Calls Tryd.prog 31 #[.int .i64 17] w fun e w' => e = .returned (rformV 17) ∧ Below w.heap.size w w' := by
  have hv : rformV 17 = .tuple #[.string ⟨#[108, 97]⟩, .string ⟨#[68, 44, 32, 76]⟩] := by kernel_rfl
  rw [hv]; clear hv
  go_enter Tryd.func31, Tryd.ntmps31
  go_wp2_with fail
  go_ret2
  exact ⟨rfl, by repeat (first | exact Below.refl _ _ | (refine ext_alloc ?_ _) | (refine ext_drew ?_) | (refine ext_set ?_ (by simp) _))⟩
set_option maxRecDepth 100000 in
theorem rform_18 (w : World) : Calls Tryd.prog 31 #[.int .i64 18] w fun e w' => e = .returned (rformV 18) ∧ Below w.heap.size w w' := by
  have hv : rformV 18 = .tuple #[.string ⟨#[97, 100, 100, 105]⟩, .string ⟨#[68, 44, 32, 65, 44, 32, 83]⟩] := by kernel_rfl
  rw [hv]; clear hv
  go_enter Tryd.func31, Tryd.ntmps31
  go_wp2_with fail
  go_ret2
  exact ⟨rfl, by repeat (first | exact Below.refl _ _ | (refine ext_alloc ?_ _) | (refine ext_drew ?_) | (refine ext_set ?_ (by simp) _))⟩
set_option maxRecDepth 100000 in
theorem rform_19 (w : World) : Calls Tryd.prog 31 #[.int .i64 19] w fun e w' => e = .returned (rformV 19) ∧ Below w.heap.size w w' := by
  have hv : rformV 19 = .tuple #[.string ⟨#[108, 100]⟩, .string ⟨#[68, 44, 32, 83, 40, 65, 41]⟩] := by kernel_rfl
  rw [hv]; clear hv
  go_enter Tryd.func31, Tryd.ntmps31
  go_wp2_with fail
  go_ret2
  exact ⟨rfl, by repeat (first | exact Below.refl _ _ | (refine ext_alloc ?_ _) | (refine ext_drew ?_) | (refine ext_set ?_ (by simp) _))⟩
set_option maxRecDepth 100000 in
theorem rform_20 (w : World) : Calls Tryd.prog 31 #[.int .i64 20] w fun e w' => e = .returned (rformV 20) ∧ Below w.heap.size w w' := by
  have hv : rformV 20 = .tuple #[.string ⟨#[115, 100]⟩, .string ⟨#[66, 44, 32, 83, 40, 65, 41]⟩] := by kernel_rfl
  rw [hv]; clear hv
  go_enter Tryd.func31, Tryd.ntmps31
  go_wp2_with fail
  go_ret2
  exact ⟨rfl, by repeat (first | exact Below.refl _ _ | (refine ext_alloc ?_ _) | (refine ext_drew ?_) | (refine ext_set ?_ (by simp) _))⟩
set_option maxRecDepth 100000 in
theorem rform_21 (w : World) : Calls Tryd.prog 31 #[.int .i64 21] w fun e w' => e = .returned (rformV 21) ∧ Below w.heap.size w w' := by
  have hv : rformV 21 = .tuple #[.string ⟨#[98, 101, 113]⟩, .string ⟨#[65, 44, 32, 66, 44, 32, 76]⟩] := by kernel_rfl
  rw [hv]; clear hv
  go_enter Tryd.func31, Tryd.ntmps31
  go_wp2_with fail
  go_ret2
  exact ⟨rfl, by repeat (first | exact Below.refl _ _ | (refine ext_alloc ?_ _) | (refine ext_drew ?_) | (refine ext_set ?_ (by simp) _))⟩
set_option maxRecDepth 100000 in
theorem rform_22 (w : World) : Calls Tryd.prog 31 #[.int .i64 22] w fun e w' => e = .returned (rformV 22) ∧ Below w.heap.size w w' := by
  have hv : rformV 22 = .tuple #[.string ⟨#[98, 110, 101]⟩, .string ⟨#[65, 44, 32, 66, 44, 32, 76]⟩] := by kernel_rfl
  rw [hv]; clear hv
  go_enter Tryd.func31, Tryd.ntmps31
  go_wp2_with fail
  go_ret2
  exact ⟨rfl, by repeat (first | exact Below.refl _ _ | (refine ext_alloc ?_ _) | (refine ext_drew ?_) | (refine ext_set ?_ (by simp) _))⟩
set_option maxRecDepth 100000 in
theorem rform_23 (w : World) : Calls Tryd.prog 31 #[.int .i64 23] w fun e w' => e = .returned (rformV 23) ∧ Below w.heap.size w w' := by
  have hv : rformV 23 = .tuple #[.string ⟨#[98, 108, 116]⟩, .string ⟨#[65, 44, 32, 66, 44, 32, 76]⟩] := by kernel_rfl
  rw [hv]; clear hv
  go_enter Tryd.func31, Tryd.ntmps31
  go_wp2_with fail
  go_ret2
  exact ⟨rfl, by repeat (first | exact Below.refl _ _ | (refine ext_alloc ?_ _) | (refine ext_drew ?_) | (refine ext_set ?_ (by simp) _))⟩
set_option maxRecDepth 100000 in
theorem rform_24 (w : World) : Calls Tryd.prog 31 #[.int .i64 24] w fun e w' => e = .returned (rformV 24) ∧ Below w.heap.size w w' := by
  have hv : rformV 24 = .tuple #[.string ⟨#[98, 103, 101]⟩, .string ⟨#[65, 44, 32, 66, 44, 32, 76]⟩] := by kernel_rfl
  rw [hv]; clear hv
  go_enter Tryd.func31, Tryd.ntmps31
  go_wp2_with fail
  go_ret2
  exact ⟨rfl, by repeat (first | exact Below.refl _ _ | (refine ext_alloc ?_ _) | (refine ext_drew ?_) | (refine ext_set ?_ (by simp) _))⟩
set_option maxRecDepth 100000 in
theorem rform_25 (w : World) : Calls Tryd.prog 31 #[.int .i64 25] w fun e w' => e = .returned (rformV 25) ∧ Below w.heap.size w w' := by
  have hv : rformV 25 = .tuple #[.string ⟨#[106]⟩, .string ⟨#[76]⟩] := by kernel_rfl
  rw [hv]; clear hv
  go_enter Tryd.func31, Tryd.ntmps31
  go_wp2_with fail
  go_ret2
  exact ⟨rfl, by repeat (first | exact Below.refl _ _ | (refine ext_alloc ?_ _) | (refine ext_drew ?_) | (refine ext_set ?_ (by simp) _))⟩
set_option maxRecDepth 100000 in
theorem rform_26 (w : World) : Calls Tryd.prog 31 #[.int .i64 26] w fun e w' => e = .returned (rformV 26) ∧ Below w.heap.size w w' := by
  have hv : rformV 26 = .tuple #[.string ⟨#[106, 97, 108]⟩, .string ⟨#[76]⟩] := by kernel_rfl
  rw [hv]; clear hv
  go_enter Tryd.func31, Tryd.ntmps31
  go_wp2_with fail
  go_ret2
  exact ⟨rfl, by repeat (first | exact Below.refl _ _ | (refine ext_alloc ?_ _) | (refine ext_drew ?_) | (refine ext_set ?_ (by simp) _))⟩
set_option maxRecDepth 100000 in
theorem rform_27 (w : World) : Calls Tryd.prog 31 #[.int .i64 27] w fun e w' => e = .returned (rformV 27) ∧ Below w.heap.size w w' := by
  have hv : rformV 27 = .tuple #[.string ⟨#[114, 101, 116]⟩, .string ⟨#[]⟩] := by kernel_rfl
  rw [hv]; clear hv
  go_enter Tryd.func31, Tryd.ntmps31
  go_wp2_with fail
  go_ret2
  exact ⟨rfl, by repeat (first | exact Below.refl _ _ | (refine ext_alloc ?_ _) | (refine ext_drew ?_) | (refine ext_set ?_ (by simp) _))⟩
set_option maxRecDepth 100000 in
theorem rform_28 (w : World) : Calls Tryd.prog 31 #[.int .i64 28] w fun e w' => e = .returned (rformV 28) ∧ Below w.heap.size w w' := by
  have hv : rformV 28 = .tuple #[.string ⟨#[101, 99, 97, 108, 108]⟩, .string ⟨#[]⟩] := by kernel_rfl
  rw [hv]; clear hv
  go_enter Tryd.func31, Tryd.ntmps31
  go_wp2_with fail
  go_ret2
  exact ⟨rfl, by repeat (first | exact Below.refl _ _ | (refine ext_alloc ?_ _) | (refine ext_drew ?_) | (refine ext_set ?_ (by simp) _))⟩
theorem rform_no (op : Int) (w : World) (h : isOp op = false) : Calls Tryd.prog 31 #[.int .i64 op] w fun e w' => e = .returned (rformV op) ∧ Below w.heap.size w w' := by
  have hv : rformV op = .tuple #[.string ⟨#[]⟩, .string ⟨#[]⟩] := by unfold rformV nmL hasL; rw [h]; rfl
  rw [hv]; clear hv
  have h' := of_decide_eq_false h
  have hc : op < 1 ∨ 28 < op := by omega
  clear h h'
  rcases hc with hc | hc
  all_goals
    go_enter Tryd.func31, Tryd.ntmps31
    go_wp2_with fail
    go_ret2
    exact ⟨rfl, by repeat (first | exact Below.refl _ _ | (refine ext_alloc ?_ _) | (refine ext_drew ?_) | (refine ext_set ?_ (by simp) _))⟩
theorem rform_any (op : Int) (w : World) : Calls Tryd.prog 31 #[.int .i64 op] w fun e w' => e = .returned (rformV op) ∧ Below w.heap.size w w' := by
  cases h : isOp op
  · exact rform_no op w h
  · obtain ⟨k, rfl⟩ := op_nat h
    obtain ⟨k, hk⟩ := k
    match k, hk with
    | 0, _ => exact rform_1 w
    | 1, _ => exact rform_2 w
    | 2, _ => exact rform_3 w
    | 3, _ => exact rform_4 w
    | 4, _ => exact rform_5 w
    | 5, _ => exact rform_6 w
    | 6, _ => exact rform_7 w
    | 7, _ => exact rform_8 w
    | 8, _ => exact rform_9 w
    | 9, _ => exact rform_10 w
    | 10, _ => exact rform_11 w
    | 11, _ => exact rform_12 w
    | 12, _ => exact rform_13 w
    | 13, _ => exact rform_14 w
    | 14, _ => exact rform_15 w
    | 15, _ => exact rform_16 w
    | 16, _ => exact rform_17 w
    | 17, _ => exact rform_18 w
    | 18, _ => exact rform_19 w
    | 19, _ => exact rform_20 w
    | 20, _ => exact rform_21 w
    | 21, _ => exact rform_22 w
    | 22, _ => exact rform_23 w
    | 23, _ => exact rform_24 w
    | 24, _ => exact rform_25 w
    | 25, _ => exact rform_26 w
    | 26, _ => exact rform_27 w
    | 27, _ => exact rform_28 w
    | k + 28, hk => exact absurd hk (by omega)
end Go.Proofs.YtdfiaefdbalcoaaDoor
