/- What instructions have. -/
import Derived.Test.YtlaihjefmhcmcaaGreatDoorRows
import Derived.WalkKit
import Derived.ProofKit
import Derived.OpenShut
import Derived.WalkLawsBesides
import Derived.WalkSpells
import Derived.Outline
import Derived.Handy
import Derived.Lib.Hide
import Derived.Lib.OthersKept
import Derived.KernelRfl
import Derived.Test.YtlaihjefmhcmcaaGreatDoorInA
import Derived.Test.YtlaihjefmhcmcaaGreatDoorIn1
namespace Go.Proofs.YtlaihjefmhcmcaaGreatDoor
open Go.ChangeShapes Go.WideShapes Go.ChangeAt Go.RowKit
set_option linter.unusedVariables false
def formV (op : Int) (b : Bool) : Value := .tuple #[.agg #[.string (mk (nmL op)), .string (mk (hasL op))], .bool b]
theorem form_1 (w : World) : Calls Tryz.prog 30 #[.int .i64 1] w fun e w' => e = .returned (formV 1 true) ∧ Below w.heap.size w w' := by
  have hv : formV 1 true = .tuple #[.agg #[.string ⟨#[97, 100, 100]⟩, .string ⟨#[68, 44, 32, 65, 44, 32, 66]⟩], .bool true] := by kernel_rfl
  rw [hv]; clear hv
  go_enter Tryz.func30, Tryz.ntmps30
  go_wp2_with fail
  exact bodyPost_ret (v := .tuple #[.agg #[.string ⟨#[97, 100, 100]⟩, .string ⟨#[68, 44, 32, 65, 44, 32, 66]⟩], .bool true]) (by simp [results, Tryz.results30, go_sem]) rfl ⟨rfl, by repeat (first | exact Below.refl _ _ | (refine ext_alloc ?_ _) | (refine ext_drew ?_) | (refine ext_set ?_ (by simp) _))⟩
theorem form_2 (w : World) : Calls Tryz.prog 30 #[.int .i64 2] w fun e w' => e = .returned (formV 2 true) ∧ Below w.heap.size w w' := by
  have hv : formV 2 true = .tuple #[.agg #[.string ⟨#[115, 117, 98]⟩, .string ⟨#[68, 44, 32, 65, 44, 32, 66]⟩], .bool true] := by kernel_rfl
  rw [hv]; clear hv
  go_enter Tryz.func30, Tryz.ntmps30
  go_wp2_with fail
  exact bodyPost_ret (v := .tuple #[.agg #[.string ⟨#[115, 117, 98]⟩, .string ⟨#[68, 44, 32, 65, 44, 32, 66]⟩], .bool true]) (by simp [results, Tryz.results30, go_sem]) rfl ⟨rfl, by repeat (first | exact Below.refl _ _ | (refine ext_alloc ?_ _) | (refine ext_drew ?_) | (refine ext_set ?_ (by simp) _))⟩
theorem form_3 (w : World) : Calls Tryz.prog 30 #[.int .i64 3] w fun e w' => e = .returned (formV 3 true) ∧ Below w.heap.size w w' := by
  have hv : formV 3 true = .tuple #[.agg #[.string ⟨#[109, 117, 108]⟩, .string ⟨#[68, 44, 32, 65, 44, 32, 66]⟩], .bool true] := by kernel_rfl
  rw [hv]; clear hv
  go_enter Tryz.func30, Tryz.ntmps30
  go_wp2_with fail
  exact bodyPost_ret (v := .tuple #[.agg #[.string ⟨#[109, 117, 108]⟩, .string ⟨#[68, 44, 32, 65, 44, 32, 66]⟩], .bool true]) (by simp [results, Tryz.results30, go_sem]) rfl ⟨rfl, by repeat (first | exact Below.refl _ _ | (refine ext_alloc ?_ _) | (refine ext_drew ?_) | (refine ext_set ?_ (by simp) _))⟩
theorem form_4 (w : World) : Calls Tryz.prog 30 #[.int .i64 4] w fun e w' => e = .returned (formV 4 true) ∧ Below w.heap.size w w' := by
  have hv : formV 4 true = .tuple #[.agg #[.string ⟨#[100, 105, 118]⟩, .string ⟨#[68, 44, 32, 65, 44, 32, 66]⟩], .bool true] := by kernel_rfl
  rw [hv]; clear hv
  go_enter Tryz.func30, Tryz.ntmps30
  go_wp2_with fail
  exact bodyPost_ret (v := .tuple #[.agg #[.string ⟨#[100, 105, 118]⟩, .string ⟨#[68, 44, 32, 65, 44, 32, 66]⟩], .bool true]) (by simp [results, Tryz.results30, go_sem]) rfl ⟨rfl, by repeat (first | exact Below.refl _ _ | (refine ext_alloc ?_ _) | (refine ext_drew ?_) | (refine ext_set ?_ (by simp) _))⟩
theorem form_5 (w : World) : Calls Tryz.prog 30 #[.int .i64 5] w fun e w' => e = .returned (formV 5 true) ∧ Below w.heap.size w w' := by
  have hv : formV 5 true = .tuple #[.agg #[.string ⟨#[114, 101, 109]⟩, .string ⟨#[68, 44, 32, 65, 44, 32, 66]⟩], .bool true] := by kernel_rfl
  rw [hv]; clear hv
  go_enter Tryz.func30, Tryz.ntmps30
  go_wp2_with fail
  exact bodyPost_ret (v := .tuple #[.agg #[.string ⟨#[114, 101, 109]⟩, .string ⟨#[68, 44, 32, 65, 44, 32, 66]⟩], .bool true]) (by simp [results, Tryz.results30, go_sem]) rfl ⟨rfl, by repeat (first | exact Below.refl _ _ | (refine ext_alloc ?_ _) | (refine ext_drew ?_) | (refine ext_set ?_ (by simp) _))⟩
theorem form_6 (w : World) : Calls Tryz.prog 30 #[.int .i64 6] w fun e w' => e = .returned (formV 6 true) ∧ Below w.heap.size w w' := by
  have hv : formV 6 true = .tuple #[.agg #[.string ⟨#[97, 110, 100]⟩, .string ⟨#[68, 44, 32, 65, 44, 32, 66]⟩], .bool true] := by kernel_rfl
  rw [hv]; clear hv
  go_enter Tryz.func30, Tryz.ntmps30
  go_wp2_with fail
  exact bodyPost_ret (v := .tuple #[.agg #[.string ⟨#[97, 110, 100]⟩, .string ⟨#[68, 44, 32, 65, 44, 32, 66]⟩], .bool true]) (by simp [results, Tryz.results30, go_sem]) rfl ⟨rfl, by repeat (first | exact Below.refl _ _ | (refine ext_alloc ?_ _) | (refine ext_drew ?_) | (refine ext_set ?_ (by simp) _))⟩
theorem form_7 (w : World) : Calls Tryz.prog 30 #[.int .i64 7] w fun e w' => e = .returned (formV 7 true) ∧ Below w.heap.size w w' := by
  have hv : formV 7 true = .tuple #[.agg #[.string ⟨#[111, 114]⟩, .string ⟨#[68, 44, 32, 65, 44, 32, 66]⟩], .bool true] := by kernel_rfl
  rw [hv]; clear hv
  go_enter Tryz.func30, Tryz.ntmps30
  go_wp2_with fail
  exact bodyPost_ret (v := .tuple #[.agg #[.string ⟨#[111, 114]⟩, .string ⟨#[68, 44, 32, 65, 44, 32, 66]⟩], .bool true]) (by simp [results, Tryz.results30, go_sem]) rfl ⟨rfl, by repeat (first | exact Below.refl _ _ | (refine ext_alloc ?_ _) | (refine ext_drew ?_) | (refine ext_set ?_ (by simp) _))⟩
theorem form_8 (w : World) : Calls Tryz.prog 30 #[.int .i64 8] w fun e w' => e = .returned (formV 8 true) ∧ Below w.heap.size w w' := by
  have hv : formV 8 true = .tuple #[.agg #[.string ⟨#[120, 111, 114]⟩, .string ⟨#[68, 44, 32, 65, 44, 32, 66]⟩], .bool true] := by kernel_rfl
  rw [hv]; clear hv
  go_enter Tryz.func30, Tryz.ntmps30
  go_wp2_with fail
  exact bodyPost_ret (v := .tuple #[.agg #[.string ⟨#[120, 111, 114]⟩, .string ⟨#[68, 44, 32, 65, 44, 32, 66]⟩], .bool true]) (by simp [results, Tryz.results30, go_sem]) rfl ⟨rfl, by repeat (first | exact Below.refl _ _ | (refine ext_alloc ?_ _) | (refine ext_drew ?_) | (refine ext_set ?_ (by simp) _))⟩
theorem form_9 (w : World) : Calls Tryz.prog 30 #[.int .i64 9] w fun e w' => e = .returned (formV 9 true) ∧ Below w.heap.size w w' := by
  have hv : formV 9 true = .tuple #[.agg #[.string ⟨#[115, 108, 108]⟩, .string ⟨#[68, 44, 32, 65, 44, 32, 66]⟩], .bool true] := by kernel_rfl
  rw [hv]; clear hv
  go_enter Tryz.func30, Tryz.ntmps30
  go_wp2_with fail
  exact bodyPost_ret (v := .tuple #[.agg #[.string ⟨#[115, 108, 108]⟩, .string ⟨#[68, 44, 32, 65, 44, 32, 66]⟩], .bool true]) (by simp [results, Tryz.results30, go_sem]) rfl ⟨rfl, by repeat (first | exact Below.refl _ _ | (refine ext_alloc ?_ _) | (refine ext_drew ?_) | (refine ext_set ?_ (by simp) _))⟩
theorem form_10 (w : World) : Calls Tryz.prog 30 #[.int .i64 10] w fun e w' => e = .returned (formV 10 true) ∧ Below w.heap.size w w' := by
  have hv : formV 10 true = .tuple #[.agg #[.string ⟨#[115, 114, 97]⟩, .string ⟨#[68, 44, 32, 65, 44, 32, 66]⟩], .bool true] := by kernel_rfl
  rw [hv]; clear hv
  go_enter Tryz.func30, Tryz.ntmps30
  go_wp2_with fail
  exact bodyPost_ret (v := .tuple #[.agg #[.string ⟨#[115, 114, 97]⟩, .string ⟨#[68, 44, 32, 65, 44, 32, 66]⟩], .bool true]) (by simp [results, Tryz.results30, go_sem]) rfl ⟨rfl, by repeat (first | exact Below.refl _ _ | (refine ext_alloc ?_ _) | (refine ext_drew ?_) | (refine ext_set ?_ (by simp) _))⟩
theorem form_11 (w : World) : Calls Tryz.prog 30 #[.int .i64 11] w fun e w' => e = .returned (formV 11 true) ∧ Below w.heap.size w w' := by
  have hv : formV 11 true = .tuple #[.agg #[.string ⟨#[115, 108, 116]⟩, .string ⟨#[68, 44, 32, 65, 44, 32, 66]⟩], .bool true] := by kernel_rfl
  rw [hv]; clear hv
  go_enter Tryz.func30, Tryz.ntmps30
  go_wp2_with fail
  exact bodyPost_ret (v := .tuple #[.agg #[.string ⟨#[115, 108, 116]⟩, .string ⟨#[68, 44, 32, 65, 44, 32, 66]⟩], .bool true]) (by simp [results, Tryz.results30, go_sem]) rfl ⟨rfl, by repeat (first | exact Below.refl _ _ | (refine ext_alloc ?_ _) | (refine ext_drew ?_) | (refine ext_set ?_ (by simp) _))⟩
theorem form_12 (w : World) : Calls Tryz.prog 30 #[.int .i64 12] w fun e w' => e = .returned (formV 12 true) ∧ Below w.heap.size w w' := by
  have hv : formV 12 true = .tuple #[.agg #[.string ⟨#[115, 108, 116, 117]⟩, .string ⟨#[68, 44, 32, 65, 44, 32, 66]⟩], .bool true] := by kernel_rfl
  rw [hv]; clear hv
  go_enter Tryz.func30, Tryz.ntmps30
  go_wp2_with fail
  exact bodyPost_ret (v := .tuple #[.agg #[.string ⟨#[115, 108, 116, 117]⟩, .string ⟨#[68, 44, 32, 65, 44, 32, 66]⟩], .bool true]) (by simp [results, Tryz.results30, go_sem]) rfl ⟨rfl, by repeat (first | exact Below.refl _ _ | (refine ext_alloc ?_ _) | (refine ext_drew ?_) | (refine ext_set ?_ (by simp) _))⟩
theorem form_13 (w : World) : Calls Tryz.prog 30 #[.int .i64 13] w fun e w' => e = .returned (formV 13 true) ∧ Below w.heap.size w w' := by
  have hv : formV 13 true = .tuple #[.agg #[.string ⟨#[115, 101, 113, 122]⟩, .string ⟨#[68, 44, 32, 65]⟩], .bool true] := by kernel_rfl
  rw [hv]; clear hv
  go_enter Tryz.func30, Tryz.ntmps30
  go_wp2_with fail
  exact bodyPost_ret (v := .tuple #[.agg #[.string ⟨#[115, 101, 113, 122]⟩, .string ⟨#[68, 44, 32, 65]⟩], .bool true]) (by simp [results, Tryz.results30, go_sem]) rfl ⟨rfl, by repeat (first | exact Below.refl _ _ | (refine ext_alloc ?_ _) | (refine ext_drew ?_) | (refine ext_set ?_ (by simp) _))⟩
theorem form_14 (w : World) : Calls Tryz.prog 30 #[.int .i64 14] w fun e w' => e = .returned (formV 14 true) ∧ Below w.heap.size w w' := by
  have hv : formV 14 true = .tuple #[.agg #[.string ⟨#[115, 110, 101, 122]⟩, .string ⟨#[68, 44, 32, 65]⟩], .bool true] := by kernel_rfl
  rw [hv]; clear hv
  go_enter Tryz.func30, Tryz.ntmps30
  go_wp2_with fail
  exact bodyPost_ret (v := .tuple #[.agg #[.string ⟨#[115, 110, 101, 122]⟩, .string ⟨#[68, 44, 32, 65]⟩], .bool true]) (by simp [results, Tryz.results30, go_sem]) rfl ⟨rfl, by repeat (first | exact Below.refl _ _ | (refine ext_alloc ?_ _) | (refine ext_drew ?_) | (refine ext_set ?_ (by simp) _))⟩
theorem form_15 (w : World) : Calls Tryz.prog 30 #[.int .i64 15] w fun e w' => e = .returned (formV 15 true) ∧ Below w.heap.size w w' := by
  have hv : formV 15 true = .tuple #[.agg #[.string ⟨#[109, 118]⟩, .string ⟨#[68, 44, 32, 65]⟩], .bool true] := by kernel_rfl
  rw [hv]; clear hv
  go_enter Tryz.func30, Tryz.ntmps30
  go_wp2_with fail
  exact bodyPost_ret (v := .tuple #[.agg #[.string ⟨#[109, 118]⟩, .string ⟨#[68, 44, 32, 65]⟩], .bool true]) (by simp [results, Tryz.results30, go_sem]) rfl ⟨rfl, by repeat (first | exact Below.refl _ _ | (refine ext_alloc ?_ _) | (refine ext_drew ?_) | (refine ext_set ?_ (by simp) _))⟩
theorem form_16 (w : World) : Calls Tryz.prog 30 #[.int .i64 16] w fun e w' => e = .returned (formV 16 true) ∧ Below w.heap.size w w' := by
  have hv : formV 16 true = .tuple #[.agg #[.string ⟨#[108, 105]⟩, .string ⟨#[68, 44, 32, 78]⟩], .bool true] := by kernel_rfl
  rw [hv]; clear hv
  go_enter Tryz.func30, Tryz.ntmps30
  go_wp2_with fail
  exact bodyPost_ret (v := .tuple #[.agg #[.string ⟨#[108, 105]⟩, .string ⟨#[68, 44, 32, 78]⟩], .bool true]) (by simp [results, Tryz.results30, go_sem]) rfl ⟨rfl, by repeat (first | exact Below.refl _ _ | (refine ext_alloc ?_ _) | (refine ext_drew ?_) | (refine ext_set ?_ (by simp) _))⟩
theorem form_17 (w : World) : Calls Tryz.prog 30 #[.int .i64 17] w fun e w' => e = .returned (formV 17 true) ∧ Below w.heap.size w w' := by
  have hv : formV 17 true = .tuple #[.agg #[.string ⟨#[108, 97]⟩, .string ⟨#[68, 44, 32, 76]⟩], .bool true] := by kernel_rfl
  rw [hv]; clear hv
  go_enter Tryz.func30, Tryz.ntmps30
  go_wp2_with fail
  exact bodyPost_ret (v := .tuple #[.agg #[.string ⟨#[108, 97]⟩, .string ⟨#[68, 44, 32, 76]⟩], .bool true]) (by simp [results, Tryz.results30, go_sem]) rfl ⟨rfl, by repeat (first | exact Below.refl _ _ | (refine ext_alloc ?_ _) | (refine ext_drew ?_) | (refine ext_set ?_ (by simp) _))⟩
theorem form_18 (w : World) : Calls Tryz.prog 30 #[.int .i64 18] w fun e w' => e = .returned (formV 18 true) ∧ Below w.heap.size w w' := by
  have hv : formV 18 true = .tuple #[.agg #[.string ⟨#[97, 100, 100, 105]⟩, .string ⟨#[68, 44, 32, 65, 44, 32, 83]⟩], .bool true] := by kernel_rfl
  rw [hv]; clear hv
  go_enter Tryz.func30, Tryz.ntmps30
  go_wp2_with fail
  exact bodyPost_ret (v := .tuple #[.agg #[.string ⟨#[97, 100, 100, 105]⟩, .string ⟨#[68, 44, 32, 65, 44, 32, 83]⟩], .bool true]) (by simp [results, Tryz.results30, go_sem]) rfl ⟨rfl, by repeat (first | exact Below.refl _ _ | (refine ext_alloc ?_ _) | (refine ext_drew ?_) | (refine ext_set ?_ (by simp) _))⟩
theorem form_19 (w : World) : Calls Tryz.prog 30 #[.int .i64 19] w fun e w' => e = .returned (formV 19 true) ∧ Below w.heap.size w w' := by
  have hv : formV 19 true = .tuple #[.agg #[.string ⟨#[108, 100]⟩, .string ⟨#[68, 44, 32, 83, 40, 65, 41]⟩], .bool true] := by kernel_rfl
  rw [hv]; clear hv
  go_enter Tryz.func30, Tryz.ntmps30
  go_wp2_with fail
  exact bodyPost_ret (v := .tuple #[.agg #[.string ⟨#[108, 100]⟩, .string ⟨#[68, 44, 32, 83, 40, 65, 41]⟩], .bool true]) (by simp [results, Tryz.results30, go_sem]) rfl ⟨rfl, by repeat (first | exact Below.refl _ _ | (refine ext_alloc ?_ _) | (refine ext_drew ?_) | (refine ext_set ?_ (by simp) _))⟩
theorem form_20 (w : World) : Calls Tryz.prog 30 #[.int .i64 20] w fun e w' => e = .returned (formV 20 true) ∧ Below w.heap.size w w' := by
  have hv : formV 20 true = .tuple #[.agg #[.string ⟨#[115, 100]⟩, .string ⟨#[66, 44, 32, 83, 40, 65, 41]⟩], .bool true] := by kernel_rfl
  rw [hv]; clear hv
  go_enter Tryz.func30, Tryz.ntmps30
  go_wp2_with fail
  exact bodyPost_ret (v := .tuple #[.agg #[.string ⟨#[115, 100]⟩, .string ⟨#[66, 44, 32, 83, 40, 65, 41]⟩], .bool true]) (by simp [results, Tryz.results30, go_sem]) rfl ⟨rfl, by repeat (first | exact Below.refl _ _ | (refine ext_alloc ?_ _) | (refine ext_drew ?_) | (refine ext_set ?_ (by simp) _))⟩
theorem form_21 (w : World) : Calls Tryz.prog 30 #[.int .i64 21] w fun e w' => e = .returned (formV 21 true) ∧ Below w.heap.size w w' := by
  have hv : formV 21 true = .tuple #[.agg #[.string ⟨#[98, 101, 113]⟩, .string ⟨#[65, 44, 32, 66, 44, 32, 76]⟩], .bool true] := by kernel_rfl
  rw [hv]; clear hv
  go_enter Tryz.func30, Tryz.ntmps30
  go_wp2_with fail
  exact bodyPost_ret (v := .tuple #[.agg #[.string ⟨#[98, 101, 113]⟩, .string ⟨#[65, 44, 32, 66, 44, 32, 76]⟩], .bool true]) (by simp [results, Tryz.results30, go_sem]) rfl ⟨rfl, by repeat (first | exact Below.refl _ _ | (refine ext_alloc ?_ _) | (refine ext_drew ?_) | (refine ext_set ?_ (by simp) _))⟩
theorem form_22 (w : World) : Calls Tryz.prog 30 #[.int .i64 22] w fun e w' => e = .returned (formV 22 true) ∧ Below w.heap.size w w' := by
  have hv : formV 22 true = .tuple #[.agg #[.string ⟨#[98, 110, 101]⟩, .string ⟨#[65, 44, 32, 66, 44, 32, 76]⟩], .bool true] := by kernel_rfl
  rw [hv]; clear hv
  go_enter Tryz.func30, Tryz.ntmps30
  go_wp2_with fail
  exact bodyPost_ret (v := .tuple #[.agg #[.string ⟨#[98, 110, 101]⟩, .string ⟨#[65, 44, 32, 66, 44, 32, 76]⟩], .bool true]) (by simp [results, Tryz.results30, go_sem]) rfl ⟨rfl, by repeat (first | exact Below.refl _ _ | (refine ext_alloc ?_ _) | (refine ext_drew ?_) | (refine ext_set ?_ (by simp) _))⟩
theorem form_23 (w : World) : Calls Tryz.prog 30 #[.int .i64 23] w fun e w' => e = .returned (formV 23 true) ∧ Below w.heap.size w w' := by
  have hv : formV 23 true = .tuple #[.agg #[.string ⟨#[98, 108, 116]⟩, .string ⟨#[65, 44, 32, 66, 44, 32, 76]⟩], .bool true] := by kernel_rfl
  rw [hv]; clear hv
  go_enter Tryz.func30, Tryz.ntmps30
  go_wp2_with fail
  exact bodyPost_ret (v := .tuple #[.agg #[.string ⟨#[98, 108, 116]⟩, .string ⟨#[65, 44, 32, 66, 44, 32, 76]⟩], .bool true]) (by simp [results, Tryz.results30, go_sem]) rfl ⟨rfl, by repeat (first | exact Below.refl _ _ | (refine ext_alloc ?_ _) | (refine ext_drew ?_) | (refine ext_set ?_ (by simp) _))⟩
theorem form_24 (w : World) : Calls Tryz.prog 30 #[.int .i64 24] w fun e w' => e = .returned (formV 24 true) ∧ Below w.heap.size w w' := by
  have hv : formV 24 true = .tuple #[.agg #[.string ⟨#[98, 103, 101]⟩, .string ⟨#[65, 44, 32, 66, 44, 32, 76]⟩], .bool true] := by kernel_rfl
  rw [hv]; clear hv
  go_enter Tryz.func30, Tryz.ntmps30
  go_wp2_with fail
  exact bodyPost_ret (v := .tuple #[.agg #[.string ⟨#[98, 103, 101]⟩, .string ⟨#[65, 44, 32, 66, 44, 32, 76]⟩], .bool true]) (by simp [results, Tryz.results30, go_sem]) rfl ⟨rfl, by repeat (first | exact Below.refl _ _ | (refine ext_alloc ?_ _) | (refine ext_drew ?_) | (refine ext_set ?_ (by simp) _))⟩
theorem form_25 (w : World) : Calls Tryz.prog 30 #[.int .i64 25] w fun e w' => e = .returned (formV 25 true) ∧ Below w.heap.size w w' := by
  have hv : formV 25 true = .tuple #[.agg #[.string ⟨#[106]⟩, .string ⟨#[76]⟩], .bool true] := by kernel_rfl
  rw [hv]; clear hv
  go_enter Tryz.func30, Tryz.ntmps30
  go_wp2_with fail
  exact bodyPost_ret (v := .tuple #[.agg #[.string ⟨#[106]⟩, .string ⟨#[76]⟩], .bool true]) (by simp [results, Tryz.results30, go_sem]) rfl ⟨rfl, by repeat (first | exact Below.refl _ _ | (refine ext_alloc ?_ _) | (refine ext_drew ?_) | (refine ext_set ?_ (by simp) _))⟩
theorem form_26 (w : World) : Calls Tryz.prog 30 #[.int .i64 26] w fun e w' => e = .returned (formV 26 true) ∧ Below w.heap.size w w' := by
  have hv : formV 26 true = .tuple #[.agg #[.string ⟨#[106, 97, 108]⟩, .string ⟨#[76]⟩], .bool true] := by kernel_rfl
  rw [hv]; clear hv
  go_enter Tryz.func30, Tryz.ntmps30
  go_wp2_with fail
  exact bodyPost_ret (v := .tuple #[.agg #[.string ⟨#[106, 97, 108]⟩, .string ⟨#[76]⟩], .bool true]) (by simp [results, Tryz.results30, go_sem]) rfl ⟨rfl, by repeat (first | exact Below.refl _ _ | (refine ext_alloc ?_ _) | (refine ext_drew ?_) | (refine ext_set ?_ (by simp) _))⟩
theorem form_27 (w : World) : Calls Tryz.prog 30 #[.int .i64 27] w fun e w' => e = .returned (formV 27 true) ∧ Below w.heap.size w w' := by
  have hv : formV 27 true = .tuple #[.agg #[.string ⟨#[114, 101, 116]⟩, .string ⟨#[]⟩], .bool true] := by kernel_rfl
  rw [hv]; clear hv
  go_enter Tryz.func30, Tryz.ntmps30
  go_wp2_with fail
  exact bodyPost_ret (v := .tuple #[.agg #[.string ⟨#[114, 101, 116]⟩, .string ⟨#[]⟩], .bool true]) (by simp [results, Tryz.results30, go_sem]) rfl ⟨rfl, by repeat (first | exact Below.refl _ _ | (refine ext_alloc ?_ _) | (refine ext_drew ?_) | (refine ext_set ?_ (by simp) _))⟩
theorem form_28 (w : World) : Calls Tryz.prog 30 #[.int .i64 28] w fun e w' => e = .returned (formV 28 true) ∧ Below w.heap.size w w' := by
  have hv : formV 28 true = .tuple #[.agg #[.string ⟨#[101, 99, 97, 108, 108]⟩, .string ⟨#[]⟩], .bool true] := by kernel_rfl
  rw [hv]; clear hv
  go_enter Tryz.func30, Tryz.ntmps30
  go_wp2_with fail
  exact bodyPost_ret (v := .tuple #[.agg #[.string ⟨#[101, 99, 97, 108, 108]⟩, .string ⟨#[]⟩], .bool true]) (by simp [results, Tryz.results30, go_sem]) rfl ⟨rfl, by repeat (first | exact Below.refl _ _ | (refine ext_alloc ?_ _) | (refine ext_drew ?_) | (refine ext_set ?_ (by simp) _))⟩
theorem form_no (op : Int) (w : World) (h : isOp op = false) : Calls Tryz.prog 30 #[.int .i64 op] w fun e w' => e = .returned (formV op false) ∧ Below w.heap.size w w' := by
  have hv : formV op false = .tuple #[.agg #[.string ⟨#[]⟩, .string ⟨#[]⟩], .bool false] := by unfold formV nmL hasL; rw [h]; rfl
  rw [hv]; clear hv
  have h' := of_decide_eq_false h
  have hc : op < 1 ∨ 28 < op := by omega
  clear h h'
  rcases hc with hc | hc
  all_goals
    go_enter Tryz.func30, Tryz.ntmps30
    go_wp2_with fail
    exact bodyPost_ret (v := .tuple #[.agg #[.string ⟨#[]⟩, .string ⟨#[]⟩], .bool false]) (by simp [results, Tryz.results30, go_sem]) rfl ⟨rfl, by repeat (first | exact Below.refl _ _ | (refine ext_alloc ?_ _) | (refine ext_drew ?_) | (refine ext_set ?_ (by simp) _))⟩
theorem form_any (op : Int) (w : World) : Calls Tryz.prog 30 #[.int .i64 op] w fun e w' => e = .returned (formV op (isOp op)) ∧ Below w.heap.size w w' := by
  cases h : isOp op
  · exact form_no op w h
  · obtain ⟨k, rfl⟩ := op_nat h
    obtain ⟨k, hk⟩ := k
    match k, hk with
    | 0, _ => exact form_1 w
    | 1, _ => exact form_2 w
    | 2, _ => exact form_3 w
    | 3, _ => exact form_4 w
    | 4, _ => exact form_5 w
    | 5, _ => exact form_6 w
    | 6, _ => exact form_7 w
    | 7, _ => exact form_8 w
    | 8, _ => exact form_9 w
    | 9, _ => exact form_10 w
    | 10, _ => exact form_11 w
    | 11, _ => exact form_12 w
    | 12, _ => exact form_13 w
    | 13, _ => exact form_14 w
    | 14, _ => exact form_15 w
    | 15, _ => exact form_16 w
    | 16, _ => exact form_17 w
    | 17, _ => exact form_18 w
    | 18, _ => exact form_19 w
    | 19, _ => exact form_20 w
    | 20, _ => exact form_21 w
    | 21, _ => exact form_22 w
    | 22, _ => exact form_23 w
    | 23, _ => exact form_24 w
    | 24, _ => exact form_25 w
    | 25, _ => exact form_26 w
    | 26, _ => exact form_27 w
    | 27, _ => exact form_28 w
    | k + 28, hk => exact absurd hk (by omega)
end Go.Proofs.YtlaihjefmhcmcaaGreatDoor
