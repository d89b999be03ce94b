/- The walk of the law 'counterproof/counterprooflaw01.ArithUnsigned': the call answers true and leaves what was there as it was. -/
import Derived.Test.YtchapkjpagoceaaRows
import Derived.WalkKit
import Derived.ProofKit
import Derived.OpenShut
import Derived.ShutString
import Derived.Handy
import Derived.Lib.Hide
import Derived.Test.YtchapkjpagoceaaArE
namespace Go.Proofs.Ytchapkjpagoceaa.arithUnsigned
open Go.ChangeShapes Go.WideShapes Go.ChangeAt Go.RowKit
open Go.ChangeMaps (open_string shut_string)
set_option linter.unusedVariables false      -- a walk need not use every 'w<i>' (that an integer argument fits its kind)
theorem less_iff (a b : Int) (h1 : -9223372036854775808 ≤ a ∧ a ≤ 9223372036854775807) (h2 : -9223372036854775808 ≤ b ∧ b ≤ 9223372036854775807) :
    lessV a b = true ↔ ((0 ≤ a ∧ b < 0) ∨ ((a < 0 ↔ b < 0) ∧ a < b)) := by
  unfold lessV; rw [IntKind.wrap_u64, IntKind.wrap_u64, decide_eq_true_iff]; omega

theorem walk (a0 : Int) (a1 : Int) (w0 : (Lit.int .i64 a0).wf = true) (w1 : (Lit.int .i64 a1).wf = true) (w : World) :
    Calls Try.prog 10 #[.int .i64 a0, .int .i64 a1] w fun e w' => e = .returned (.bool true) ∧ Below w.heap.size w w' := by
  have b0 := bounds_i64 w0
  have b1 := bounds_i64 w1
  have x1 : lessV a0 a1 = decide ((0 ≤ a0 ∧ a1 < 0) ∨ ((a0 < 0 ↔ a1 < 0) ∧ a0 < a1)) := by rw [Bool.eq_iff_iff, decide_eq_true_iff]; exact less_iff a0 a1 b0 b1
  have x2 : lessV a1 a0 = decide ((0 ≤ a1 ∧ a0 < 0) ∨ ((a1 < 0 ↔ a0 < 0) ∧ a1 < a0)) := by rw [Bool.eq_iff_iff, decide_eq_true_iff]; exact less_iff a1 a0 b1 b0
  clear b0 b1 w0 w1
  rcases Int.lt_trichotomy a0 a1 with hd | hd | hd
  case inr.inl =>
    subst hd
    have e1 : lessV a0 a0 = false := by rw [x1, decide_eq_false_iff_not]; omega
    clear x1 x2
    by_cases ha : a0 < 0
    all_goals
      go_enter Try.func10, Try.ntmps10
      go_wp2_with (first | (go_at_call 13; refine (awake_any _).mono ?_; rintro e w' ⟨rfl, g⟩) | (go_at_call 21; refine (less_any _ _ _).mono ?_; rintro e w' ⟨rfl, rfl⟩))
      go_ret
      exact ⟨rfl, g⟩
  all_goals
    have hne : (a0 == a1) = false := by rw [beq_eq_false_iff_ne]; omega
    by_cases ha : a0 < 0
    all_goals by_cases hb : a1 < 0
    all_goals first | (exfalso; omega) | (
      obtain ⟨e1, e2⟩ | ⟨e1, e2⟩ : (lessV a0 a1 = true ∧ lessV a1 a0 = false) ∨ (lessV a0 a1 = false ∧ lessV a1 a0 = true) := by
        rw [x1, x2, decide_eq_true_iff, decide_eq_true_iff, decide_eq_false_iff_not, decide_eq_false_iff_not]; omega
      all_goals
        have x3 := x1.symm.trans e1
        simp only [decide_eq_true_iff, decide_eq_false_iff_not] at x3
        first | (exfalso; omega) | (
        have da : decide (a0 < 0) = true ∨ decide (a0 < 0) = false := by cases decide (a0 < 0) <;> simp
        have db : decide (a1 < 0) = true ∨ decide (a1 < 0) = false := by cases decide (a1 < 0) <;> simp
        have dc : decide (a0 < a1) = true ∨ decide (a0 < a1) = false := by cases decide (a0 < a1) <;> simp
        clear x1 x2 x3
        rcases da with da | da
        all_goals rcases db with db | db
        all_goals rcases dc with dc | dc
        all_goals have da' := da; have db' := db; have dc' := dc
        all_goals simp only [decide_eq_true_iff, decide_eq_false_iff_not] at da' db' dc'
        all_goals first | (exfalso; omega) | (
        clear da' db' dc'
        go_enter Try.func10, Try.ntmps10
        go_wp2_with (first | (go_at_call 13; refine (awake_any _).mono ?_; rintro e w' ⟨rfl, g⟩) | (go_at_call 21; refine (less_any _ _ _).mono ?_; rintro e w' ⟨rfl, rfl⟩))
        go_ret
        exact ⟨rfl, g⟩)))


end Go.Proofs.Ytchapkjpagoceaa.arithUnsigned
