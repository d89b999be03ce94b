/- The walk of the law 'counterproof/counterprooflaw01.ArithSums': the call answers true and leaves what was there as it was. -/
import Derived.Test.YtchapkjpagoceaaRows
import Derived.WalkKit
import Derived.ProofKit
import Derived.OpenShut
import Derived.ShutString
import Derived.Handy
import Derived.Lib.Hide
import Derived.Test.YtchapkjpagoceaaArE
namespace Go.Proofs.Ytchapkjpagoceaa.arithSums
open Go.ChangeShapes Go.WideShapes Go.ChangeAt Go.RowKit
open Go.ChangeMaps (open_string shut_string)
set_option linter.unusedVariables false      -- a walk need not use every 'w<i>' (that an integer argument fits its kind)
theorem wrap_cong (x y k : Int) (h : x = y + 18446744073709551616 * k) : wrap64 x = wrap64 y := by unfold wrap64; omega
theorem wrap_is (x : Int) : ∃ k : Int, wrap64 x = x + 18446744073709551616 * k := by
  unfold wrap64; exact ⟨-((x + 9223372036854775808) / 18446744073709551616), by omega⟩
theorem sums_mul (a b c : Int) : wrap64 (wrap64 (a + b) * c) = wrap64 (wrap64 (a * c) + wrap64 (c * b)) := by
  obtain ⟨k, hk⟩ := wrap_is (a + b)
  obtain ⟨l, hl⟩ := wrap_is (a * c)
  obtain ⟨m, hm⟩ := wrap_is (c * b)
  rw [hk, hl, hm]
  refine wrap_cong _ _ (k * c - l - m) ?_
  rw [Int.add_mul, Int.add_mul, Int.mul_assoc, Int.mul_comm c b, Int.mul_sub, Int.mul_sub]
  omega

theorem walk (a0 : Int) (a1 : Int) (a2 : Int) (w0 : (Lit.int .i64 a0).wf = true) (w1 : (Lit.int .i64 a1).wf = true) (w2 : (Lit.int .i64 a2).wf = true) (w : World) :
    Calls Try.prog 9 #[.int .i64 a0, .int .i64 a1, .int .i64 a2] w fun e w' => e = .returned (.bool true) ∧ Below w.heap.size w w' := by
  have b0 := bounds_i64 w0
  have b1 := bounds_i64 w1
  have e1 : wrap64 (wrap64 (a0 + a1) - a1) = a0 := by unfold wrap64; omega
  have e2 : (wrap64 (a0 + a1) == wrap64 (a1 + a0)) = true := by rw [beq_iff_eq, Int.add_comm]
  have e3 : (wrap64 (wrap64 (a0 + a1) * a2) == wrap64 (wrap64 (a0 * a2) + wrap64 (a2 * a1))) = true := by rw [beq_iff_eq]; exact sums_mul a0 a1 a2
  have e4 : (wrap64 (a0 - a1) == wrap64 (a0 + wrap64 (-a1))) = true := by rw [beq_iff_eq]; unfold wrap64; omega
  clear w0 w1 w2 b0 b1
  go_enter Try.func9, Try.ntmps9
  go_wp2_with fail
  refine (awake_any _).mono ?_; rintro e w1 ⟨rfl, g1⟩
  go_wp2_with fail
  refine (two_1 _ _ _).mono ?_; rintro e w2 ⟨rfl, g2⟩
  go_wp2_with fail
  refine (two_1 _ _ _).mono ?_; rintro e w3 ⟨rfl, g3⟩
  go_wp2_with fail
  refine (two_2 _ _ _).mono ?_; rintro e w4 ⟨rfl, g4⟩
  go_wp2_with fail
  refine (two_3 _ _ _).mono ?_; rintro e w5 ⟨rfl, g5⟩
  go_wp2_with fail
  refine (two_3 _ _ _).mono ?_; rintro e w6 ⟨rfl, g6⟩
  go_wp2_with fail
  refine (two_3 _ _ _).mono ?_; rintro e w7 ⟨rfl, g7⟩
  go_wp2_with fail
  refine (one_17 _ _).mono ?_; rintro e w8 ⟨rfl, g8⟩
  go_wp2_with fail
  refine (two_2 _ _ _).mono ?_; rintro e w9 ⟨rfl, g9⟩
  go_wp2_with fail
  refine (two_1 _ _ _).mono ?_; rintro e w10 ⟨rfl, g10⟩
  go_wp2_with fail
  go_ret
  exact ⟨rfl, ext_trans (ext_trans (ext_trans (ext_trans (ext_trans (ext_trans (ext_trans (ext_trans (ext_trans g1 g2) g3) g4) g5) g6) g7) g8) g9) g10⟩


end Go.Proofs.Ytchapkjpagoceaa.arithSums
