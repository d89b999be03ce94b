/- The walk of the law 'counterproof/counterprooflaw01.ArithShifts': the call answers true and leaves what was there as it was. -/
import Derived.Test.YtchapkjpagoceaaRows
import Derived.WalkKit
import Derived.ProofKit
import Derived.OpenShut
import Derived.ShutString
import Derived.Handy
import Derived.Lib.Hide
import Derived.Test.YtchapkjpagoceaaArE
namespace Go.Proofs.Ytchapkjpagoceaa.arithShifts
open Go.ChangeShapes Go.WideShapes Go.ChangeAt Go.RowKit
open Go.ChangeMaps (open_string shut_string)
set_option linter.unusedVariables false      -- a walk need not use every 'w<i>' (that an integer argument fits its kind)
theorem wrap_cong (x y k : Int) (h : x = y + 18446744073709551616 * k) : wrap64 x = wrap64 y := by unfold wrap64; omega
theorem wrap_is (x : Int) : ∃ k : Int, wrap64 x = x + 18446744073709551616 * k := by
  unfold wrap64; exact ⟨-((x + 9223372036854775808) / 18446744073709551616), by omega⟩
theorem sh_of (m : Int) (h1 : 0 ≤ m) (h2 : m < 64) : sh m = m.toNat := by unfold sh; omega
theorem up_up (a : Int) (m n : Nat) : wrap64 (wrap64 (a * 2 ^ m) * 2 ^ n) = wrap64 (a * 2 ^ (m + n)) := by
  obtain ⟨k, hk⟩ := wrap_is (a * 2 ^ m)
  rw [hk]
  refine wrap_cong _ _ (k * 2 ^ n) ?_
  rw [Int.add_mul, Int.pow_add, Int.mul_assoc, Int.mul_assoc]
theorem down_down (a : Int) (m n : Nat) : a / 2 ^ m / 2 ^ n = a / 2 ^ (m + n) := by
  have h : ¬ ((2 : Int) ^ m < 0) := Int.not_lt.2 (Int.le_of_lt (Int.pow_pos (by omega)))
  rw [Int.pow_add, Int.ediv_ediv, if_neg (fun k => h k.1), Int.sub_zero]
theorem pow_bd (m : Nat) (h : m < 32) : 1 ≤ (2 : Int) ^ m ∧ (2 : Int) ^ m ≤ 2147483648 := by
  have h1 : 2 ^ m ≤ 2 ^ 31 := Nat.pow_le_pow_right (by omega) (by omega)
  have h2 : 0 < 2 ^ m := Nat.pow_pos (by omega)
  have h3 : ((2 ^ m : Nat) : Int) = (2 : Int) ^ m := by rw [Int.natCast_pow]; rfl
  omega
theorem rest_is (a P : Int) (h1 : 1 ≤ P) (h2 : P ≤ 2147483648) (h3 : -9223372036854775808 ≤ a) (h4 : a ≤ 9223372036854775807) :
    wrap64 (a - wrap64 (a / P * wrap64 P)) = a % P := by
  have e : wrap64 P = P := by unfold wrap64; omega
  have d := Int.mul_ediv_add_emod a P
  have l := Int.emod_nonneg a (show P ≠ 0 by omega)
  have u := Int.emod_lt_of_pos a (show 0 < P by omega)
  rw [e, Int.mul_comm]
  generalize P * (a / P) = x at *
  generalize a % P = r at *
  unfold wrap64; omega

theorem walk (a0 : Int) (a1 : Int) (a2 : Int) (w0 : (Lit.int .i64 a0).wf = true) (w1 : (Lit.int .i64 a1).wf = true) (w2 : (Lit.int .i64 a2).wf = true) (w : World) :
    Calls Try.prog 8 #[.int .i64 a0, .int .i64 a1, .int .i64 a2] w fun e w' => e = .returned (.bool true) ∧ Below w.heap.size w w' := by
  have b0 := bounds_i64 w0
  have b1 := bounds_i64 w1
  have b2 := bounds_i64 w2
  have p1 := pickN_lo a1 32 (by omega)
  have p2 := pickN_hi a1 32 (by omega)
  have p3 := pickN_lo a2 32 (by omega)
  have p4 := pickN_hi a2 32 (by omega)
  have hp := Lib.hid (fun w => pick_any a1 32 w b1.1 b1.2 (by omega))
  have hq := Lib.hid (fun w => pick_any a2 32 w b2.1 b2.2 (by omega))
  generalize pickN a1 32 = p at *
  generalize pickN a2 32 = q at *
  obtain ⟨m, rfl⟩ := Int.eq_ofNat_of_zero_le p1
  obtain ⟨n, rfl⟩ := Int.eq_ofNat_of_zero_le p3
  have s1 := sh_of (m : Int) (by omega) (by omega)
  have s2 := sh_of (n : Int) (by omega) (by omega)
  have s3 := sh_of ((m : Int) + (n : Int)) (by omega) (by omega)
  rw [show ((m : Int) + (n : Int)).toNat = m + n by omega] at s3
  rw [Int.toNat_natCast] at s1 s2
  have hm : m < 32 := by omega
  have hP := pow_bd m hm
  have hr := rest_is a0 (2 ^ m) hP.1 hP.2 b0.1 b0.2
  have l := Int.emod_nonneg a0 (show (2 : Int) ^ m ≠ 0 by omega)
  have u := Int.emod_lt_of_pos a0 (show 0 < (2 : Int) ^ m by omega)
  have ew : wrap64 (2 ^ m) = 2 ^ m := by unfold wrap64; omega
  have e1 : (wrap64 (wrap64 (a0 * 2 ^ m) * 2 ^ n) == wrap64 (a0 * 2 ^ (m + n))) = true := by rw [beq_iff_eq]; exact up_up a0 m n
  have e2 : (a0 / 2 ^ m / 2 ^ n == a0 / 2 ^ (m + n)) = true := by rw [beq_iff_eq]; exact down_down a0 m n
  have e3 : (wrap64 (a0 * 2 ^ m) == wrap64 (a0 * wrap64 (2 ^ m))) = true := by rw [beq_iff_eq, ew]
  have e4 : decide (0 ≤ wrap64 (a0 - wrap64 (a0 / 2 ^ m * wrap64 (2 ^ m)))) = true := by rw [hr, decide_eq_true_iff]; exact l
  have e5 : decide (wrap64 (a0 - wrap64 (a0 / 2 ^ m * wrap64 (2 ^ m))) < wrap64 (2 ^ m)) = true := by rw [hr, ew, decide_eq_true_iff]; exact u
  clear b0 b1 b2 w1 w2 hr l u ew hP w0
  go_enter Try.func8, Try.ntmps8
  go_wp2_with fail
  refine (awake_any _).mono ?_; rintro e w1 ⟨rfl, g1⟩
  go_wp2_with fail
  refine (hp.out _).mono ?_; rintro e w' ⟨rfl, rfl⟩
  go_wp2_with fail
  refine (hq.out _).mono ?_; rintro e w' ⟨rfl, rfl⟩
  go_wp2_with fail
  refine (two_9 _ _ _).mono ?_; rintro e w2 ⟨rfl, g2⟩
  rw [s1]
  go_wp2_with fail
  refine (two_9 _ _ _).mono ?_; rintro e w3 ⟨rfl, g3⟩
  rw [s2]
  go_wp2_with fail
  refine (two_9 _ _ _).mono ?_; rintro e w4 ⟨rfl, g4⟩
  rw [s3]
  go_wp2_with fail
  refine (two_10 _ _ _).mono ?_; rintro e w5 ⟨rfl, g5⟩
  rw [s1]
  go_wp2_with fail
  refine (two_10 _ _ _).mono ?_; rintro e w6 ⟨rfl, g6⟩
  rw [s2]
  go_wp2_with fail
  refine (two_10 _ _ _).mono ?_; rintro e w7 ⟨rfl, g7⟩
  rw [s3]
  go_wp2_with fail
  refine (two_3 _ _ _).mono ?_; rintro e w8 ⟨rfl, g8⟩
  go_wp2_with fail
  go_ret
  exact ⟨rfl, ext_trans (ext_trans (ext_trans (ext_trans (ext_trans (ext_trans (ext_trans g1 g2) g3) g4) g5) g6) g7) g8⟩


end Go.Proofs.Ytchapkjpagoceaa.arithShifts
