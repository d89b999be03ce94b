/- The walk of the law 'counterproof/counterprooflaw01.ArithBits': the call answers true and leaves what was there as it was. -/
import Derived.Test.YtchapkjpagoceaaRows
import Derived.WalkKit
import Derived.ProofKit
import Derived.OpenShut
import Derived.ShutString
import Derived.Handy
import Derived.Lib.Hide
import Derived.Test.YtchapkjpagoceaaArE
namespace Go.Proofs.Ytchapkjpagoceaa.arithBits
open Go.ChangeShapes Go.WideShapes Go.ChangeAt Go.RowKit
open Go.ChangeMaps (open_string shut_string)
set_option linter.unusedVariables false      -- a walk need not use every 'w<i>' (that an integer argument fits its kind)
theorem or_step (x y : Nat) : x ||| y = 2 * (x / 2 ||| y / 2) + (x % 2 ||| y % 2) := by
  have h := Nat.div_add_mod (x ||| y) 2
  rw [Nat.or_div_two, show (x ||| y) % 2 = x % 2 ||| y % 2 from Nat.or_mod_two_pow (n := 1)] at h
  exact h.symm
theorem and_step (x y : Nat) : x &&& y = 2 * (x / 2 &&& y / 2) + (x % 2 &&& y % 2) := by
  have h := Nat.div_add_mod (x &&& y) 2
  rw [Nat.and_div_two, show (x &&& y) % 2 = x % 2 &&& y % 2 from Nat.and_mod_two_pow (n := 1)] at h
  exact h.symm
theorem xor_step (x y : Nat) : x ^^^ y = 2 * (x / 2 ^^^ y / 2) + (x % 2 ^^^ y % 2) := by
  have h := Nat.div_add_mod (x ^^^ y) 2
  rw [Nat.xor_div_two, show (x ^^^ y) % 2 = x % 2 ^^^ y % 2 from Nat.xor_mod_two_pow (n := 1)] at h
  exact h.symm
theorem nat_bits : ∀ n x y : Nat, x < 2 ^ n → y < 2 ^ n → (x ||| y) + (x &&& y) = x + y ∧ (x ^^^ y) + (x &&& y) = x ||| y
  | 0, x, y, hx, hy => by
    obtain rfl : x = 0 := by omega
    obtain rfl : y = 0 := by omega
    decide
  | n + 1, x, y, hx, hy => by
    have ih := nat_bits n (x / 2) (y / 2) (by rw [Nat.pow_succ] at hx; omega) (by rw [Nat.pow_succ] at hy; omega)
    have h1 := or_step x y
    have h2 := and_step x y
    have h3 := xor_step x y
    have dx := Nat.div_add_mod x 2
    have dy := Nat.div_add_mod y 2
    rcases Nat.mod_two_eq_zero_or_one x with hx2 | hx2
    all_goals rcases Nat.mod_two_eq_zero_or_one y with hy2 | hy2
    all_goals rw [hx2, hy2] at h1 h2 h3
    all_goals simp at h1 h2 h3
    all_goals omega
theorem wrap_cong (x y k : Int) (h : x = y + 18446744073709551616 * k) : wrap64 x = wrap64 y := by unfold wrap64; omega
theorem low (a : Int) : (BitVec.ofInt 64 a).toNat < 2 ^ 64 := (BitVec.ofInt 64 a).isLt
theorem low_is (a : Int) : ((BitVec.ofInt 64 a).toNat : Int) = a % 18446744073709551616 := by
  rw [BitVec.toNat_ofInt]; omega
theorem or_is (a b : Int) : bits .or .i64 a b = wrap64 (((BitVec.ofInt 64 a).toNat ||| (BitVec.ofInt 64 b).toNat : Nat) : Int) := by
  rw [← IntWalk.i64_left, ← BitVec.toNat_or]; rfl
theorem and_is (a b : Int) : bits .and .i64 a b = wrap64 (((BitVec.ofInt 64 a).toNat &&& (BitVec.ofInt 64 b).toNat : Nat) : Int) := by
  rw [← IntWalk.i64_left, ← BitVec.toNat_and]; rfl
theorem xor_is (a b : Int) : bits .xor .i64 a b = wrap64 (((BitVec.ofInt 64 a).toNat ^^^ (BitVec.ofInt 64 b).toNat : Nat) : Int) := by
  rw [← IntWalk.i64_left, ← BitVec.toNat_xor]; rfl
theorem or_sum (a b : Int) : bits .or .i64 a b = wrap64 (bits .xor .i64 a b + bits .and .i64 a b) := by
  have h := (nat_bits 64 _ _ (low a) (low b)).2
  rw [or_is, xor_is, and_is, ← h]
  generalize (BitVec.ofInt 64 a).toNat ^^^ (BitVec.ofInt 64 b).toNat = x
  generalize (BitVec.ofInt 64 a).toNat &&& (BitVec.ofInt 64 b).toNat = y
  unfold wrap64; omega
theorem wrap_sum (x y : Int) : wrap64 (wrap64 x + wrap64 y) = wrap64 (x + y) := by unfold wrap64; omega
theorem wrap_mod (x y : Int) : wrap64 (x % 18446744073709551616 + y % 18446744073709551616) = wrap64 (x + y) := by unfold wrap64; omega
theorem add_sum (a b : Int) : wrap64 (a + b) = wrap64 (bits .or .i64 a b + bits .and .i64 a b) := by
  have h := (nat_bits 64 _ _ (low a) (low b)).1
  rw [or_is, and_is, wrap_sum, ← Int.natCast_add, h, Int.natCast_add, low_is, low_is, wrap_mod]
theorem inv_lin (a : Int) (h1 : -9223372036854775808 ≤ a) (h2 : a ≤ 9223372036854775807) : bits .xor .i64 (-1) a = -1 - a := by
  have h : (BitVec.ofInt 64 (-1) ^^^ BitVec.ofInt 64 a) = BitVec.ofInt 64 (-1 - a) := by
    have e : BitVec.ofInt 64 (-1) = BitVec.allOnes 64 := by decide
    rw [e, BitVec.allOnes_xor, BitVec.not_eq_neg_add, ← BitVec.ofInt_neg, show (-1 - a) = -a + (-1) by omega, BitVec.ofInt_add, e, ← BitVec.neg_one_eq_allOnes, BitVec.sub_eq_add_neg]
  show IntKind.i64.wrap ((BitVec.ofInt 64 (-1) ^^^ BitVec.ofInt 64 a).toNat : Nat) = -1 - a
  rw [h, BitVec.toNat_ofInt, IntKind.wrap_i64]
  omega
theorem far_is (q : Int) (N : Nat) (h1 : 0 ≤ q) (h2 : q < 1048576) (h3 : N ≤ 42) : wrap64 (q * 2 ^ N) = q * 2 ^ N ∧ q * 2 ^ N / 2 ^ N = q ∧ wrap64 (q * wrap64 (2 ^ N)) = q * 2 ^ N := by
  have k1 : 2 ^ N ≤ 2 ^ 42 := Nat.pow_le_pow_right (by omega) h3
  have k2 : 0 < 2 ^ N := Nat.pow_pos (by omega)
  have k3 : ((2 ^ N : Nat) : Int) = (2 : Int) ^ N := by rw [Int.natCast_pow]; rfl
  have l : 0 < (2 : Int) ^ N := by omega
  have u : (2 : Int) ^ N ≤ 4398046511104 := by omega
  generalize (2 : Int) ^ N = P at *
  have m1 : 0 ≤ q * P := Int.mul_nonneg h1 (by omega)
  have m2 : q * P ≤ 1048576 * 4398046511104 := Int.mul_le_mul (by omega) u (by omega) (by omega)
  have e : wrap64 P = P := by unfold wrap64; omega
  rw [e]
  exact ⟨by unfold wrap64; omega, Int.mul_ediv_cancel q (by omega), by unfold wrap64; omega⟩

set_option maxHeartbeats 2000000 in
set_option maxRecDepth 100000 in
theorem walk (a0 : Int) (a1 : Int) (a2 : Int) (w0 : (Lit.int .i64 a0).wf = true) (w1 : (Lit.int .i64 a1).wf = true) (w2 : (Lit.int .i64 a2).wf = true) (w : World) :
    Calls Try.prog 6 #[.int .i64 a0, .int .i64 a1, .int .i64 a2] w fun e w' => e = .returned (.bool true) ∧ Below w.heap.size w w' := by
  have b0 := bounds_i64 w0
  have b1 := bounds_i64 w1
  have b2 := bounds_i64 w2
  have p1 := pickN_lo a2 64 (by omega)
  have p2 := pickN_hi a2 64 (by omega)
  have p3 := pickN_lo a0 1048576 (by omega)
  have p4 := pickN_hi a0 1048576 (by omega)
  have hp := Lib.hid (fun w => pick_any a2 64 w b2.1 b2.2 (by omega))
  have hq := Lib.hid (fun w => pick_any a0 1048576 w b0.1 b0.2 (by omega))
  generalize pickN a2 64 = p at *
  generalize pickN a0 1048576 = q at *
  obtain ⟨n, rfl⟩ := Int.eq_ofNat_of_zero_le p1
  have s1 : sh (n : Int) = n := by unfold sh; omega
  have s2 : sh ((n : Int) + 64) = n := by unfold sh; omega
  have e1 : (bits .or .i64 a0 a1 == wrap64 (bits .xor .i64 a0 a1 + bits .and .i64 a0 a1)) = true := by rw [beq_iff_eq]; exact or_sum a0 a1
  have e2 : (wrap64 (a0 + a1) == wrap64 (bits .or .i64 a0 a1 + bits .and .i64 a0 a1)) = true := by rw [beq_iff_eq]; exact add_sum a0 a1
  have e3 : (bits .xor .i64 (-1) a0 == wrap64 (wrap64 (-a0) - 1)) = true := by rw [beq_iff_eq, inv_lin a0 b0.1 b0.2]; unfold wrap64; omega
  have e0 : n = 0 → (wrap64 (a0 * 2 ^ n) / 2 ^ n == a0) = true := fun h => by
    subst h; rw [beq_iff_eq, Int.pow_zero, Int.mul_one, Int.ediv_one]; unfold wrap64; omega
  clear b0 b1 b2 w0 w1 w2
  rcases (show n = 0 ∨ (0 < n ∧ n ≤ 42) ∨ 42 < n by omega) with hn | ⟨hn1, hn2⟩ | hn
  · have f0 := e0 hn
    clear e0
    obtain ⟨d1, d2, d3⟩ := far_is q n p3 p4 (by omega)
    have d2' : (wrap64 (q * 2 ^ n) / 2 ^ n == q) = true := by rw [beq_iff_eq, d1, d2]
    have d3' : (wrap64 (q * 2 ^ n) == wrap64 (q * wrap64 (2 ^ n))) = true := by rw [beq_iff_eq, d1, d3]
    clear d1 d2 d3
    have hn' : n ≤ 0 := by omega
    clear hn
    go_enter Try.func6, Try.ntmps6
    go_wp2_with fail
    refine (awake_any _).mono ?_; rintro e w1 ⟨rfl, g1⟩
    go_wp2_with fail
    refine (hp.out _).mono ?_; rintro e w' ⟨rfl, rfl⟩
    go_wp2_with fail
    refine (two_7 _ _ _).mono ?_; rintro e w2 ⟨rfl, g2⟩
    go_wp2_with fail
    refine (two_8 _ _ _).mono ?_; rintro e w3 ⟨rfl, g3⟩
    go_wp2_with fail
    refine (two_6 _ _ _).mono ?_; rintro e w4 ⟨rfl, g4⟩
    go_wp2_with fail
    refine (two_1 _ _ _).mono ?_; rintro e w5 ⟨rfl, g5⟩
    go_wp2_with fail
    refine (one_19 _ _).mono ?_; rintro e w6 ⟨rfl, g6⟩
    go_wp2_with fail
    refine (one_17 _ _).mono ?_; rintro e w7 ⟨rfl, g7⟩
    go_wp2_with fail
    refine (two_9 _ _ _).mono ?_; rintro e w8 ⟨rfl, g8⟩
    rw [s1]
    go_wp2_with fail
    refine (two_9 _ _ _).mono ?_; rintro e w9 ⟨rfl, g9⟩
    rw [s2]
    go_wp2_with fail
    refine (two_10 _ _ _).mono ?_; rintro e w10 ⟨rfl, g10⟩
    rw [s1]
    go_wp2_with fail
    refine (hq.out _).mono ?_; rintro e w' ⟨rfl, rfl⟩
    go_wp2_with fail
    refine (two_9 _ _ _).mono ?_; rintro e w11 ⟨rfl, g11⟩
    rw [s1]
    go_wp2_with fail
    refine (two_10 _ _ _).mono ?_; rintro e w12 ⟨rfl, g12⟩
    rw [s1]
    go_wp2_with fail
    go_ret
    exact ⟨rfl, ext_trans (ext_trans (ext_trans (ext_trans (ext_trans (ext_trans (ext_trans (ext_trans (ext_trans (ext_trans (ext_trans g1 g2) g3) g4) g5) g6) g7) g8) g9) g10) g11) g12⟩
  · clear e0
    obtain ⟨d1, d2, d3⟩ := far_is q n p3 p4 (by omega)
    have d2' : (wrap64 (q * 2 ^ n) / 2 ^ n == q) = true := by rw [beq_iff_eq, d1, d2]
    have d3' : (wrap64 (q * 2 ^ n) == wrap64 (q * wrap64 (2 ^ n))) = true := by rw [beq_iff_eq, d1, d3]
    clear d1 d2 d3
    cases hx : (wrap64 (a0 * 2 ^ n) / 2 ^ n == a0)
    all_goals
      go_enter Try.func6, Try.ntmps6
      go_wp2_with fail
      refine (awake_any _).mono ?_; rintro e w1 ⟨rfl, g1⟩
      go_wp2_with fail
      refine (hp.out _).mono ?_; rintro e w' ⟨rfl, rfl⟩
      go_wp2_with fail
      refine (two_7 _ _ _).mono ?_; rintro e w2 ⟨rfl, g2⟩
      go_wp2_with fail
      refine (two_8 _ _ _).mono ?_; rintro e w3 ⟨rfl, g3⟩
      go_wp2_with fail
      refine (two_6 _ _ _).mono ?_; rintro e w4 ⟨rfl, g4⟩
      go_wp2_with fail
      refine (two_1 _ _ _).mono ?_; rintro e w5 ⟨rfl, g5⟩
      go_wp2_with fail
      refine (one_19 _ _).mono ?_; rintro e w6 ⟨rfl, g6⟩
      go_wp2_with fail
      refine (one_17 _ _).mono ?_; rintro e w7 ⟨rfl, g7⟩
      go_wp2_with fail
      refine (two_9 _ _ _).mono ?_; rintro e w8 ⟨rfl, g8⟩
      rw [s1]
      go_wp2_with fail
      refine (two_9 _ _ _).mono ?_; rintro e w9 ⟨rfl, g9⟩
      rw [s2]
      go_wp2_with fail
      refine (two_10 _ _ _).mono ?_; rintro e w10 ⟨rfl, g10⟩
      rw [s1]
      go_wp2_with fail
      refine (hq.out _).mono ?_; rintro e w' ⟨rfl, rfl⟩
      go_wp2_with fail
      refine (two_9 _ _ _).mono ?_; rintro e w11 ⟨rfl, g11⟩
      rw [s1]
      go_wp2_with fail
      refine (two_10 _ _ _).mono ?_; rintro e w12 ⟨rfl, g12⟩
      rw [s1]
      go_wp2_with fail
      go_ret
      exact ⟨rfl, ext_trans (ext_trans (ext_trans (ext_trans (ext_trans (ext_trans (ext_trans (ext_trans (ext_trans (ext_trans (ext_trans g1 g2) g3) g4) g5) g6) g7) g8) g9) g10) g11) g12⟩
  · clear e0
    obtain ⟨d1, d2, d3⟩ := far_is q 42 p3 p4 (by omega)
    have d2' : (wrap64 (q * 4398046511104) / 4398046511104 == q) = true := by rw [beq_iff_eq]; exact (congrArg (· / 2 ^ 42) d1).trans d2
    have d3' : (wrap64 (q * 4398046511104) == q * 4398046511104) = true := by rw [beq_iff_eq]; exact d1
    clear d1 d2 d3
    have s42 : sh 42 = 42 := rfl
    cases hx : (wrap64 (a0 * 2 ^ n) / 2 ^ n == a0)
    all_goals
      go_enter Try.func6, Try.ntmps6
      go_wp2_with fail
      refine (awake_any _).mono ?_; rintro e w1 ⟨rfl, g1⟩
      go_wp2_with fail
      refine (hp.out _).mono ?_; rintro e w' ⟨rfl, rfl⟩
      go_wp2_with fail
      refine (two_7 _ _ _).mono ?_; rintro e w2 ⟨rfl, g2⟩
      go_wp2_with fail
      refine (two_8 _ _ _).mono ?_; rintro e w3 ⟨rfl, g3⟩
      go_wp2_with fail
      refine (two_6 _ _ _).mono ?_; rintro e w4 ⟨rfl, g4⟩
      go_wp2_with fail
      refine (two_1 _ _ _).mono ?_; rintro e w5 ⟨rfl, g5⟩
      go_wp2_with fail
      refine (one_19 _ _).mono ?_; rintro e w6 ⟨rfl, g6⟩
      go_wp2_with fail
      refine (one_17 _ _).mono ?_; rintro e w7 ⟨rfl, g7⟩
      go_wp2_with fail
      refine (two_9 _ _ _).mono ?_; rintro e w8 ⟨rfl, g8⟩
      rw [s1]
      go_wp2_with fail
      refine (two_9 _ _ _).mono ?_; rintro e w9 ⟨rfl, g9⟩
      rw [s2]
      go_wp2_with fail
      refine (two_10 _ _ _).mono ?_; rintro e w10 ⟨rfl, g10⟩
      rw [s1]
      go_wp2_with fail
      refine (hq.out _).mono ?_; rintro e w' ⟨rfl, rfl⟩
      go_wp2_with fail
      refine (two_9 _ _ _).mono ?_; rintro e w11 ⟨rfl, g11⟩
      rw [s42]
      go_wp2_with fail
      refine (two_10 _ _ _).mono ?_; rintro e w12 ⟨rfl, g12⟩
      rw [s42]
      go_wp2_with fail
      go_ret
      exact ⟨rfl, ext_trans (ext_trans (ext_trans (ext_trans (ext_trans (ext_trans (ext_trans (ext_trans (ext_trans (ext_trans (ext_trans g1 g2) g3) g4) g5) g6) g7) g8) g9) g10) g11) g12⟩


end Go.Proofs.Ytchapkjpagoceaa.arithBits
