/- The walk of the law 'counterproof/counterprooflaw01.ArithDivides': the call answers true and leaves what was there as it was. -/
import Derived.Test.YtchapkjpagoceaaRows
import Derived.WalkKit
import Derived.ProofKit
import Derived.OpenShut
import Derived.ShutString
import Derived.Handy
import Derived.Lib.Hide
import Derived.Test.YtchapkjpagoceaaArE
namespace Go.Proofs.Ytchapkjpagoceaa.arithDivides
open Go.ChangeShapes Go.WideShapes Go.ChangeAt Go.RowKit
open Go.ChangeMaps (open_string shut_string)
set_option linter.unusedVariables false      -- a walk need not use every 'w<i>' (that an integer argument fits its kind)
theorem wrap_cong (x y k : Int) (h : x = y + 18446744073709551616 * k) : wrap64 x = wrap64 y := by unfold wrap64; omega
theorem wrap_is (x : Int) : ∃ k : Int, wrap64 x = x + 18446744073709551616 * k := by
  unfold wrap64; exact ⟨-((x + 9223372036854775808) / 18446744073709551616), by omega⟩
theorem whole (a b : Int) (h1 : -9223372036854775808 ≤ a) (h2 : a ≤ 9223372036854775807) : wrap64 (wrap64 (wrap64 (a.tdiv b) * b) + a.tmod b) = a := by
  obtain ⟨k, hk⟩ := wrap_is (a.tdiv b)
  obtain ⟨l, hl⟩ := wrap_is (wrap64 (a.tdiv b) * b)
  have d := Int.mul_tdiv_add_tmod a b
  rw [hl, hk]
  rw [wrap_cong _ a (l + k * b) (by rw [Int.add_mul, Int.mul_assoc, Int.mul_comm (a.tdiv b) b, Int.mul_add]; omega)]
  unfold wrap64; omega
theorem tmod_bd (a b : Int) (hb : b ≠ 0) : (a.tmod b < 0 → a < 0) ∧ (0 < a.tmod b → 0 < a) ∧ (0 < b → a.tmod b < b ∧ -(a.tmod b) < b) ∧ (b < 0 → b < a.tmod b ∧ b < -(a.tmod b)) := by
  have pos : ∀ x y : Int, 0 ≤ x → 0 < y → 0 ≤ x.tmod y ∧ x.tmod y < y ∧ x.tmod y ≤ x := fun x y hx hy => by
    rw [Int.tmod_eq_emod_of_nonneg hx]
    refine ⟨Int.emod_nonneg _ (by omega), Int.emod_lt_of_pos _ hy, ?_⟩
    have := Int.mul_ediv_add_emod x y
    have h0 : 0 ≤ y * (x / y) := Int.mul_nonneg (by omega) (Int.ediv_nonneg hx (by omega))
    omega
  rcases (show a < 0 ∨ 0 ≤ a by omega) with ha | ha
  all_goals rcases Int.lt_or_gt_of_ne hb with hb' | hb'
  · have p := pos (-a) (-b) (by omega) (by omega)
    rw [Int.tmod_neg, Int.neg_tmod] at p; omega
  · have p := pos (-a) b (by omega) (by omega)
    rw [Int.neg_tmod] at p; omega
  · have p := pos a (-b) (by omega) (by omega)
    rw [Int.tmod_neg] at p; omega
  · have p := pos a b (by omega) (by omega)
    omega

set_option maxHeartbeats 2000000 in
theorem walk (a0 : Int) (a1 : Int) (w0 : (Lit.int .i64 a0).wf = true) (w1 : (Lit.int .i64 a1).wf = true) (w : World) :
    Calls Try.prog 4 #[.int .i64 a0, .int .i64 a1] w fun e w' => e = .returned (.bool true) ∧ Below w.heap.size w w' := by
  have b0 := bounds_i64 w0
  have b1 := bounds_i64 w1
  obtain ⟨b0l, b0u⟩ := b0
  obtain ⟨b1l, b1u⟩ := b1
  clear w0 w1
  by_cases hb : a1 = 0
  · subst hb
    have e1 : divV a0 0 = -1 := rfl
    have e2 : remV a0 0 = a0 := rfl
    go_enter Try.func4, Try.ntmps4
    go_wp2_with (first | (go_at_call 13; refine (awake_any _).mono ?_; rintro e w' ⟨rfl, g⟩) | (go_at_call 17; refine (div_any _ _ _).mono ?_; rintro e w' ⟨rfl, rfl⟩) | (go_at_call 19; refine (rem_any _ _ _).mono ?_; rintro e w' ⟨rfl, rfl⟩))
    go_ret
    exact ⟨rfl, g⟩
  · have hw := whole a0 a1 b0l b0u
    have ht := tmod_bd a0 a1 hb
    have c1 : ∀ w, Calls Try.prog 17 #[.int .i64 a0, .int .i64 a1] w fun e w' => e = .returned (.int .i64 (wrap64 (a0.tdiv a1))) ∧ w = w' := fun w => (div_any a0 a1 w).mono fun e w' h => ⟨by rw [h.1, divV, if_neg hb], h.2⟩
    have c2 : ∀ w, Calls Try.prog 19 #[.int .i64 a0, .int .i64 a1] w fun e w' => e = .returned (.int .i64 (a0.tmod a1)) ∧ w = w' := fun w => (rem_any a0 a1 w).mono fun e w' h => ⟨by rw [h.1, remV, if_neg hb], h.2⟩
    have c3 := fun w => two_4 a0 a1 w hb
    have c4 := fun w => two_5 a0 a1 w hb
    have C1 := Lib.hid c1; have C2 := Lib.hid c2; have C3 := Lib.hid c3; have C4 := Lib.hid c4
    clear c1 c2 c3 c4
    generalize wrap64 (a0.tdiv a1) = q at *
    generalize a0.tmod a1 = r at *
    have hz : (a1 == 0) = false := by simpa using hb
    have f1 : (wrap64 (wrap64 (q * a1) + r) != a0) = false := by rw [hw]; simp
    clear hw
    obtain ⟨t1, t2, t3, t4⟩ := ht
    obtain ⟨r1, r2⟩ : -9223372036854775807 ≤ r ∧ r ≤ 9223372036854775807 := by omega
    have key : ((r == 0) = true ∧ 0 ≤ r ∧ r ≤ 0 ∧ 0 ≤ r ∧ r ≤ 0) ∨ ((r == 0) = false ∧ r < 0 ∧ a0 < 0 ∧ (0 < a1 → -r < a1) ∧ (a1 < 0 → a1 < r)) ∨ ((r == 0) = false ∧ 0 < r ∧ 0 < a0 ∧ (0 < a1 → r < a1) ∧ (a1 < 0 → a1 < -r)) := by
      rcases Int.lt_trichotomy r 0 with hr | hr | hr
      · exact .inr (.inl ⟨by simp; omega, hr, t1 hr, fun h => (t3 h).2, fun h => (t4 h).1⟩)
      · exact .inl ⟨by simp [hr], by omega, by omega, by omega, by omega⟩
      · exact .inr (.inr ⟨by simp; omega, hr, t2 hr, fun h => (t3 h).1, fun h => (t4 h).2⟩)
    rcases Int.lt_or_gt_of_ne hb with hb' | hb'
    all_goals rcases key with ⟨rz, ra, rb, rc, rd⟩ | ⟨rz, ra, rb, rc, rd⟩ | ⟨rz, ra, rb, rc, rd⟩
    all_goals
      try replace rc := rc hb'
      try replace rd := rd hb'
      clear t1 t2 t3 t4 hb
      go_enter Try.func4, Try.ntmps4
      go_wp2_with (first | (go_at_call 13; refine (awake_any _).mono ?_; rintro e w' ⟨rfl, g⟩) | (go_at_call 17; refine (C1.out _).mono ?_; rintro e w' ⟨rfl, rfl⟩) | (go_at_call 19; refine (C2.out _).mono ?_; rintro e w' ⟨rfl, rfl⟩) | fail)
      refine (C3.out _).mono ?_; rintro e w2 ⟨rfl, g2⟩
      go_wp2_with fail
      refine (C4.out _).mono ?_; rintro e w3 ⟨rfl, g3⟩
      go_wp2_with fail
      refine (two_3 _ _ _).mono ?_; rintro e w4 ⟨rfl, g4⟩
      go_wp2_with fail
      go_ret
      exact ⟨by first | rfl | exact congrArg (fun c => Ending.returned (.bool c)) (decide_eq_true (show a1 < -r by omega)), ext_trans (ext_trans (ext_trans g g2) g3) g4⟩


end Go.Proofs.Ytchapkjpagoceaa.arithDivides
