/- The small functions: bytes, labels, registers. -/
import Derived.Test.YtlaihjefmhcmcaaGreatDoorRows
import Derived.WalkKit
import Derived.ProofKit
import Derived.OpenShut
import Derived.WalkLawsBesides
import Derived.WalkSpells
import Derived.Outline
import Derived.Handy
import Derived.Lib.Hide
import Derived.Lib.OthersKept
import Derived.KernelRfl
import Derived.Test.YtlaihjefmhcmcaaGreatDoorIn0
namespace Go.Proofs.YtlaihjefmhcmcaaGreatDoor
open Go.ChangeShapes Go.WideShapes Go.ChangeAt Go.RowKit
set_option linter.unusedVariables false
theorem digit_raw (r : Int) (w : World) : Calls Tryz.prog 63 #[.int .u8 r] w fun e w' => e = .returned (.bool (decide (48 ≤ r ∧ r ≤ 57))) ∧ w = w' := by
  have hc : (r < 48 ∧ decide (48 ≤ r ∧ r ≤ 57) = false) ∨ ((48 ≤ r ∧ r ≤ 57) ∧ decide (48 ≤ r ∧ r ≤ 57) = true) ∨ (57 < r ∧ decide (48 ≤ r ∧ r ≤ 57) = false) := by simp only [decide_eq_true_iff, decide_eq_false_iff_not]; omega
  rcases hc with ⟨h, e⟩ | ⟨h, e⟩ | ⟨h, e⟩
  all_goals
    rw [e]
    have E := Lib.hid e; clear e
    try (obtain ⟨h1, h2⟩ := h)
    go_enter Tryz.func63, Tryz.ntmps63
    go_wp2_with fail
    go_ret
    exact ⟨by first | rfl | exact ret_b (by simp; omega), rfl⟩
theorem digit_any (c : UInt8) (w : World) : Calls Tryz.prog 63 #[.int .u8 (c.toNat : Int)] w fun e w' => e = .returned (.bool (digitB c)) ∧ w = w' := by
  obtain ⟨r, hr⟩ : ∃ r : Int, (c.toNat : Int) = r := ⟨_, rfl⟩
  have hc : ((r < 48) ∧ digitB c = false) ∨ ((48 ≤ r ∧ r ≤ 57) ∧ digitB c = true) ∨ ((57 < r) ∧ digitB c = false) := by unfold digitB; simp only [decide_eq_true_iff, decide_eq_false_iff_not]; omega
  rw [hr]
  clear hr
  rcases hc with ⟨h, e⟩ | ⟨h, e⟩ | ⟨h, e⟩
  all_goals
    rw [e]
    have E := Lib.hid e; clear e
    try (obtain ⟨h1, h2⟩ := h)
    go_enter Tryz.func63, Tryz.ntmps63
    go_wp2_with fail
    go_ret
    exact ⟨by first | rfl | exact ret_b (by simp; omega), rfl⟩
set_option maxRecDepth 100000 in
theorem inNum_any (c : UInt8) (w : World) : Calls Tryz.prog 102 #[.int .u8 (c.toNat : Int)] w fun e w' => e = .returned (.bool (inNumB c)) ∧ w = w' := by
  obtain ⟨r, hr⟩ : ∃ r : Int, (c.toNat : Int) = r := ⟨_, rfl⟩
  have hc : ((r < 45) ∧ inNumB c = false) ∨ ((r = 45) ∧ inNumB c = true) ∨ ((45 < r ∧ r < 48) ∧ inNumB c = false) ∨ ((48 ≤ r ∧ r ≤ 57) ∧ inNumB c = true) ∨ ((57 < r) ∧ inNumB c = false) := by unfold inNumB; simp only [decide_eq_true_iff, decide_eq_false_iff_not]; omega
  rw [hr]
  clear hr
  rcases hc with ⟨h, e⟩ | ⟨h, e⟩ | ⟨h, e⟩ | ⟨h, e⟩ | ⟨h, e⟩
  all_goals
    rw [e]
    have E := Lib.hid e; clear e
    try (obtain ⟨h1, h2⟩ := h)
    have hd := Lib.hid (fun r w => digit_raw r w)
    go_enter Tryz.func102, Tryz.ntmps102
    go_wp2_with (go_at_call 63; refine (hd.out _ _).mono ?_; rintro e w1 ⟨rfl, rfl⟩)
    go_ret
    exact ⟨by first | rfl | exact ret_b (by simp; omega), rfl⟩
set_option maxRecDepth 100000 in
theorem inLab_any (c : UInt8) (w : World) : Calls Tryz.prog 65 #[.int .u8 (c.toNat : Int)] w fun e w' => e = .returned (.bool (inLabB c)) ∧ w = w' := by
  obtain ⟨r, hr⟩ : ∃ r : Int, (c.toNat : Int) = r := ⟨_, rfl⟩
  have hc : ((r < 46) ∧ inLabB c = false) ∨ ((r = 46) ∧ inLabB c = true) ∨ ((r = 47) ∧ inLabB c = false) ∨ ((48 ≤ r ∧ r ≤ 57) ∧ inLabB c = true) ∨ ((57 < r ∧ r < 65) ∧ inLabB c = false) ∨ ((65 ≤ r ∧ r ≤ 90) ∧ inLabB c = true) ∨ ((90 < r ∧ r < 95) ∧ inLabB c = false) ∨ ((r = 95) ∧ inLabB c = true) ∨ ((r = 96) ∧ inLabB c = false) ∨ ((97 ≤ r ∧ r ≤ 122) ∧ inLabB c = true) ∨ ((122 < r) ∧ inLabB c = false) := by unfold inLabB; simp only [decide_eq_true_iff, decide_eq_false_iff_not]; omega
  rw [hr]
  clear hr
  rcases hc with ⟨h, e⟩ | ⟨h, e⟩ | ⟨h, e⟩ | ⟨h, e⟩ | ⟨h, e⟩ | ⟨h, e⟩ | ⟨h, e⟩ | ⟨h, e⟩ | ⟨h, e⟩ | ⟨h, e⟩ | ⟨h, e⟩
  all_goals
    rw [e]
    have E := Lib.hid e; clear e
    try (obtain ⟨h1, h2⟩ := h)
    have hd := Lib.hid (fun r w => digit_raw r w)
    go_enter Tryz.func65, Tryz.ntmps65
    go_wp2_with (go_at_call 63; refine (hd.out _ _).mono ?_; rintro e w1 ⟨rfl, rfl⟩)
    go_ret
    exact ⟨by first | rfl | exact ret_b (by simp; omega), rfl⟩
theorem reg_any (n : Int) (w : World) : Calls Tryz.prog 50 #[.int .i64 n] w fun e w' => e = .returned (.bool (regB n)) ∧ w = w' := by
  have hc : (n < 0 ∧ regB n = false) ∨ ((0 ≤ n ∧ n < 32) ∧ regB n = true) ∨ (32 ≤ n ∧ regB n = false) := by unfold regB; simp only [decide_eq_true_iff, decide_eq_false_iff_not]; omega
  rcases hc with ⟨h, e⟩ | ⟨h, e⟩ | ⟨h, e⟩
  all_goals
    rw [e]
    have E := Lib.hid e; clear e
    try (obtain ⟨h1, h2⟩ := h)
    go_enter Tryz.func50, Tryz.ntmps50
    go_wp2_with fail
    go_ret
    exact ⟨by first | rfl | exact ret_b (by simp; omega), rfl⟩
theorem span_step (p : UInt8 → Bool) (l : List UInt8) (j : Nat) (h : j < l.length) : spanB p (l.drop j) = if p (l[j]'h) then 1 + spanB p (l.drop (j + 1)) else 0 := by
  unfold spanB
  rw [List.drop_eq_getElem_cons h, List.takeWhile_cons]
  split
  · rw [List.length_cons]; omega
  · rfl
theorem span_le (p : UInt8 → Bool) (l : List UInt8) : spanB p l ≤ l.length := by
  unfold spanB
  exact (List.takeWhile_sublist p).length_le
theorem prefixN_any (l : List UInt8) (w : World) (hl : l.length ≤ 140737488355328) : Calls Tryz.prog 64 #[.string (mk l), .func (.func 102) #[] #[]] w fun e w' => e = .returned (.int .i64 (spanB inNumB l : Nat)) ∧ w = w' := by
  have hsz : (mk l).size = l.length := rfl
  go_enter Tryz.func64, Tryz.ntmps64
  go_wp2_with fail
  go_loopw [5] (fun i wr => ∃ j : Nat, i = .int .i64 j ∧ j ≤ l.length ∧ spanB inNumB l = j + spanB inNumB (l.drop j) ∧ w = wr) (fun i wr => l.length - (match i with | .int _ x => x.toNat | _ => 0))
  case atStart => exact ⟨0, rfl, Nat.zero_le _, by rw [List.drop_zero, Nat.zero_add], rfl⟩
  case round =>
    obtain ⟨j, rfl, hj, hs, rfl⟩ := hrel
    have HS := Lib.hid hs; clear hs
    by_cases h : j < l.length
    · have h' : j < (mk l).size := h
      have hg : ((mk l)[j]'h').toNat = (l[j]'h).toNat := rfl
      have hst := Lib.hid (span_step inNumB l j h)
      generalize l[j]'h = c at *
      have hle := Lib.hid (fun w => inNum_any c w)
      rw [← hg] at hle
      clear hg
      cases hc : inNumB c
      · rw [hc] at hle
        have HC := Lib.hid hc; clear hc
        go_wp2_with ((with_reducible refine (hle.out _).mono ?_); rintro e w1 ⟨rfl, rfl⟩)
        go_ret
        exact ⟨ret_i (by rw [HS.out, hst.out, HC.out]; simp), rfl⟩
      · rw [hc] at hle
        have HC := Lib.hid hc; clear hc
        go_wp2_with ((with_reducible refine (hle.out _).mono ?_); rintro e w1 ⟨rfl, rfl⟩)
        go_roundw
        case rel => exact ⟨j + 1, rfl, by omega, by rw [HS.out, hst.out, HC.out, if_pos rfl]; omega, trivial⟩
        case measure => simp; omega
    · obtain rfl : j = l.length := by omega
      go_wp2_with fail
      go_ret
      exact ⟨ret_i (by rw [HS.out, List.drop_length]; simp [spanB]), rfl⟩
theorem prefixL_any (l : List UInt8) (w : World) (hl : l.length ≤ 140737488355328) : Calls Tryz.prog 64 #[.string (mk l), .func (.func 65) #[] #[]] w fun e w' => e = .returned (.int .i64 (spanB inLabB l : Nat)) ∧ w = w' := by
  have hsz : (mk l).size = l.length := rfl
  go_enter Tryz.func64, Tryz.ntmps64
  go_wp2_with fail
  go_loopw [5] (fun i wr => ∃ j : Nat, i = .int .i64 j ∧ j ≤ l.length ∧ spanB inLabB l = j + spanB inLabB (l.drop j) ∧ w = wr) (fun i wr => l.length - (match i with | .int _ x => x.toNat | _ => 0))
  case atStart => exact ⟨0, rfl, Nat.zero_le _, by rw [List.drop_zero, Nat.zero_add], rfl⟩
  case round =>
    obtain ⟨j, rfl, hj, hs, rfl⟩ := hrel
    have HS := Lib.hid hs; clear hs
    by_cases h : j < l.length
    · have h' : j < (mk l).size := h
      have hg : ((mk l)[j]'h').toNat = (l[j]'h).toNat := rfl
      have hst := Lib.hid (span_step inLabB l j h)
      generalize l[j]'h = c at *
      have hle := Lib.hid (fun w => inLab_any c w)
      rw [← hg] at hle
      clear hg
      cases hc : inLabB c
      · rw [hc] at hle
        have HC := Lib.hid hc; clear hc
        go_wp2_with ((with_reducible refine (hle.out _).mono ?_); rintro e w1 ⟨rfl, rfl⟩)
        go_ret
        exact ⟨ret_i (by rw [HS.out, hst.out, HC.out]; simp), rfl⟩
      · rw [hc] at hle
        have HC := Lib.hid hc; clear hc
        go_wp2_with ((with_reducible refine (hle.out _).mono ?_); rintro e w1 ⟨rfl, rfl⟩)
        go_roundw
        case rel => exact ⟨j + 1, rfl, by omega, by rw [HS.out, hst.out, HC.out, if_pos rfl]; omega, trivial⟩
        case measure => simp; omega
    · obtain rfl : j = l.length := by omega
      go_wp2_with fail
      go_ret
      exact ⟨ret_i (by rw [HS.out, List.drop_length]; simp [spanB]), rfl⟩
end Go.Proofs.YtlaihjefmhcmcaaGreatDoor
