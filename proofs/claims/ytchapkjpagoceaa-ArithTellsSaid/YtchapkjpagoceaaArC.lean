/- What Two makes of two numbers, the other operators. -/
import Derived.Test.YtchapkjpagoceaaRows
import Derived.WalkKit
import Derived.ProofKit
import Derived.OpenShut
import Derived.WalkLawsBesides
import Derived.WalkSpells
import Derived.Outline
import Derived.Handy
import Derived.Lib.Hide
import Derived.Laws.EntriesVeiled
import Derived.Test.YtchapkjpagoceaaArP
namespace Go.Proofs.Ytchapkjpagoceaa
open Go.ChangeShapes Go.WideShapes Go.ChangeAt Go.RowKit
theorem sh_walk2 (b : Int) : min (IntKind.u64.wrap (bits .and .i64 b 63)).toNat 64 = sh b := by
  rw [i64_and63, IntKind.wrap_u64]; unfold sh; omega
theorem ret_two2 {v v' : Int} (c : Bool) (h : v = v') : Ending.returned (.tuple #[.int .i64 v, .bool c]) = .returned (.tuple #[.int .i64 v', .bool c]) := by rw [h]
theorem two_9 (a b : Int) (w : World) :
    Calls Try.prog 15 #[.int .i64 9, .int .i64 a, .int .i64 b] w fun e w' => e = .returned (.tuple #[.int .i64 (wrap64 (a * 2 ^ sh b)), .bool true]) ∧ Below w.heap.size w w' := by
  go_enter Try.func15, Try.ntmps15
  go_wp2_with (first | (go_at_call 29; refine (pairOf_9 _).mono ?_; rintro e w' ⟨rfl, hg⟩) | go_in)
  go_ret2
  exact ⟨ret_two2 _ (by rw [← sh_walk2]), by have hz := hg.size; go_grown⟩
theorem two_10 (a b : Int) (w : World) :
    Calls Try.prog 15 #[.int .i64 10, .int .i64 a, .int .i64 b] w fun e w' => e = .returned (.tuple #[.int .i64 (a / 2 ^ sh b), .bool true]) ∧ Below w.heap.size w w' := by
  go_enter Try.func15, Try.ntmps15
  go_wp2_with (first | (go_at_call 29; refine (pairOf_10 _).mono ?_; rintro e w' ⟨rfl, hg⟩) | go_in)
  go_ret2
  exact ⟨ret_two2 _ (by rw [← sh_walk2]), by have hz := hg.size; go_grown⟩
theorem two_11 (a b : Int) (w : World) :
    Calls Try.prog 15 #[.int .i64 11, .int .i64 a, .int .i64 b] w fun e w' => e = .returned (.tuple #[.int .i64 (bi (decide (a < b))), .bool true]) ∧ Below w.heap.size w w' := by
  go_enter Try.func15, Try.ntmps15
  go_wp2_with (first | (go_at_call 29; refine (pairOf_11 _).mono ?_; rintro e w' ⟨rfl, hg⟩) | (go_at_call 36; refine (bit_any _ _).mono ?_; rintro e w' ⟨rfl, rfl⟩) | go_in)
  go_ret2
  exact ⟨rfl, by have hz := hg.size; go_grown⟩
theorem two_12 (a b : Int) (w : World) :
    Calls Try.prog 15 #[.int .i64 12, .int .i64 a, .int .i64 b] w fun e w' => e = .returned (.tuple #[.int .i64 (bi (decide (a ≤ b))), .bool true]) ∧ Below w.heap.size w w' := by
  go_enter Try.func15, Try.ntmps15
  go_wp2_with (first | (go_at_call 29; refine (pairOf_12 _).mono ?_; rintro e w' ⟨rfl, hg⟩) | (go_at_call 36; refine (bit_any _ _).mono ?_; rintro e w' ⟨rfl, rfl⟩) | go_in)
  go_ret2
  exact ⟨rfl, by have hz := hg.size; go_grown⟩
theorem two_13 (a b : Int) (w : World) :
    Calls Try.prog 15 #[.int .i64 13, .int .i64 a, .int .i64 b] w fun e w' => e = .returned (.tuple #[.int .i64 (bi (decide (b < a))), .bool true]) ∧ Below w.heap.size w w' := by
  go_enter Try.func15, Try.ntmps15
  go_wp2_with (first | (go_at_call 29; refine (pairOf_13 _).mono ?_; rintro e w' ⟨rfl, hg⟩) | (go_at_call 36; refine (bit_any _ _).mono ?_; rintro e w' ⟨rfl, rfl⟩) | go_in)
  go_ret2
  exact ⟨rfl, by have hz := hg.size; go_grown⟩
theorem two_14 (a b : Int) (w : World) :
    Calls Try.prog 15 #[.int .i64 14, .int .i64 a, .int .i64 b] w fun e w' => e = .returned (.tuple #[.int .i64 (bi (decide (b ≤ a))), .bool true]) ∧ Below w.heap.size w w' := by
  go_enter Try.func15, Try.ntmps15
  go_wp2_with (first | (go_at_call 29; refine (pairOf_14 _).mono ?_; rintro e w' ⟨rfl, hg⟩) | (go_at_call 36; refine (bit_any _ _).mono ?_; rintro e w' ⟨rfl, rfl⟩) | go_in)
  go_ret2
  exact ⟨rfl, by have hz := hg.size; go_grown⟩
theorem two_15 (a b : Int) (w : World) :
    Calls Try.prog 15 #[.int .i64 15, .int .i64 a, .int .i64 b] w fun e w' => e = .returned (.tuple #[.int .i64 (bi (a == b)), .bool true]) ∧ Below w.heap.size w w' := by
  go_enter Try.func15, Try.ntmps15
  go_wp2_with (first | (go_at_call 29; refine (pairOf_15 _).mono ?_; rintro e w' ⟨rfl, hg⟩) | (go_at_call 36; refine (bit_any _ _).mono ?_; rintro e w' ⟨rfl, rfl⟩) | go_in)
  go_ret2
  exact ⟨rfl, by have hz := hg.size; go_grown⟩
theorem two_16 (a b : Int) (w : World) :
    Calls Try.prog 15 #[.int .i64 16, .int .i64 a, .int .i64 b] w fun e w' => e = .returned (.tuple #[.int .i64 (bi (a != b)), .bool true]) ∧ Below w.heap.size w w' := by
  go_enter Try.func15, Try.ntmps15
  go_wp2_with (first | (go_at_call 29; refine (pairOf_16 _).mono ?_; rintro e w' ⟨rfl, hg⟩) | (go_at_call 36; refine (bit_any _ _).mono ?_; rintro e w' ⟨rfl, rfl⟩) | go_in)
  go_ret2
  exact ⟨rfl, by have hz := hg.size; go_grown⟩
theorem two_4 (a b : Int) (w : World) (h : b ≠ 0) :
    Calls Try.prog 15 #[.int .i64 4, .int .i64 a, .int .i64 b] w fun e w' => e = .returned (.tuple #[.int .i64 (wrap64 (a.tdiv b)), .bool true]) ∧ Below w.heap.size w w' := by
  have e : divV a b = wrap64 (a.tdiv b) := by simp [divV, h]
  have E := Lib.hid e; clear e
  have hb : (b == 0) = false := by simpa using h
  go_enter Try.func15, Try.ntmps15
  go_wp2_with (first | (go_at_call 29; refine (pairOf_4 _).mono ?_; rintro e w' ⟨rfl, hg⟩) | (go_at_call 17; refine (div_any _ _ _).mono ?_; rintro e w' ⟨rfl, rfl⟩))
  go_ret2
  exact ⟨ret_two2 _ E.out, by have hz := hg.size; go_grown⟩
theorem two_4_no (a : Int) (w : World) :
    Calls Try.prog 15 #[.int .i64 4, .int .i64 a, .int .i64 0] w fun e w' => e = .returned (.tuple #[.int .i64 0, .bool false]) ∧ Below w.heap.size w w' := by
  go_enter Try.func15, Try.ntmps15
  go_wp2_with (go_at_call 29; refine (pairOf_4 _).mono ?_; rintro e w' ⟨rfl, hg⟩)
  go_ret2
  exact ⟨rfl, by have hz := hg.size; go_grown⟩
theorem two_5 (a b : Int) (w : World) (h : b ≠ 0) :
    Calls Try.prog 15 #[.int .i64 5, .int .i64 a, .int .i64 b] w fun e w' => e = .returned (.tuple #[.int .i64 (a.tmod b), .bool true]) ∧ Below w.heap.size w w' := by
  have e : remV a b = a.tmod b := by simp [remV, h]
  have E := Lib.hid e; clear e
  have hb : (b == 0) = false := by simpa using h
  go_enter Try.func15, Try.ntmps15
  go_wp2_with (first | (go_at_call 29; refine (pairOf_5 _).mono ?_; rintro e w' ⟨rfl, hg⟩) | (go_at_call 19; refine (rem_any _ _ _).mono ?_; rintro e w' ⟨rfl, rfl⟩))
  go_ret2
  exact ⟨ret_two2 _ E.out, by have hz := hg.size; go_grown⟩
theorem two_5_no (a : Int) (w : World) :
    Calls Try.prog 15 #[.int .i64 5, .int .i64 a, .int .i64 0] w fun e w' => e = .returned (.tuple #[.int .i64 0, .bool false]) ∧ Below w.heap.size w w' := by
  go_enter Try.func15, Try.ntmps15
  go_wp2_with (go_at_call 29; refine (pairOf_5 _).mono ?_; rintro e w' ⟨rfl, hg⟩)
  go_ret2
  exact ⟨rfl, by have hz := hg.size; go_grown⟩
theorem two_no (op a b : Int) (w : World) (h : op < 1 ∨ 16 < op) :
    Calls Try.prog 15 #[.int .i64 op, .int .i64 a, .int .i64 b] w fun e w' => e = .returned (.tuple #[.int .i64 0, .bool false]) ∧ Below w.heap.size w w' := by
  have H := Lib.hid h; clear h
  go_enter Try.func15, Try.ntmps15
  go_wp2_with (go_at_call 29; refine (pairOf_no _ _ H.out).mono ?_; rintro e w' ⟨rfl, hg⟩)
  go_ret2
  exact ⟨rfl, by have hz := hg.size; go_grown⟩
end Go.Proofs.Ytchapkjpagoceaa
