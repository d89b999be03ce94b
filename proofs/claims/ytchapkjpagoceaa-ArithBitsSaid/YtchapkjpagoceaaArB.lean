/- What Two makes of two numbers. -/
import Derived.Test.YtchapkjpagoceaaRows
import Derived.WalkKit
import Derived.ProofKit
import Derived.OpenShut
import Derived.WalkLawsBesides
import Derived.WalkSpells
import Derived.Outline
import Derived.Handy
import Derived.Lib.Hide
import Derived.Laws.EntriesVeiled
import Derived.Test.YtchapkjpagoceaaArP
namespace Go.Proofs.Ytchapkjpagoceaa
open Go.ChangeShapes Go.WideShapes Go.ChangeAt Go.RowKit
theorem sh_walk (b : Int) : min (IntKind.u64.wrap (bits .and .i64 b 63)).toNat 64 = sh b := by
  rw [i64_and63, IntKind.wrap_u64]; unfold sh; omega
theorem ret_two {v v' : Int} (c : Bool) (h : v = v') : Ending.returned (.tuple #[.int .i64 v, .bool c]) = .returned (.tuple #[.int .i64 v', .bool c]) := by rw [h]
theorem two_1 (a b : Int) (w : World) :
    Calls Try.prog 15 #[.int .i64 1, .int .i64 a, .int .i64 b] w fun e w' => e = .returned (.tuple #[.int .i64 (wrap64 (a + b)), .bool true]) ∧ Below w.heap.size w w' := by
  go_enter Try.func15, Try.ntmps15
  go_wp2_with (first | (go_at_call 29; refine (pairOf_1 _).mono ?_; rintro e w' ⟨rfl, hg⟩) | go_in)
  go_ret2
  exact ⟨rfl, by have hz := hg.size; go_grown⟩
theorem two_2 (a b : Int) (w : World) :
    Calls Try.prog 15 #[.int .i64 2, .int .i64 a, .int .i64 b] w fun e w' => e = .returned (.tuple #[.int .i64 (wrap64 (a - b)), .bool true]) ∧ Below w.heap.size w w' := by
  go_enter Try.func15, Try.ntmps15
  go_wp2_with (first | (go_at_call 29; refine (pairOf_2 _).mono ?_; rintro e w' ⟨rfl, hg⟩) | go_in)
  go_ret2
  exact ⟨rfl, by have hz := hg.size; go_grown⟩
theorem two_3 (a b : Int) (w : World) :
    Calls Try.prog 15 #[.int .i64 3, .int .i64 a, .int .i64 b] w fun e w' => e = .returned (.tuple #[.int .i64 (wrap64 (a * b)), .bool true]) ∧ Below w.heap.size w w' := by
  go_enter Try.func15, Try.ntmps15
  go_wp2_with (first | (go_at_call 29; refine (pairOf_3 _).mono ?_; rintro e w' ⟨rfl, hg⟩) | go_in)
  go_ret2
  exact ⟨rfl, by have hz := hg.size; go_grown⟩
theorem two_6 (a b : Int) (w : World) :
    Calls Try.prog 15 #[.int .i64 6, .int .i64 a, .int .i64 b] w fun e w' => e = .returned (.tuple #[.int .i64 (bits .and .i64 a b), .bool true]) ∧ Below w.heap.size w w' := by
  go_enter Try.func15, Try.ntmps15
  go_wp2_with (first | (go_at_call 29; refine (pairOf_6 _).mono ?_; rintro e w' ⟨rfl, hg⟩) | go_in)
  go_ret2
  exact ⟨rfl, by have hz := hg.size; go_grown⟩
theorem two_7 (a b : Int) (w : World) :
    Calls Try.prog 15 #[.int .i64 7, .int .i64 a, .int .i64 b] w fun e w' => e = .returned (.tuple #[.int .i64 (bits .or .i64 a b), .bool true]) ∧ Below w.heap.size w w' := by
  go_enter Try.func15, Try.ntmps15
  go_wp2_with (first | (go_at_call 29; refine (pairOf_7 _).mono ?_; rintro e w' ⟨rfl, hg⟩) | go_in)
  go_ret2
  exact ⟨rfl, by have hz := hg.size; go_grown⟩
theorem two_8 (a b : Int) (w : World) :
    Calls Try.prog 15 #[.int .i64 8, .int .i64 a, .int .i64 b] w fun e w' => e = .returned (.tuple #[.int .i64 (bits .xor .i64 a b), .bool true]) ∧ Below w.heap.size w w' := by
  go_enter Try.func15, Try.ntmps15
  go_wp2_with (first | (go_at_call 29; refine (pairOf_8 _).mono ?_; rintro e w' ⟨rfl, hg⟩) | go_in)
  go_ret2
  exact ⟨rfl, by have hz := hg.size; go_grown⟩
end Go.Proofs.Ytchapkjpagoceaa
