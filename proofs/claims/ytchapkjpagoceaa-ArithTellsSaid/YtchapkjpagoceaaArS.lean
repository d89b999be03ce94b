/- The document's own signs and levels of operators. -/
import Derived.Test.YtchapkjpagoceaaRows
import Derived.WalkKit
import Derived.ProofKit
import Derived.OpenShut
import Derived.WalkLawsBesides
import Derived.WalkSpells
import Derived.Outline
import Derived.Handy
import Derived.Lib.Hide
import Derived.Laws.EntriesVeiled
import Derived.Test.YtchapkjpagoceaaArF
namespace Go.Proofs.Ytchapkjpagoceaa
open Go.ChangeShapes Go.WideShapes Go.ChangeAt Go.RowKit
theorem rsign_1 (w : World) :
    Calls Try.prog 26 #[.int .i64 1] w fun e w' => e = .returned (.tuple #[.string ⟨#[43]⟩, .bool true]) ∧ Below w.heap.size w w' := by
  go_enter Try.func26, Try.ntmps26
  go_wp2_with fail
  go_ret2
  exact ⟨rfl, by go_grown⟩
theorem rsign_2 (w : World) :
    Calls Try.prog 26 #[.int .i64 2] w fun e w' => e = .returned (.tuple #[.string ⟨#[45]⟩, .bool true]) ∧ Below w.heap.size w w' := by
  go_enter Try.func26, Try.ntmps26
  go_wp2_with fail
  go_ret2
  exact ⟨rfl, by go_grown⟩
theorem rsign_3 (w : World) :
    Calls Try.prog 26 #[.int .i64 3] w fun e w' => e = .returned (.tuple #[.string ⟨#[42]⟩, .bool true]) ∧ Below w.heap.size w w' := by
  go_enter Try.func26, Try.ntmps26
  go_wp2_with fail
  go_ret2
  exact ⟨rfl, by go_grown⟩
theorem rsign_4 (w : World) :
    Calls Try.prog 26 #[.int .i64 4] w fun e w' => e = .returned (.tuple #[.string ⟨#[47]⟩, .bool true]) ∧ Below w.heap.size w w' := by
  go_enter Try.func26, Try.ntmps26
  go_wp2_with fail
  go_ret2
  exact ⟨rfl, by go_grown⟩
theorem rsign_5 (w : World) :
    Calls Try.prog 26 #[.int .i64 5] w fun e w' => e = .returned (.tuple #[.string ⟨#[37]⟩, .bool true]) ∧ Below w.heap.size w w' := by
  go_enter Try.func26, Try.ntmps26
  go_wp2_with fail
  go_ret2
  exact ⟨rfl, by go_grown⟩
theorem rsign_6 (w : World) :
    Calls Try.prog 26 #[.int .i64 6] w fun e w' => e = .returned (.tuple #[.string ⟨#[38]⟩, .bool true]) ∧ Below w.heap.size w w' := by
  go_enter Try.func26, Try.ntmps26
  go_wp2_with fail
  go_ret2
  exact ⟨rfl, by go_grown⟩
theorem rsign_7 (w : World) :
    Calls Try.prog 26 #[.int .i64 7] w fun e w' => e = .returned (.tuple #[.string ⟨#[124]⟩, .bool true]) ∧ Below w.heap.size w w' := by
  go_enter Try.func26, Try.ntmps26
  go_wp2_with fail
  go_ret2
  exact ⟨rfl, by go_grown⟩
theorem rsign_8 (w : World) :
    Calls Try.prog 26 #[.int .i64 8] w fun e w' => e = .returned (.tuple #[.string ⟨#[94]⟩, .bool true]) ∧ Below w.heap.size w w' := by
  go_enter Try.func26, Try.ntmps26
  go_wp2_with fail
  go_ret2
  exact ⟨rfl, by go_grown⟩
theorem rsign_9 (w : World) :
    Calls Try.prog 26 #[.int .i64 9] w fun e w' => e = .returned (.tuple #[.string ⟨#[60, 60]⟩, .bool true]) ∧ Below w.heap.size w w' := by
  go_enter Try.func26, Try.ntmps26
  go_wp2_with fail
  go_ret2
  exact ⟨rfl, by go_grown⟩
theorem rsign_10 (w : World) :
    Calls Try.prog 26 #[.int .i64 10] w fun e w' => e = .returned (.tuple #[.string ⟨#[62, 62]⟩, .bool true]) ∧ Below w.heap.size w w' := by
  go_enter Try.func26, Try.ntmps26
  go_wp2_with fail
  go_ret2
  exact ⟨rfl, by go_grown⟩
theorem rsign_11 (w : World) :
    Calls Try.prog 26 #[.int .i64 11] w fun e w' => e = .returned (.tuple #[.string ⟨#[60]⟩, .bool true]) ∧ Below w.heap.size w w' := by
  go_enter Try.func26, Try.ntmps26
  go_wp2_with fail
  go_ret2
  exact ⟨rfl, by go_grown⟩
theorem rsign_12 (w : World) :
    Calls Try.prog 26 #[.int .i64 12] w fun e w' => e = .returned (.tuple #[.string ⟨#[60, 61]⟩, .bool true]) ∧ Below w.heap.size w w' := by
  go_enter Try.func26, Try.ntmps26
  go_wp2_with fail
  go_ret2
  exact ⟨rfl, by go_grown⟩
theorem rsign_13 (w : World) :
    Calls Try.prog 26 #[.int .i64 13] w fun e w' => e = .returned (.tuple #[.string ⟨#[62]⟩, .bool true]) ∧ Below w.heap.size w w' := by
  go_enter Try.func26, Try.ntmps26
  go_wp2_with fail
  go_ret2
  exact ⟨rfl, by go_grown⟩
theorem rsign_14 (w : World) :
    Calls Try.prog 26 #[.int .i64 14] w fun e w' => e = .returned (.tuple #[.string ⟨#[62, 61]⟩, .bool true]) ∧ Below w.heap.size w w' := by
  go_enter Try.func26, Try.ntmps26
  go_wp2_with fail
  go_ret2
  exact ⟨rfl, by go_grown⟩
theorem rsign_15 (w : World) :
    Calls Try.prog 26 #[.int .i64 15] w fun e w' => e = .returned (.tuple #[.string ⟨#[61, 61]⟩, .bool true]) ∧ Below w.heap.size w w' := by
  go_enter Try.func26, Try.ntmps26
  go_wp2_with fail
  go_ret2
  exact ⟨rfl, by go_grown⟩
theorem rsign_16 (w : World) :
    Calls Try.prog 26 #[.int .i64 16] w fun e w' => e = .returned (.tuple #[.string ⟨#[33, 61]⟩, .bool true]) ∧ Below w.heap.size w w' := by
  go_enter Try.func26, Try.ntmps26
  go_wp2_with fail
  go_ret2
  exact ⟨rfl, by go_grown⟩
theorem rsign_17 (w : World) :
    Calls Try.prog 26 #[.int .i64 17] w fun e w' => e = .returned (.tuple #[.string ⟨#[45]⟩, .bool true]) ∧ Below w.heap.size w w' := by
  go_enter Try.func26, Try.ntmps26
  go_wp2_with fail
  go_ret2
  exact ⟨rfl, by go_grown⟩
theorem rsign_18 (w : World) :
    Calls Try.prog 26 #[.int .i64 18] w fun e w' => e = .returned (.tuple #[.string ⟨#[33]⟩, .bool true]) ∧ Below w.heap.size w w' := by
  go_enter Try.func26, Try.ntmps26
  go_wp2_with fail
  go_ret2
  exact ⟨rfl, by go_grown⟩
theorem rsign_19 (w : World) :
    Calls Try.prog 26 #[.int .i64 19] w fun e w' => e = .returned (.tuple #[.string ⟨#[126]⟩, .bool true]) ∧ Below w.heap.size w w' := by
  go_enter Try.func26, Try.ntmps26
  go_wp2_with fail
  go_ret2
  exact ⟨rfl, by go_grown⟩
theorem rsign_no (op : Int) (w : World) (h : op < 1 ∨ 19 < op) :
    Calls Try.prog 26 #[.int .i64 op] w fun e w' => e = .returned (.tuple #[.string ⟨#[]⟩, .bool false]) ∧ Below w.heap.size w w' := by
  rcases h with h | h
  all_goals
    go_enter Try.func26, Try.ntmps26
    go_wp2_with fail
    go_ret2
    exact ⟨rfl, Below.refl _ _⟩
theorem rlevel_1 (w : World) :
    Calls Try.prog 28 #[.int .i64 1] w fun e w' => e = .returned (.int .i64 7) ∧ Below w.heap.size w w' := by
  go_enter Try.func28, Try.ntmps28
  go_wp2_with fail
  go_ret
  exact ⟨rfl, by go_grown⟩
theorem rlevel_2 (w : World) :
    Calls Try.prog 28 #[.int .i64 2] w fun e w' => e = .returned (.int .i64 7) ∧ Below w.heap.size w w' := by
  go_enter Try.func28, Try.ntmps28
  go_wp2_with fail
  go_ret
  exact ⟨rfl, by go_grown⟩
theorem rlevel_3 (w : World) :
    Calls Try.prog 28 #[.int .i64 3] w fun e w' => e = .returned (.int .i64 8) ∧ Below w.heap.size w w' := by
  go_enter Try.func28, Try.ntmps28
  go_wp2_with fail
  go_ret
  exact ⟨rfl, by go_grown⟩
theorem rlevel_4 (w : World) :
    Calls Try.prog 28 #[.int .i64 4] w fun e w' => e = .returned (.int .i64 8) ∧ Below w.heap.size w w' := by
  go_enter Try.func28, Try.ntmps28
  go_wp2_with fail
  go_ret
  exact ⟨rfl, by go_grown⟩
theorem rlevel_5 (w : World) :
    Calls Try.prog 28 #[.int .i64 5] w fun e w' => e = .returned (.int .i64 8) ∧ Below w.heap.size w w' := by
  go_enter Try.func28, Try.ntmps28
  go_wp2_with fail
  go_ret
  exact ⟨rfl, by go_grown⟩
theorem rlevel_6 (w : World) :
    Calls Try.prog 28 #[.int .i64 6] w fun e w' => e = .returned (.int .i64 3) ∧ Below w.heap.size w w' := by
  go_enter Try.func28, Try.ntmps28
  go_wp2_with fail
  go_ret
  exact ⟨rfl, by go_grown⟩
theorem rlevel_7 (w : World) :
    Calls Try.prog 28 #[.int .i64 7] w fun e w' => e = .returned (.int .i64 1) ∧ Below w.heap.size w w' := by
  go_enter Try.func28, Try.ntmps28
  go_wp2_with fail
  go_ret
  exact ⟨rfl, by go_grown⟩
theorem rlevel_8 (w : World) :
    Calls Try.prog 28 #[.int .i64 8] w fun e w' => e = .returned (.int .i64 2) ∧ Below w.heap.size w w' := by
  go_enter Try.func28, Try.ntmps28
  go_wp2_with fail
  go_ret
  exact ⟨rfl, by go_grown⟩
theorem rlevel_9 (w : World) :
    Calls Try.prog 28 #[.int .i64 9] w fun e w' => e = .returned (.int .i64 6) ∧ Below w.heap.size w w' := by
  go_enter Try.func28, Try.ntmps28
  go_wp2_with fail
  go_ret
  exact ⟨rfl, by go_grown⟩
theorem rlevel_10 (w : World) :
    Calls Try.prog 28 #[.int .i64 10] w fun e w' => e = .returned (.int .i64 6) ∧ Below w.heap.size w w' := by
  go_enter Try.func28, Try.ntmps28
  go_wp2_with fail
  go_ret
  exact ⟨rfl, by go_grown⟩
theorem rlevel_11 (w : World) :
    Calls Try.prog 28 #[.int .i64 11] w fun e w' => e = .returned (.int .i64 5) ∧ Below w.heap.size w w' := by
  go_enter Try.func28, Try.ntmps28
  go_wp2_with fail
  go_ret
  exact ⟨rfl, by go_grown⟩
theorem rlevel_12 (w : World) :
    Calls Try.prog 28 #[.int .i64 12] w fun e w' => e = .returned (.int .i64 5) ∧ Below w.heap.size w w' := by
  go_enter Try.func28, Try.ntmps28
  go_wp2_with fail
  go_ret
  exact ⟨rfl, by go_grown⟩
theorem rlevel_13 (w : World) :
    Calls Try.prog 28 #[.int .i64 13] w fun e w' => e = .returned (.int .i64 5) ∧ Below w.heap.size w w' := by
  go_enter Try.func28, Try.ntmps28
  go_wp2_with fail
  go_ret
  exact ⟨rfl, by go_grown⟩
theorem rlevel_14 (w : World) :
    Calls Try.prog 28 #[.int .i64 14] w fun e w' => e = .returned (.int .i64 5) ∧ Below w.heap.size w w' := by
  go_enter Try.func28, Try.ntmps28
  go_wp2_with fail
  go_ret
  exact ⟨rfl, by go_grown⟩
theorem rlevel_15 (w : World) :
    Calls Try.prog 28 #[.int .i64 15] w fun e w' => e = .returned (.int .i64 4) ∧ Below w.heap.size w w' := by
  go_enter Try.func28, Try.ntmps28
  go_wp2_with fail
  go_ret
  exact ⟨rfl, by go_grown⟩
theorem rlevel_16 (w : World) :
    Calls Try.prog 28 #[.int .i64 16] w fun e w' => e = .returned (.int .i64 4) ∧ Below w.heap.size w w' := by
  go_enter Try.func28, Try.ntmps28
  go_wp2_with fail
  go_ret
  exact ⟨rfl, by go_grown⟩
theorem rlevel_no (op : Int) (w : World) (h : op < 1 ∨ 16 < op) :
    Calls Try.prog 28 #[.int .i64 op] w fun e w' => e = .returned (.int .i64 0) ∧ Below w.heap.size w w' := by
  rcases h with h | h
  all_goals
    go_enter Try.func28, Try.ntmps28
    go_wp2_with fail
    go_ret
    exact ⟨rfl, Below.refl _ _⟩
end Go.Proofs.Ytchapkjpagoceaa
