/- What the tables of operators tell. -/
import Derived.Test.YtchapkjpagoceaaRows
import Derived.WalkKit
import Derived.ProofKit
import Derived.OpenShut
import Derived.WalkLawsBesides
import Derived.WalkSpells
import Derived.Outline
import Derived.Handy
import Derived.Lib.Hide
import Derived.Laws.EntriesVeiled
import Derived.Test.YtchapkjpagoceaaArA
namespace Go.Proofs.Ytchapkjpagoceaa
open Go.ChangeShapes Go.WideShapes Go.ChangeAt Go.RowKit
theorem pairOf_1 (w : World) :
    Calls Try.prog 29 #[.int .i64 1] w fun e w' => e = .returned (.tuple #[.agg #[.string ⟨#[43]⟩, .int .i64 7, .bool true, .func (.func 44) #[] #[]], .bool true]) ∧ Below w.heap.size w w' := by
  go_enter Try.func29, Try.ntmps29
  go_wp2
  exact bodyPost_ret (v := .tuple #[.agg #[.string ⟨#[43]⟩, .int .i64 7, .bool true, .func (.func 44) #[] #[]], .bool true]) (by simp [results, Try.results29, go_sem]) rfl ⟨rfl, by go_grown⟩
theorem pairOf_2 (w : World) :
    Calls Try.prog 29 #[.int .i64 2] w fun e w' => e = .returned (.tuple #[.agg #[.string ⟨#[45]⟩, .int .i64 7, .bool true, .func (.func 45) #[] #[]], .bool true]) ∧ Below w.heap.size w w' := by
  go_enter Try.func29, Try.ntmps29
  go_wp2
  exact bodyPost_ret (v := .tuple #[.agg #[.string ⟨#[45]⟩, .int .i64 7, .bool true, .func (.func 45) #[] #[]], .bool true]) (by simp [results, Try.results29, go_sem]) rfl ⟨rfl, by go_grown⟩
theorem pairOf_3 (w : World) :
    Calls Try.prog 29 #[.int .i64 3] w fun e w' => e = .returned (.tuple #[.agg #[.string ⟨#[42]⟩, .int .i64 8, .bool true, .func (.func 46) #[] #[]], .bool true]) ∧ Below w.heap.size w w' := by
  go_enter Try.func29, Try.ntmps29
  go_wp2
  exact bodyPost_ret (v := .tuple #[.agg #[.string ⟨#[42]⟩, .int .i64 8, .bool true, .func (.func 46) #[] #[]], .bool true]) (by simp [results, Try.results29, go_sem]) rfl ⟨rfl, by go_grown⟩
theorem pairOf_4 (w : World) :
    Calls Try.prog 29 #[.int .i64 4] w fun e w' => e = .returned (.tuple #[.agg #[.string ⟨#[47]⟩, .int .i64 8, .bool false, .func (.func 17) #[] #[]], .bool true]) ∧ Below w.heap.size w w' := by
  go_enter Try.func29, Try.ntmps29
  go_wp2
  exact bodyPost_ret (v := .tuple #[.agg #[.string ⟨#[47]⟩, .int .i64 8, .bool false, .func (.func 17) #[] #[]], .bool true]) (by simp [results, Try.results29, go_sem]) rfl ⟨rfl, by go_grown⟩
theorem pairOf_5 (w : World) :
    Calls Try.prog 29 #[.int .i64 5] w fun e w' => e = .returned (.tuple #[.agg #[.string ⟨#[37]⟩, .int .i64 8, .bool false, .func (.func 19) #[] #[]], .bool true]) ∧ Below w.heap.size w w' := by
  go_enter Try.func29, Try.ntmps29
  go_wp2
  exact bodyPost_ret (v := .tuple #[.agg #[.string ⟨#[37]⟩, .int .i64 8, .bool false, .func (.func 19) #[] #[]], .bool true]) (by simp [results, Try.results29, go_sem]) rfl ⟨rfl, by go_grown⟩
theorem pairOf_6 (w : World) :
    Calls Try.prog 29 #[.int .i64 6] w fun e w' => e = .returned (.tuple #[.agg #[.string ⟨#[38]⟩, .int .i64 3, .bool true, .func (.func 34) #[] #[]], .bool true]) ∧ Below w.heap.size w w' := by
  go_enter Try.func29, Try.ntmps29
  go_wp2
  exact bodyPost_ret (v := .tuple #[.agg #[.string ⟨#[38]⟩, .int .i64 3, .bool true, .func (.func 34) #[] #[]], .bool true]) (by simp [results, Try.results29, go_sem]) rfl ⟨rfl, by go_grown⟩
theorem pairOf_7 (w : World) :
    Calls Try.prog 29 #[.int .i64 7] w fun e w' => e = .returned (.tuple #[.agg #[.string ⟨#[124]⟩, .int .i64 1, .bool true, .func (.func 32) #[] #[]], .bool true]) ∧ Below w.heap.size w w' := by
  go_enter Try.func29, Try.ntmps29
  go_wp2
  exact bodyPost_ret (v := .tuple #[.agg #[.string ⟨#[124]⟩, .int .i64 1, .bool true, .func (.func 32) #[] #[]], .bool true]) (by simp [results, Try.results29, go_sem]) rfl ⟨rfl, by go_grown⟩
theorem pairOf_8 (w : World) :
    Calls Try.prog 29 #[.int .i64 8] w fun e w' => e = .returned (.tuple #[.agg #[.string ⟨#[94]⟩, .int .i64 2, .bool true, .func (.func 33) #[] #[]], .bool true]) ∧ Below w.heap.size w w' := by
  go_enter Try.func29, Try.ntmps29
  go_wp2
  exact bodyPost_ret (v := .tuple #[.agg #[.string ⟨#[94]⟩, .int .i64 2, .bool true, .func (.func 33) #[] #[]], .bool true]) (by simp [results, Try.results29, go_sem]) rfl ⟨rfl, by go_grown⟩
theorem pairOf_9 (w : World) :
    Calls Try.prog 29 #[.int .i64 9] w fun e w' => e = .returned (.tuple #[.agg #[.string ⟨#[60, 60]⟩, .int .i64 6, .bool true, .func (.func 42) #[] #[]], .bool true]) ∧ Below w.heap.size w w' := by
  go_enter Try.func29, Try.ntmps29
  go_wp2
  exact bodyPost_ret (v := .tuple #[.agg #[.string ⟨#[60, 60]⟩, .int .i64 6, .bool true, .func (.func 42) #[] #[]], .bool true]) (by simp [results, Try.results29, go_sem]) rfl ⟨rfl, by go_grown⟩
theorem pairOf_10 (w : World) :
    Calls Try.prog 29 #[.int .i64 10] w fun e w' => e = .returned (.tuple #[.agg #[.string ⟨#[62, 62]⟩, .int .i64 6, .bool true, .func (.func 43) #[] #[]], .bool true]) ∧ Below w.heap.size w w' := by
  go_enter Try.func29, Try.ntmps29
  go_wp2
  exact bodyPost_ret (v := .tuple #[.agg #[.string ⟨#[62, 62]⟩, .int .i64 6, .bool true, .func (.func 43) #[] #[]], .bool true]) (by simp [results, Try.results29, go_sem]) rfl ⟨rfl, by go_grown⟩
theorem pairOf_11 (w : World) :
    Calls Try.prog 29 #[.int .i64 11] w fun e w' => e = .returned (.tuple #[.agg #[.string ⟨#[60]⟩, .int .i64 5, .bool true, .func (.func 38) #[] #[]], .bool true]) ∧ Below w.heap.size w w' := by
  go_enter Try.func29, Try.ntmps29
  go_wp2
  exact bodyPost_ret (v := .tuple #[.agg #[.string ⟨#[60]⟩, .int .i64 5, .bool true, .func (.func 38) #[] #[]], .bool true]) (by simp [results, Try.results29, go_sem]) rfl ⟨rfl, by go_grown⟩
theorem pairOf_12 (w : World) :
    Calls Try.prog 29 #[.int .i64 12] w fun e w' => e = .returned (.tuple #[.agg #[.string ⟨#[60, 61]⟩, .int .i64 5, .bool true, .func (.func 39) #[] #[]], .bool true]) ∧ Below w.heap.size w w' := by
  go_enter Try.func29, Try.ntmps29
  go_wp2
  exact bodyPost_ret (v := .tuple #[.agg #[.string ⟨#[60, 61]⟩, .int .i64 5, .bool true, .func (.func 39) #[] #[]], .bool true]) (by simp [results, Try.results29, go_sem]) rfl ⟨rfl, by go_grown⟩
theorem pairOf_13 (w : World) :
    Calls Try.prog 29 #[.int .i64 13] w fun e w' => e = .returned (.tuple #[.agg #[.string ⟨#[62]⟩, .int .i64 5, .bool true, .func (.func 40) #[] #[]], .bool true]) ∧ Below w.heap.size w w' := by
  go_enter Try.func29, Try.ntmps29
  go_wp2
  exact bodyPost_ret (v := .tuple #[.agg #[.string ⟨#[62]⟩, .int .i64 5, .bool true, .func (.func 40) #[] #[]], .bool true]) (by simp [results, Try.results29, go_sem]) rfl ⟨rfl, by go_grown⟩
theorem pairOf_14 (w : World) :
    Calls Try.prog 29 #[.int .i64 14] w fun e w' => e = .returned (.tuple #[.agg #[.string ⟨#[62, 61]⟩, .int .i64 5, .bool true, .func (.func 41) #[] #[]], .bool true]) ∧ Below w.heap.size w w' := by
  go_enter Try.func29, Try.ntmps29
  go_wp2
  exact bodyPost_ret (v := .tuple #[.agg #[.string ⟨#[62, 61]⟩, .int .i64 5, .bool true, .func (.func 41) #[] #[]], .bool true]) (by simp [results, Try.results29, go_sem]) rfl ⟨rfl, by go_grown⟩
theorem pairOf_15 (w : World) :
    Calls Try.prog 29 #[.int .i64 15] w fun e w' => e = .returned (.tuple #[.agg #[.string ⟨#[61, 61]⟩, .int .i64 4, .bool true, .func (.func 35) #[] #[]], .bool true]) ∧ Below w.heap.size w w' := by
  go_enter Try.func29, Try.ntmps29
  go_wp2
  exact bodyPost_ret (v := .tuple #[.agg #[.string ⟨#[61, 61]⟩, .int .i64 4, .bool true, .func (.func 35) #[] #[]], .bool true]) (by simp [results, Try.results29, go_sem]) rfl ⟨rfl, by go_grown⟩
theorem pairOf_16 (w : World) :
    Calls Try.prog 29 #[.int .i64 16] w fun e w' => e = .returned (.tuple #[.agg #[.string ⟨#[33, 61]⟩, .int .i64 4, .bool true, .func (.func 37) #[] #[]], .bool true]) ∧ Below w.heap.size w w' := by
  go_enter Try.func29, Try.ntmps29
  go_wp2
  exact bodyPost_ret (v := .tuple #[.agg #[.string ⟨#[33, 61]⟩, .int .i64 4, .bool true, .func (.func 37) #[] #[]], .bool true]) (by simp [results, Try.results29, go_sem]) rfl ⟨rfl, by go_grown⟩
theorem pairOf_no (op : Int) (w : World) (h : op < 1 ∨ 16 < op) :
    Calls Try.prog 29 #[.int .i64 op] w fun e w' => e = .returned (.tuple #[.agg #[.string ⟨#[]⟩, .int .i64 0, .bool false, .nilFunc], .bool false]) ∧ Below w.heap.size w w' := by
  rcases h with h | h
  all_goals
    go_enter Try.func29, Try.ntmps29
    go_wp2
    exact bodyPost_ret (v := .tuple #[.agg #[.string ⟨#[]⟩, .int .i64 0, .bool false, .nilFunc], .bool false]) (by simp [results, Try.results29, go_sem]) rfl ⟨rfl, by go_grown⟩
theorem singleOf_17 (w : World) :
    Calls Try.prog 31 #[.int .i64 17] w fun e w' => e = .returned (.tuple #[.agg #[.string ⟨#[45]⟩, .func (.func 47) #[] #[]], .bool true]) ∧ Below w.heap.size w w' := by
  go_enter Try.func31, Try.ntmps31
  go_wp2
  exact bodyPost_ret (v := .tuple #[.agg #[.string ⟨#[45]⟩, .func (.func 47) #[] #[]], .bool true]) (by simp [results, Try.results31, go_sem]) rfl ⟨rfl, by go_grown⟩
theorem singleOf_18 (w : World) :
    Calls Try.prog 31 #[.int .i64 18] w fun e w' => e = .returned (.tuple #[.agg #[.string ⟨#[33]⟩, .func (.func 48) #[] #[]], .bool true]) ∧ Below w.heap.size w w' := by
  go_enter Try.func31, Try.ntmps31
  go_wp2
  exact bodyPost_ret (v := .tuple #[.agg #[.string ⟨#[33]⟩, .func (.func 48) #[] #[]], .bool true]) (by simp [results, Try.results31, go_sem]) rfl ⟨rfl, by go_grown⟩
theorem singleOf_19 (w : World) :
    Calls Try.prog 31 #[.int .i64 19] w fun e w' => e = .returned (.tuple #[.agg #[.string ⟨#[126]⟩, .func (.func 49) #[] #[]], .bool true]) ∧ Below w.heap.size w w' := by
  go_enter Try.func31, Try.ntmps31
  go_wp2
  exact bodyPost_ret (v := .tuple #[.agg #[.string ⟨#[126]⟩, .func (.func 49) #[] #[]], .bool true]) (by simp [results, Try.results31, go_sem]) rfl ⟨rfl, by go_grown⟩
theorem singleOf_no (op : Int) (w : World) (h : op < 17 ∨ 19 < op) :
    Calls Try.prog 31 #[.int .i64 op] w fun e w' => e = .returned (.tuple #[.agg #[.string ⟨#[]⟩, .nilFunc], .bool false]) ∧ Below w.heap.size w w' := by
  rcases h with h | h
  all_goals
    go_enter Try.func31, Try.ntmps31
    go_wp2
    exact bodyPost_ret (v := .tuple #[.agg #[.string ⟨#[]⟩, .nilFunc], .bool false]) (by simp [results, Try.results31, go_sem]) rfl ⟨rfl, by go_grown⟩
end Go.Proofs.Ytchapkjpagoceaa
