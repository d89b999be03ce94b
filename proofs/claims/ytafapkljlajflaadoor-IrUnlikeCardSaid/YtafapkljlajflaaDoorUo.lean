/- arith.One, Sign, Level. -/
import Derived.Test.YtafapkljlajflaaDoorRows
import Derived.WalkKit
import Derived.ProofKit
import Derived.OpenShut
import Derived.WalkLawsBesides
import Derived.WalkSpells
import Derived.Outline
import Derived.Handy
import Derived.Lib.Hide
import Derived.Lib.OthersKept
import Derived.KernelRfl
import Derived.Carry
import Derived.Laws.EntriesVeiled
import Derived.Test.YtafapkljlajflaaDoorUa
namespace Go.Proofs.YtafapkljlajflaaDoor
open Go.ChangeShapes Go.WideShapes Go.ChangeAt Go.RowKit
set_option linter.unusedVariables false
def bi (c : Bool) : Int := if c then 1 else 0
def oneV (op a : Int) : Int := if op = 17 then wrap64 (-a) else if op = 18 then bi (a == 0) else if op = 19 then bits .xor .i64 (-1) a else 0
def onB (op : Int) : Bool := decide (17 ≤ op ∧ op ≤ 19)
theorem bit_any (c : Bool) (w : World) : Calls Tryd.prog 62 #[.bool c] w fun e w' => e = .returned (.int .i64 (bi c)) ∧ w = w' := by
  cases c
  all_goals
    go_enter Tryd.func62, Tryd.ntmps62
    go_wp2
    go_ret
    exact ⟨rfl, rfl⟩
theorem pairOf_1 (w : World) :
    Calls Tryd.prog 44 #[.int .i64 1] w fun e w' => e = .returned (.tuple #[.agg #[.string ⟨#[43]⟩, .int .i64 7, .bool true, .func (.func 70) #[] #[]], .bool true]) ∧ Below w.heap.size w w' := by
  go_enter Tryd.func44, Tryd.ntmps44
  go_wp2
  exact bodyPost_ret (v := .tuple #[.agg #[.string ⟨#[43]⟩, .int .i64 7, .bool true, .func (.func 70) #[] #[]], .bool true]) (by simp [results, Tryd.results44, go_sem]) rfl ⟨rfl, by go_grown⟩
theorem pairOf_2 (w : World) :
    Calls Tryd.prog 44 #[.int .i64 2] w fun e w' => e = .returned (.tuple #[.agg #[.string ⟨#[45]⟩, .int .i64 7, .bool true, .func (.func 71) #[] #[]], .bool true]) ∧ Below w.heap.size w w' := by
  go_enter Tryd.func44, Tryd.ntmps44
  go_wp2
  exact bodyPost_ret (v := .tuple #[.agg #[.string ⟨#[45]⟩, .int .i64 7, .bool true, .func (.func 71) #[] #[]], .bool true]) (by simp [results, Tryd.results44, go_sem]) rfl ⟨rfl, by go_grown⟩
theorem pairOf_3 (w : World) :
    Calls Tryd.prog 44 #[.int .i64 3] w fun e w' => e = .returned (.tuple #[.agg #[.string ⟨#[42]⟩, .int .i64 8, .bool true, .func (.func 72) #[] #[]], .bool true]) ∧ Below w.heap.size w w' := by
  go_enter Tryd.func44, Tryd.ntmps44
  go_wp2
  exact bodyPost_ret (v := .tuple #[.agg #[.string ⟨#[42]⟩, .int .i64 8, .bool true, .func (.func 72) #[] #[]], .bool true]) (by simp [results, Tryd.results44, go_sem]) rfl ⟨rfl, by go_grown⟩
theorem pairOf_4 (w : World) :
    Calls Tryd.prog 44 #[.int .i64 4] w fun e w' => e = .returned (.tuple #[.agg #[.string ⟨#[47]⟩, .int .i64 8, .bool false, .func (.func 73) #[] #[]], .bool true]) ∧ Below w.heap.size w w' := by
  go_enter Tryd.func44, Tryd.ntmps44
  go_wp2
  exact bodyPost_ret (v := .tuple #[.agg #[.string ⟨#[47]⟩, .int .i64 8, .bool false, .func (.func 73) #[] #[]], .bool true]) (by simp [results, Tryd.results44, go_sem]) rfl ⟨rfl, by go_grown⟩
theorem pairOf_5 (w : World) :
    Calls Tryd.prog 44 #[.int .i64 5] w fun e w' => e = .returned (.tuple #[.agg #[.string ⟨#[37]⟩, .int .i64 8, .bool false, .func (.func 74) #[] #[]], .bool true]) ∧ Below w.heap.size w w' := by
  go_enter Tryd.func44, Tryd.ntmps44
  go_wp2
  exact bodyPost_ret (v := .tuple #[.agg #[.string ⟨#[37]⟩, .int .i64 8, .bool false, .func (.func 74) #[] #[]], .bool true]) (by simp [results, Tryd.results44, go_sem]) rfl ⟨rfl, by go_grown⟩
theorem pairOf_6 (w : World) :
    Calls Tryd.prog 44 #[.int .i64 6] w fun e w' => e = .returned (.tuple #[.agg #[.string ⟨#[38]⟩, .int .i64 3, .bool true, .func (.func 60) #[] #[]], .bool true]) ∧ Below w.heap.size w w' := by
  go_enter Tryd.func44, Tryd.ntmps44
  go_wp2
  exact bodyPost_ret (v := .tuple #[.agg #[.string ⟨#[38]⟩, .int .i64 3, .bool true, .func (.func 60) #[] #[]], .bool true]) (by simp [results, Tryd.results44, go_sem]) rfl ⟨rfl, by go_grown⟩
theorem pairOf_7 (w : World) :
    Calls Tryd.prog 44 #[.int .i64 7] w fun e w' => e = .returned (.tuple #[.agg #[.string ⟨#[124]⟩, .int .i64 1, .bool true, .func (.func 58) #[] #[]], .bool true]) ∧ Below w.heap.size w w' := by
  go_enter Tryd.func44, Tryd.ntmps44
  go_wp2
  exact bodyPost_ret (v := .tuple #[.agg #[.string ⟨#[124]⟩, .int .i64 1, .bool true, .func (.func 58) #[] #[]], .bool true]) (by simp [results, Tryd.results44, go_sem]) rfl ⟨rfl, by go_grown⟩
theorem pairOf_8 (w : World) :
    Calls Tryd.prog 44 #[.int .i64 8] w fun e w' => e = .returned (.tuple #[.agg #[.string ⟨#[94]⟩, .int .i64 2, .bool true, .func (.func 59) #[] #[]], .bool true]) ∧ Below w.heap.size w w' := by
  go_enter Tryd.func44, Tryd.ntmps44
  go_wp2
  exact bodyPost_ret (v := .tuple #[.agg #[.string ⟨#[94]⟩, .int .i64 2, .bool true, .func (.func 59) #[] #[]], .bool true]) (by simp [results, Tryd.results44, go_sem]) rfl ⟨rfl, by go_grown⟩
theorem pairOf_9 (w : World) :
    Calls Tryd.prog 44 #[.int .i64 9] w fun e w' => e = .returned (.tuple #[.agg #[.string ⟨#[60, 60]⟩, .int .i64 6, .bool true, .func (.func 68) #[] #[]], .bool true]) ∧ Below w.heap.size w w' := by
  go_enter Tryd.func44, Tryd.ntmps44
  go_wp2
  exact bodyPost_ret (v := .tuple #[.agg #[.string ⟨#[60, 60]⟩, .int .i64 6, .bool true, .func (.func 68) #[] #[]], .bool true]) (by simp [results, Tryd.results44, go_sem]) rfl ⟨rfl, by go_grown⟩
theorem pairOf_10 (w : World) :
    Calls Tryd.prog 44 #[.int .i64 10] w fun e w' => e = .returned (.tuple #[.agg #[.string ⟨#[62, 62]⟩, .int .i64 6, .bool true, .func (.func 69) #[] #[]], .bool true]) ∧ Below w.heap.size w w' := by
  go_enter Tryd.func44, Tryd.ntmps44
  go_wp2
  exact bodyPost_ret (v := .tuple #[.agg #[.string ⟨#[62, 62]⟩, .int .i64 6, .bool true, .func (.func 69) #[] #[]], .bool true]) (by simp [results, Tryd.results44, go_sem]) rfl ⟨rfl, by go_grown⟩
theorem pairOf_11 (w : World) :
    Calls Tryd.prog 44 #[.int .i64 11] w fun e w' => e = .returned (.tuple #[.agg #[.string ⟨#[60]⟩, .int .i64 5, .bool true, .func (.func 64) #[] #[]], .bool true]) ∧ Below w.heap.size w w' := by
  go_enter Tryd.func44, Tryd.ntmps44
  go_wp2
  exact bodyPost_ret (v := .tuple #[.agg #[.string ⟨#[60]⟩, .int .i64 5, .bool true, .func (.func 64) #[] #[]], .bool true]) (by simp [results, Tryd.results44, go_sem]) rfl ⟨rfl, by go_grown⟩
theorem pairOf_12 (w : World) :
    Calls Tryd.prog 44 #[.int .i64 12] w fun e w' => e = .returned (.tuple #[.agg #[.string ⟨#[60, 61]⟩, .int .i64 5, .bool true, .func (.func 65) #[] #[]], .bool true]) ∧ Below w.heap.size w w' := by
  go_enter Tryd.func44, Tryd.ntmps44
  go_wp2
  exact bodyPost_ret (v := .tuple #[.agg #[.string ⟨#[60, 61]⟩, .int .i64 5, .bool true, .func (.func 65) #[] #[]], .bool true]) (by simp [results, Tryd.results44, go_sem]) rfl ⟨rfl, by go_grown⟩
theorem pairOf_13 (w : World) :
    Calls Tryd.prog 44 #[.int .i64 13] w fun e w' => e = .returned (.tuple #[.agg #[.string ⟨#[62]⟩, .int .i64 5, .bool true, .func (.func 66) #[] #[]], .bool true]) ∧ Below w.heap.size w w' := by
  go_enter Tryd.func44, Tryd.ntmps44
  go_wp2
  exact bodyPost_ret (v := .tuple #[.agg #[.string ⟨#[62]⟩, .int .i64 5, .bool true, .func (.func 66) #[] #[]], .bool true]) (by simp [results, Tryd.results44, go_sem]) rfl ⟨rfl, by go_grown⟩
theorem pairOf_14 (w : World) :
    Calls Tryd.prog 44 #[.int .i64 14] w fun e w' => e = .returned (.tuple #[.agg #[.string ⟨#[62, 61]⟩, .int .i64 5, .bool true, .func (.func 67) #[] #[]], .bool true]) ∧ Below w.heap.size w w' := by
  go_enter Tryd.func44, Tryd.ntmps44
  go_wp2
  exact bodyPost_ret (v := .tuple #[.agg #[.string ⟨#[62, 61]⟩, .int .i64 5, .bool true, .func (.func 67) #[] #[]], .bool true]) (by simp [results, Tryd.results44, go_sem]) rfl ⟨rfl, by go_grown⟩
theorem pairOf_15 (w : World) :
    Calls Tryd.prog 44 #[.int .i64 15] w fun e w' => e = .returned (.tuple #[.agg #[.string ⟨#[61, 61]⟩, .int .i64 4, .bool true, .func (.func 61) #[] #[]], .bool true]) ∧ Below w.heap.size w w' := by
  go_enter Tryd.func44, Tryd.ntmps44
  go_wp2
  exact bodyPost_ret (v := .tuple #[.agg #[.string ⟨#[61, 61]⟩, .int .i64 4, .bool true, .func (.func 61) #[] #[]], .bool true]) (by simp [results, Tryd.results44, go_sem]) rfl ⟨rfl, by go_grown⟩
theorem pairOf_16 (w : World) :
    Calls Tryd.prog 44 #[.int .i64 16] w fun e w' => e = .returned (.tuple #[.agg #[.string ⟨#[33, 61]⟩, .int .i64 4, .bool true, .func (.func 63) #[] #[]], .bool true]) ∧ Below w.heap.size w w' := by
  go_enter Tryd.func44, Tryd.ntmps44
  go_wp2
  exact bodyPost_ret (v := .tuple #[.agg #[.string ⟨#[33, 61]⟩, .int .i64 4, .bool true, .func (.func 63) #[] #[]], .bool true]) (by simp [results, Tryd.results44, go_sem]) rfl ⟨rfl, by go_grown⟩
theorem pairOf_no (op : Int) (w : World) (h : op < 1 ∨ 16 < op) :
    Calls Tryd.prog 44 #[.int .i64 op] w fun e w' => e = .returned (.tuple #[.agg #[.string ⟨#[]⟩, .int .i64 0, .bool false, .nilFunc], .bool false]) ∧ Below w.heap.size w w' := by
  rcases h with h | h
  all_goals
    go_enter Tryd.func44, Tryd.ntmps44
    go_wp2
    exact bodyPost_ret (v := .tuple #[.agg #[.string ⟨#[]⟩, .int .i64 0, .bool false, .nilFunc], .bool false]) (by simp [results, Tryd.results44, go_sem]) rfl ⟨rfl, by go_grown⟩
theorem singleOf_17 (w : World) :
    Calls Tryd.prog 45 #[.int .i64 17] w fun e w' => e = .returned (.tuple #[.agg #[.string ⟨#[45]⟩, .func (.func 75) #[] #[]], .bool true]) ∧ Below w.heap.size w w' := by
  go_enter Tryd.func45, Tryd.ntmps45
  go_wp2
  exact bodyPost_ret (v := .tuple #[.agg #[.string ⟨#[45]⟩, .func (.func 75) #[] #[]], .bool true]) (by simp [results, Tryd.results45, go_sem]) rfl ⟨rfl, by go_grown⟩
theorem singleOf_18 (w : World) :
    Calls Tryd.prog 45 #[.int .i64 18] w fun e w' => e = .returned (.tuple #[.agg #[.string ⟨#[33]⟩, .func (.func 76) #[] #[]], .bool true]) ∧ Below w.heap.size w w' := by
  go_enter Tryd.func45, Tryd.ntmps45
  go_wp2
  exact bodyPost_ret (v := .tuple #[.agg #[.string ⟨#[33]⟩, .func (.func 76) #[] #[]], .bool true]) (by simp [results, Tryd.results45, go_sem]) rfl ⟨rfl, by go_grown⟩
theorem singleOf_19 (w : World) :
    Calls Tryd.prog 45 #[.int .i64 19] w fun e w' => e = .returned (.tuple #[.agg #[.string ⟨#[126]⟩, .func (.func 77) #[] #[]], .bool true]) ∧ Below w.heap.size w w' := by
  go_enter Tryd.func45, Tryd.ntmps45
  go_wp2
  exact bodyPost_ret (v := .tuple #[.agg #[.string ⟨#[126]⟩, .func (.func 77) #[] #[]], .bool true]) (by simp [results, Tryd.results45, go_sem]) rfl ⟨rfl, by go_grown⟩
theorem singleOf_no (op : Int) (w : World) (h : op < 17 ∨ 19 < op) :
    Calls Tryd.prog 45 #[.int .i64 op] w fun e w' => e = .returned (.tuple #[.agg #[.string ⟨#[]⟩, .nilFunc], .bool false]) ∧ Below w.heap.size w w' := by
  rcases h with h | h
  all_goals
    go_enter Tryd.func45, Tryd.ntmps45
    go_wp2
    exact bodyPost_ret (v := .tuple #[.agg #[.string ⟨#[]⟩, .nilFunc], .bool false]) (by simp [results, Tryd.results45, go_sem]) rfl ⟨rfl, by go_grown⟩
theorem one_17 (a : Int) (w : World) :
    Calls Tryd.prog 83 #[.int .i64 17, .int .i64 a] w fun e w' => e = .returned (.tuple #[.int .i64 (wrap64 (-a)), .bool true]) ∧ Below w.heap.size w w' := by
  go_enter Tryd.func83, Tryd.ntmps83
  go_wp2_with (first | (go_at_call 45; refine (singleOf_17 _).mono ?_; rintro e w' ⟨rfl, hg⟩) | (go_at_call 62; refine (bit_any _ _).mono ?_; rintro e w' ⟨rfl, rfl⟩) | go_in)
  go_ret2
  exact ⟨rfl, by have hz := hg.size; go_grown⟩
theorem one_18 (a : Int) (w : World) :
    Calls Tryd.prog 83 #[.int .i64 18, .int .i64 a] w fun e w' => e = .returned (.tuple #[.int .i64 (bi (a == 0)), .bool true]) ∧ Below w.heap.size w w' := by
  go_enter Tryd.func83, Tryd.ntmps83
  go_wp2_with (first | (go_at_call 45; refine (singleOf_18 _).mono ?_; rintro e w' ⟨rfl, hg⟩) | (go_at_call 62; refine (bit_any _ _).mono ?_; rintro e w' ⟨rfl, rfl⟩) | go_in)
  go_ret2
  exact ⟨rfl, by have hz := hg.size; go_grown⟩
theorem one_19 (a : Int) (w : World) :
    Calls Tryd.prog 83 #[.int .i64 19, .int .i64 a] w fun e w' => e = .returned (.tuple #[.int .i64 (bits .xor .i64 (-1) a), .bool true]) ∧ Below w.heap.size w w' := by
  go_enter Tryd.func83, Tryd.ntmps83
  go_wp2_with (first | (go_at_call 45; refine (singleOf_19 _).mono ?_; rintro e w' ⟨rfl, hg⟩) | (go_at_call 62; refine (bit_any _ _).mono ?_; rintro e w' ⟨rfl, rfl⟩) | go_in)
  go_ret2
  exact ⟨rfl, by have hz := hg.size; go_grown⟩
theorem one_no (op a : Int) (w : World) (h : op < 17 ∨ 19 < op) :
    Calls Tryd.prog 83 #[.int .i64 op, .int .i64 a] w fun e w' => e = .returned (.tuple #[.int .i64 0, .bool false]) ∧ Below w.heap.size w w' := by
  have H := Lib.hid h; clear h
  go_enter Tryd.func83, Tryd.ntmps83
  go_wp2_with (go_at_call 45; refine (singleOf_no _ _ H.out).mono ?_; rintro e w' ⟨rfl, hg⟩)
  go_ret2
  exact ⟨rfl, by have hz := hg.size; go_grown⟩
theorem sign_1 (w : World) :
    Calls Tryd.prog 36 #[.int .i64 1] w fun e w' => e = .returned (.tuple #[.string ⟨#[43]⟩, .bool true]) ∧ Below w.heap.size w w' := by
  go_enter Tryd.func36, Tryd.ntmps36
  go_wp2_with (first | (go_at_call 44; refine (pairOf_1 _).mono ?_; rintro e w' ⟨rfl, hg⟩))
  go_ret2
  exact ⟨rfl, ext_alloc hg _⟩
theorem sign_2 (w : World) :
    Calls Tryd.prog 36 #[.int .i64 2] w fun e w' => e = .returned (.tuple #[.string ⟨#[45]⟩, .bool true]) ∧ Below w.heap.size w w' := by
  go_enter Tryd.func36, Tryd.ntmps36
  go_wp2_with (first | (go_at_call 44; refine (pairOf_2 _).mono ?_; rintro e w' ⟨rfl, hg⟩))
  go_ret2
  exact ⟨rfl, ext_alloc hg _⟩
theorem sign_3 (w : World) :
    Calls Tryd.prog 36 #[.int .i64 3] w fun e w' => e = .returned (.tuple #[.string ⟨#[42]⟩, .bool true]) ∧ Below w.heap.size w w' := by
  go_enter Tryd.func36, Tryd.ntmps36
  go_wp2_with (first | (go_at_call 44; refine (pairOf_3 _).mono ?_; rintro e w' ⟨rfl, hg⟩))
  go_ret2
  exact ⟨rfl, ext_alloc hg _⟩
theorem sign_4 (w : World) :
    Calls Tryd.prog 36 #[.int .i64 4] w fun e w' => e = .returned (.tuple #[.string ⟨#[47]⟩, .bool true]) ∧ Below w.heap.size w w' := by
  go_enter Tryd.func36, Tryd.ntmps36
  go_wp2_with (first | (go_at_call 44; refine (pairOf_4 _).mono ?_; rintro e w' ⟨rfl, hg⟩))
  go_ret2
  exact ⟨rfl, ext_alloc hg _⟩
theorem sign_5 (w : World) :
    Calls Tryd.prog 36 #[.int .i64 5] w fun e w' => e = .returned (.tuple #[.string ⟨#[37]⟩, .bool true]) ∧ Below w.heap.size w w' := by
  go_enter Tryd.func36, Tryd.ntmps36
  go_wp2_with (first | (go_at_call 44; refine (pairOf_5 _).mono ?_; rintro e w' ⟨rfl, hg⟩))
  go_ret2
  exact ⟨rfl, ext_alloc hg _⟩
theorem sign_6 (w : World) :
    Calls Tryd.prog 36 #[.int .i64 6] w fun e w' => e = .returned (.tuple #[.string ⟨#[38]⟩, .bool true]) ∧ Below w.heap.size w w' := by
  go_enter Tryd.func36, Tryd.ntmps36
  go_wp2_with (first | (go_at_call 44; refine (pairOf_6 _).mono ?_; rintro e w' ⟨rfl, hg⟩))
  go_ret2
  exact ⟨rfl, ext_alloc hg _⟩
theorem sign_7 (w : World) :
    Calls Tryd.prog 36 #[.int .i64 7] w fun e w' => e = .returned (.tuple #[.string ⟨#[124]⟩, .bool true]) ∧ Below w.heap.size w w' := by
  go_enter Tryd.func36, Tryd.ntmps36
  go_wp2_with (first | (go_at_call 44; refine (pairOf_7 _).mono ?_; rintro e w' ⟨rfl, hg⟩))
  go_ret2
  exact ⟨rfl, ext_alloc hg _⟩
theorem sign_8 (w : World) :
    Calls Tryd.prog 36 #[.int .i64 8] w fun e w' => e = .returned (.tuple #[.string ⟨#[94]⟩, .bool true]) ∧ Below w.heap.size w w' := by
  go_enter Tryd.func36, Tryd.ntmps36
  go_wp2_with (first | (go_at_call 44; refine (pairOf_8 _).mono ?_; rintro e w' ⟨rfl, hg⟩))
  go_ret2
  exact ⟨rfl, ext_alloc hg _⟩
theorem sign_9 (w : World) :
    Calls Tryd.prog 36 #[.int .i64 9] w fun e w' => e = .returned (.tuple #[.string ⟨#[60, 60]⟩, .bool true]) ∧ Below w.heap.size w w' := by
  go_enter Tryd.func36, Tryd.ntmps36
  go_wp2_with (first | (go_at_call 44; refine (pairOf_9 _).mono ?_; rintro e w' ⟨rfl, hg⟩))
  go_ret2
  exact ⟨rfl, ext_alloc hg _⟩
theorem sign_10 (w : World) :
    Calls Tryd.prog 36 #[.int .i64 10] w fun e w' => e = .returned (.tuple #[.string ⟨#[62, 62]⟩, .bool true]) ∧ Below w.heap.size w w' := by
  go_enter Tryd.func36, Tryd.ntmps36
  go_wp2_with (first | (go_at_call 44; refine (pairOf_10 _).mono ?_; rintro e w' ⟨rfl, hg⟩))
  go_ret2
  exact ⟨rfl, ext_alloc hg _⟩
theorem sign_11 (w : World) :
    Calls Tryd.prog 36 #[.int .i64 11] w fun e w' => e = .returned (.tuple #[.string ⟨#[60]⟩, .bool true]) ∧ Below w.heap.size w w' := by
  go_enter Tryd.func36, Tryd.ntmps36
  go_wp2_with (first | (go_at_call 44; refine (pairOf_11 _).mono ?_; rintro e w' ⟨rfl, hg⟩))
  go_ret2
  exact ⟨rfl, ext_alloc hg _⟩
theorem sign_12 (w : World) :
    Calls Tryd.prog 36 #[.int .i64 12] w fun e w' => e = .returned (.tuple #[.string ⟨#[60, 61]⟩, .bool true]) ∧ Below w.heap.size w w' := by
  go_enter Tryd.func36, Tryd.ntmps36
  go_wp2_with (first | (go_at_call 44; refine (pairOf_12 _).mono ?_; rintro e w' ⟨rfl, hg⟩))
  go_ret2
  exact ⟨rfl, ext_alloc hg _⟩
theorem sign_13 (w : World) :
    Calls Tryd.prog 36 #[.int .i64 13] w fun e w' => e = .returned (.tuple #[.string ⟨#[62]⟩, .bool true]) ∧ Below w.heap.size w w' := by
  go_enter Tryd.func36, Tryd.ntmps36
  go_wp2_with (first | (go_at_call 44; refine (pairOf_13 _).mono ?_; rintro e w' ⟨rfl, hg⟩))
  go_ret2
  exact ⟨rfl, ext_alloc hg _⟩
theorem sign_14 (w : World) :
    Calls Tryd.prog 36 #[.int .i64 14] w fun e w' => e = .returned (.tuple #[.string ⟨#[62, 61]⟩, .bool true]) ∧ Below w.heap.size w w' := by
  go_enter Tryd.func36, Tryd.ntmps36
  go_wp2_with (first | (go_at_call 44; refine (pairOf_14 _).mono ?_; rintro e w' ⟨rfl, hg⟩))
  go_ret2
  exact ⟨rfl, ext_alloc hg _⟩
theorem sign_15 (w : World) :
    Calls Tryd.prog 36 #[.int .i64 15] w fun e w' => e = .returned (.tuple #[.string ⟨#[61, 61]⟩, .bool true]) ∧ Below w.heap.size w w' := by
  go_enter Tryd.func36, Tryd.ntmps36
  go_wp2_with (first | (go_at_call 44; refine (pairOf_15 _).mono ?_; rintro e w' ⟨rfl, hg⟩))
  go_ret2
  exact ⟨rfl, ext_alloc hg _⟩
theorem sign_16 (w : World) :
    Calls Tryd.prog 36 #[.int .i64 16] w fun e w' => e = .returned (.tuple #[.string ⟨#[33, 61]⟩, .bool true]) ∧ Below w.heap.size w w' := by
  go_enter Tryd.func36, Tryd.ntmps36
  go_wp2_with (first | (go_at_call 44; refine (pairOf_16 _).mono ?_; rintro e w' ⟨rfl, hg⟩))
  go_ret2
  exact ⟨rfl, ext_alloc hg _⟩
theorem sign_17 (w : World) :
    Calls Tryd.prog 36 #[.int .i64 17] w fun e w' => e = .returned (.tuple #[.string ⟨#[45]⟩, .bool true]) ∧ Below w.heap.size w w' := by
  go_enter Tryd.func36, Tryd.ntmps36
  go_wp2_with (first | (go_at_call 44; refine (pairOf_no _ _ (by omega)).mono ?_; rintro e w' ⟨rfl, hg⟩) | (go_at_call 45; refine (singleOf_17 _).mono ?_; rintro e w' ⟨rfl, hg2⟩))
  go_ret2
  exact ⟨rfl, ext_alloc (ext_trans (ext_alloc hg _) hg2) _⟩
theorem sign_18 (w : World) :
    Calls Tryd.prog 36 #[.int .i64 18] w fun e w' => e = .returned (.tuple #[.string ⟨#[33]⟩, .bool true]) ∧ Below w.heap.size w w' := by
  go_enter Tryd.func36, Tryd.ntmps36
  go_wp2_with (first | (go_at_call 44; refine (pairOf_no _ _ (by omega)).mono ?_; rintro e w' ⟨rfl, hg⟩) | (go_at_call 45; refine (singleOf_18 _).mono ?_; rintro e w' ⟨rfl, hg2⟩))
  go_ret2
  exact ⟨rfl, ext_alloc (ext_trans (ext_alloc hg _) hg2) _⟩
theorem sign_19 (w : World) :
    Calls Tryd.prog 36 #[.int .i64 19] w fun e w' => e = .returned (.tuple #[.string ⟨#[126]⟩, .bool true]) ∧ Below w.heap.size w w' := by
  go_enter Tryd.func36, Tryd.ntmps36
  go_wp2_with (first | (go_at_call 44; refine (pairOf_no _ _ (by omega)).mono ?_; rintro e w' ⟨rfl, hg⟩) | (go_at_call 45; refine (singleOf_19 _).mono ?_; rintro e w' ⟨rfl, hg2⟩))
  go_ret2
  exact ⟨rfl, ext_alloc (ext_trans (ext_alloc hg _) hg2) _⟩
theorem sign_no (op : Int) (w : World) (h : op < 1 ∨ 19 < op) :
    Calls Tryd.prog 36 #[.int .i64 op] w fun e w' => e = .returned (.tuple #[.string ⟨#[]⟩, .bool false]) ∧ Below w.heap.size w w' := by
  have h1 : op < 1 ∨ 16 < op := by omega
  have h2 : op < 17 ∨ 19 < op := by omega
  have H1 := Lib.hid h1; clear h1
  have H2 := Lib.hid h2; clear h2
  clear h
  go_enter Tryd.func36, Tryd.ntmps36
  go_wp2_with (first | (go_at_call 44; refine (pairOf_no _ _ H1.out).mono ?_; rintro e w' ⟨rfl, hg⟩) | (go_at_call 45; refine (singleOf_no _ _ H2.out).mono ?_; rintro e w' ⟨rfl, hg2⟩))
  go_ret2
  exact ⟨rfl, ext_alloc (ext_trans (ext_alloc hg _) hg2) _⟩
theorem level_1 (w : World) :
    Calls Tryd.prog 84 #[.int .i64 1] w fun e w' => e = .returned (.int .i64 7) ∧ Below w.heap.size w w' := by
  go_enter Tryd.func84, Tryd.ntmps84
  go_wp2_with (go_at_call 44; refine (pairOf_1 _).mono ?_; rintro e w' ⟨rfl, hg⟩)
  go_ret
  exact ⟨rfl, by have hz := hg.size; go_grown⟩
theorem level_2 (w : World) :
    Calls Tryd.prog 84 #[.int .i64 2] w fun e w' => e = .returned (.int .i64 7) ∧ Below w.heap.size w w' := by
  go_enter Tryd.func84, Tryd.ntmps84
  go_wp2_with (go_at_call 44; refine (pairOf_2 _).mono ?_; rintro e w' ⟨rfl, hg⟩)
  go_ret
  exact ⟨rfl, by have hz := hg.size; go_grown⟩
theorem level_3 (w : World) :
    Calls Tryd.prog 84 #[.int .i64 3] w fun e w' => e = .returned (.int .i64 8) ∧ Below w.heap.size w w' := by
  go_enter Tryd.func84, Tryd.ntmps84
  go_wp2_with (go_at_call 44; refine (pairOf_3 _).mono ?_; rintro e w' ⟨rfl, hg⟩)
  go_ret
  exact ⟨rfl, by have hz := hg.size; go_grown⟩
theorem level_4 (w : World) :
    Calls Tryd.prog 84 #[.int .i64 4] w fun e w' => e = .returned (.int .i64 8) ∧ Below w.heap.size w w' := by
  go_enter Tryd.func84, Tryd.ntmps84
  go_wp2_with (go_at_call 44; refine (pairOf_4 _).mono ?_; rintro e w' ⟨rfl, hg⟩)
  go_ret
  exact ⟨rfl, by have hz := hg.size; go_grown⟩
theorem level_5 (w : World) :
    Calls Tryd.prog 84 #[.int .i64 5] w fun e w' => e = .returned (.int .i64 8) ∧ Below w.heap.size w w' := by
  go_enter Tryd.func84, Tryd.ntmps84
  go_wp2_with (go_at_call 44; refine (pairOf_5 _).mono ?_; rintro e w' ⟨rfl, hg⟩)
  go_ret
  exact ⟨rfl, by have hz := hg.size; go_grown⟩
theorem level_6 (w : World) :
    Calls Tryd.prog 84 #[.int .i64 6] w fun e w' => e = .returned (.int .i64 3) ∧ Below w.heap.size w w' := by
  go_enter Tryd.func84, Tryd.ntmps84
  go_wp2_with (go_at_call 44; refine (pairOf_6 _).mono ?_; rintro e w' ⟨rfl, hg⟩)
  go_ret
  exact ⟨rfl, by have hz := hg.size; go_grown⟩
theorem level_7 (w : World) :
    Calls Tryd.prog 84 #[.int .i64 7] w fun e w' => e = .returned (.int .i64 1) ∧ Below w.heap.size w w' := by
  go_enter Tryd.func84, Tryd.ntmps84
  go_wp2_with (go_at_call 44; refine (pairOf_7 _).mono ?_; rintro e w' ⟨rfl, hg⟩)
  go_ret
  exact ⟨rfl, by have hz := hg.size; go_grown⟩
theorem level_8 (w : World) :
    Calls Tryd.prog 84 #[.int .i64 8] w fun e w' => e = .returned (.int .i64 2) ∧ Below w.heap.size w w' := by
  go_enter Tryd.func84, Tryd.ntmps84
  go_wp2_with (go_at_call 44; refine (pairOf_8 _).mono ?_; rintro e w' ⟨rfl, hg⟩)
  go_ret
  exact ⟨rfl, by have hz := hg.size; go_grown⟩
theorem level_9 (w : World) :
    Calls Tryd.prog 84 #[.int .i64 9] w fun e w' => e = .returned (.int .i64 6) ∧ Below w.heap.size w w' := by
  go_enter Tryd.func84, Tryd.ntmps84
  go_wp2_with (go_at_call 44; refine (pairOf_9 _).mono ?_; rintro e w' ⟨rfl, hg⟩)
  go_ret
  exact ⟨rfl, by have hz := hg.size; go_grown⟩
theorem level_10 (w : World) :
    Calls Tryd.prog 84 #[.int .i64 10] w fun e w' => e = .returned (.int .i64 6) ∧ Below w.heap.size w w' := by
  go_enter Tryd.func84, Tryd.ntmps84
  go_wp2_with (go_at_call 44; refine (pairOf_10 _).mono ?_; rintro e w' ⟨rfl, hg⟩)
  go_ret
  exact ⟨rfl, by have hz := hg.size; go_grown⟩
theorem level_11 (w : World) :
    Calls Tryd.prog 84 #[.int .i64 11] w fun e w' => e = .returned (.int .i64 5) ∧ Below w.heap.size w w' := by
  go_enter Tryd.func84, Tryd.ntmps84
  go_wp2_with (go_at_call 44; refine (pairOf_11 _).mono ?_; rintro e w' ⟨rfl, hg⟩)
  go_ret
  exact ⟨rfl, by have hz := hg.size; go_grown⟩
theorem level_12 (w : World) :
    Calls Tryd.prog 84 #[.int .i64 12] w fun e w' => e = .returned (.int .i64 5) ∧ Below w.heap.size w w' := by
  go_enter Tryd.func84, Tryd.ntmps84
  go_wp2_with (go_at_call 44; refine (pairOf_12 _).mono ?_; rintro e w' ⟨rfl, hg⟩)
  go_ret
  exact ⟨rfl, by have hz := hg.size; go_grown⟩
theorem level_13 (w : World) :
    Calls Tryd.prog 84 #[.int .i64 13] w fun e w' => e = .returned (.int .i64 5) ∧ Below w.heap.size w w' := by
  go_enter Tryd.func84, Tryd.ntmps84
  go_wp2_with (go_at_call 44; refine (pairOf_13 _).mono ?_; rintro e w' ⟨rfl, hg⟩)
  go_ret
  exact ⟨rfl, by have hz := hg.size; go_grown⟩
theorem level_14 (w : World) :
    Calls Tryd.prog 84 #[.int .i64 14] w fun e w' => e = .returned (.int .i64 5) ∧ Below w.heap.size w w' := by
  go_enter Tryd.func84, Tryd.ntmps84
  go_wp2_with (go_at_call 44; refine (pairOf_14 _).mono ?_; rintro e w' ⟨rfl, hg⟩)
  go_ret
  exact ⟨rfl, by have hz := hg.size; go_grown⟩
theorem level_15 (w : World) :
    Calls Tryd.prog 84 #[.int .i64 15] w fun e w' => e = .returned (.int .i64 4) ∧ Below w.heap.size w w' := by
  go_enter Tryd.func84, Tryd.ntmps84
  go_wp2_with (go_at_call 44; refine (pairOf_15 _).mono ?_; rintro e w' ⟨rfl, hg⟩)
  go_ret
  exact ⟨rfl, by have hz := hg.size; go_grown⟩
theorem level_16 (w : World) :
    Calls Tryd.prog 84 #[.int .i64 16] w fun e w' => e = .returned (.int .i64 4) ∧ Below w.heap.size w w' := by
  go_enter Tryd.func84, Tryd.ntmps84
  go_wp2_with (go_at_call 44; refine (pairOf_16 _).mono ?_; rintro e w' ⟨rfl, hg⟩)
  go_ret
  exact ⟨rfl, by have hz := hg.size; go_grown⟩
theorem level_no (op : Int) (w : World) (h : op < 1 ∨ 16 < op) :
    Calls Tryd.prog 84 #[.int .i64 op] w fun e w' => e = .returned (.int .i64 0) ∧ Below w.heap.size w w' := by
  have H := Lib.hid h; clear h
  go_enter Tryd.func84, Tryd.ntmps84
  go_wp2_with (go_at_call 44; refine (pairOf_no _ _ H.out).mono ?_; rintro e w' ⟨rfl, hg⟩)
  go_ret
  exact ⟨rfl, by have hz := hg.size; go_grown⟩
theorem sixteen {k : Int} (h1 : 1 ≤ k) (h2 : k ≤ 16) : k = 1 ∨ k = 2 ∨ k = 3 ∨ k = 4 ∨ k = 5 ∨ k = 6 ∨ k = 7 ∨ k = 8 ∨ k = 9 ∨ k = 10 ∨ k = 11 ∨ k = 12 ∨ k = 13 ∨ k = 14 ∨ k = 15 ∨ k = 16 := by omega
theorem nineteen {k : Int} (h1 : 1 ≤ k) (h2 : k ≤ 19) : k = 1 ∨ k = 2 ∨ k = 3 ∨ k = 4 ∨ k = 5 ∨ k = 6 ∨ k = 7 ∨ k = 8 ∨ k = 9 ∨ k = 10 ∨ k = 11 ∨ k = 12 ∨ k = 13 ∨ k = 14 ∨ k = 15 ∨ k = 16 ∨ k = 17 ∨ k = 18 ∨ k = 19 := by omega
theorem oneV_no (op a : Int) (h : op < 17 ∨ 19 < op) : oneV op a = 0 := by
  unfold oneV; repeat rw [if_neg (by omega)]
theorem onB_no (op : Int) (h : op < 17 ∨ 19 < op) : onB op = false := by
  unfold onB; rw [decide_eq_false (by omega)]
def sgnA (k : Int) : ByteArray := if k = 1 then ⟨#[43]⟩ else if k = 2 then ⟨#[45]⟩ else if k = 3 then ⟨#[42]⟩ else if k = 4 then ⟨#[47]⟩ else if k = 5 then ⟨#[37]⟩ else if k = 6 then ⟨#[38]⟩ else if k = 7 then ⟨#[124]⟩ else if k = 8 then ⟨#[94]⟩ else if k = 9 then ⟨#[60, 60]⟩ else if k = 10 then ⟨#[62, 62]⟩ else if k = 11 then ⟨#[60]⟩ else if k = 12 then ⟨#[60, 61]⟩ else if k = 13 then ⟨#[62]⟩ else if k = 14 then ⟨#[62, 61]⟩ else if k = 15 then ⟨#[61, 61]⟩ else if k = 16 then ⟨#[33, 61]⟩ else if k = 17 then ⟨#[45]⟩ else if k = 18 then ⟨#[33]⟩ else if k = 19 then ⟨#[126]⟩ else ⟨#[]⟩
def levelL (k : Int) : Int := if k = 1 then 7 else if k = 2 then 7 else if k = 3 then 8 else if k = 4 then 8 else if k = 5 then 8 else if k = 6 then 3 else if k = 7 then 1 else if k = 8 then 2 else if k = 9 then 6 else if k = 10 then 6 else if k = 11 then 5 else if k = 12 then 5 else if k = 13 then 5 else if k = 14 then 5 else if k = 15 then 4 else if k = 16 then 4 else 0
theorem sgnA_no (op : Int) (h : op < 1 ∨ 19 < op) : sgnA op = ⟨#[]⟩ := by
  unfold sgnA; repeat rw [if_neg (by omega)]
theorem levelL_no (op : Int) (h : op < 1 ∨ 16 < op) : levelL op = 0 := by
  unfold levelL; repeat rw [if_neg (by omega)]
def signB (k : Int) : Bool := decide (1 ≤ k ∧ k ≤ 19)
theorem signB_no (op : Int) (h : op < 1 ∨ 19 < op) : signB op = false := by
  unfold signB; rw [decide_eq_false (by omega)]
theorem one_any (op a : Int) (w : World) :
    Calls Tryd.prog 83 #[.int .i64 op, .int .i64 a] w fun e w' => e = .returned (.tuple #[.int .i64 (oneV op a), .bool (onB op)]) ∧ Below w.heap.size w w' := by
  by_cases h : op < 17 ∨ 19 < op
  · rw [oneV_no op a h, onB_no op h]; exact one_no op a w h
  · rcases (show op = 17 ∨ op = 18 ∨ op = 19 by omega) with rfl | rfl | rfl
    · exact one_17 a w
    · exact one_18 a w
    · exact one_19 a w
theorem sign_any (op : Int) (w : World) :
    Calls Tryd.prog 36 #[.int .i64 op] w fun e w' => e = .returned (.tuple #[.string (sgnA op), .bool (signB op)]) ∧ Below w.heap.size w w' := by
  by_cases h : op < 1 ∨ 19 < op
  · rw [sgnA_no op h, signB_no op h]; exact sign_no op w h
  · rcases nineteen (k := op) (by omega) (by omega) with rfl | rfl | rfl | rfl | rfl | rfl | rfl | rfl | rfl | rfl | rfl | rfl | rfl | rfl | rfl | rfl | rfl | rfl | rfl
    · exact sign_1 w
    · exact sign_2 w
    · exact sign_3 w
    · exact sign_4 w
    · exact sign_5 w
    · exact sign_6 w
    · exact sign_7 w
    · exact sign_8 w
    · exact sign_9 w
    · exact sign_10 w
    · exact sign_11 w
    · exact sign_12 w
    · exact sign_13 w
    · exact sign_14 w
    · exact sign_15 w
    · exact sign_16 w
    · exact sign_17 w
    · exact sign_18 w
    · exact sign_19 w
theorem level_any (op : Int) (w : World) :
    Calls Tryd.prog 84 #[.int .i64 op] w fun e w' => e = .returned (.int .i64 (levelL op)) ∧ Below w.heap.size w w' := by
  by_cases h : op < 1 ∨ 16 < op
  · rw [levelL_no op h]; exact level_no op w h
  · rcases sixteen (k := op) (by omega) (by omega) with rfl | rfl | rfl | rfl | rfl | rfl | rfl | rfl | rfl | rfl | rfl | rfl | rfl | rfl | rfl | rfl
    · exact level_1 w
    · exact level_2 w
    · exact level_3 w
    · exact level_4 w
    · exact level_5 w
    · exact level_6 w
    · exact level_7 w
    · exact level_8 w
    · exact level_9 w
    · exact level_10 w
    · exact level_11 w
    · exact level_12 w
    · exact level_13 w
    · exact level_14 w
    · exact level_15 w
    · exact level_16 w
theorem sgn_mk (k : Int) : sgnA k = mk (signL k) := by
  by_cases h : k < 1 ∨ 19 < k
  · rw [sgnA_no k h]
    unfold signL
    repeat rw [if_neg (by omega)]
    rfl
  · rcases nineteen (k := k) (by omega) (by omega) with rfl | rfl | rfl | rfl | rfl | rfl | rfl | rfl | rfl | rfl | rfl | rfl | rfl | rfl | rfl | rfl | rfl | rfl | rfl <;> rfl
theorem lvl_pos (k : Int) : decide (0 < levelL k) = decide (1 ≤ k ∧ k ≤ 16) := by
  by_cases h : k < 1 ∨ 16 < k
  · rw [levelL_no k h, decide_eq_false (by omega), decide_eq_false (by omega)]
  · rcases sixteen (k := k) (by omega) (by omega) with rfl | rfl | rfl | rfl | rfl | rfl | rfl | rfl | rfl | rfl | rfl | rfl | rfl | rfl | rfl | rfl <;> rfl
end Go.Proofs.YtafapkljlajflaaDoor
