/- Plain words about what operators make of numbers of 64 bits; nothing of the program stands here. -/
import Derived.WalkKit
import Derived.Test.YtjimeengkfjihaaGreatDoorIn0
import Derived.Laws.BitsLemmas
import Derived.Deep.Draws
import Derived.Test.YtjimeengkfjihaaGreatDoorRows
import Derived.ProofKit
import Derived.OpenShut
import Derived.WalkLawsBesides
import Derived.WalkSpells
import Derived.Outline
import Derived.Handy
import Derived.Lib.Hide
import Derived.Laws.EntriesVeiled
namespace Go.Proofs.YtjimeengkfjihaaGreatDoor
open Go.RowKit
theorem i64_and63 (n : Int) : bits .and .i64 n 63 = n % 64 := by
  have h63 : (BitVec.ofInt 64 63).toNat = 2 ^ 6 - 1 := by decide
  have key : (BitVec.ofInt 64 n &&& BitVec.ofInt 64 63).toNat = (n % ((2 ^ 64 : Nat) : Int)).toNat % 2 ^ 6 := by
    rw [BitVec.toNat_and, BitVec.toNat_ofInt, h63, Nat.and_two_pow_sub_one_eq_mod]
  show IntKind.i64.wrap ((BitVec.ofInt 64 n &&& BitVec.ofInt 64 63).toNat : Nat) = n % 64
  rw [key, IntKind.wrap_i64]
  omega
def bi (c : Bool) : Int := if c then 1 else 0
/-- By how many bits a number moves. -/
def sh (b : Int) : Nat := (b % 64).toNat
def twoV (op a b : Int) : Int :=
  if op = 1 then wrap64 (a + b) else if op = 2 then wrap64 (a - b) else if op = 3 then wrap64 (a * b)
  else if op = 4 then (if b = 0 then 0 else wrap64 (a.tdiv b)) else if op = 5 then (if b = 0 then 0 else a.tmod b)
  else if op = 6 then bits .and .i64 a b else if op = 7 then bits .or .i64 a b else if op = 8 then bits .xor .i64 a b
  else if op = 9 then wrap64 (a * 2 ^ sh b) else if op = 10 then a / 2 ^ sh b
  else if op = 11 then bi (decide (a < b)) else if op = 12 then bi (decide (a ≤ b)) else if op = 13 then bi (decide (b < a)) else if op = 14 then bi (decide (b ≤ a))
  else if op = 15 then bi (a == b) else if op = 16 then bi (a != b) else 0
def twoB (op b : Int) : Bool := decide (1 ≤ op ∧ op ≤ 16) && !(decide (op = 4 ∨ op = 5) && decide (b = 0))
def oneV (op a : Int) : Int := if op = 17 then wrap64 (-a) else if op = 18 then bi (a == 0) else if op = 19 then bits .xor .i64 (-1) a else 0
def oneB (op : Int) : Bool := decide (17 ≤ op ∧ op ≤ 19)
def divV (a b : Int) : Int := if b = 0 then -1 else wrap64 (a.tdiv b)
def remV (a b : Int) : Int := if b = 0 then a else a.tmod b
def lessV (a b : Int) : Bool := decide (IntKind.u64.wrap a < IntKind.u64.wrap b)
end Go.Proofs.YtjimeengkfjihaaGreatDoor
/- What the tables of operators tell, by the program's own calls. -/
namespace Go.Proofs.YtjimeengkfjihaaGreatDoor
open Go.ChangeShapes Go.WideShapes Go.ChangeAt Go.RowKit
theorem bit_any (c : Bool) (w : World) : Calls Tryz.prog 67 #[.bool c] w fun e w' => e = .returned (.int .i64 (bi c)) ∧ w = w' := by
  cases c
  all_goals
    go_enter Tryz.func67, Tryz.ntmps67
    go_wp2
    go_ret
    exact ⟨rfl, rfl⟩
theorem div_any (a b : Int) (w : World) : Calls Tryz.prog 21 #[.int .i64 a, .int .i64 b] w fun e w' => e = .returned (.int .i64 (divV a b)) ∧ w = w' := by
  by_cases h : b = 0
  · subst h
    go_enter Tryz.func21, Tryz.ntmps21
    go_wp2
    go_ret
    exact ⟨rfl, rfl⟩
  · have e : divV a b = wrap64 (a.tdiv b) := by simp [divV, h]
    have E := Lib.hid e; clear e
    go_enter Tryz.func21, Tryz.ntmps21
    go_wp2
    go_ret
    exact ⟨by rw [E.out]; rfl, rfl⟩
theorem rem_any (a b : Int) (w : World) : Calls Tryz.prog 22 #[.int .i64 a, .int .i64 b] w fun e w' => e = .returned (.int .i64 (remV a b)) ∧ w = w' := by
  by_cases h : b = 0
  · subst h
    go_enter Tryz.func22, Tryz.ntmps22
    go_wp2
    go_ret
    exact ⟨rfl, rfl⟩
  · have e : remV a b = a.tmod b := by simp [remV, h]
    have E := Lib.hid e; clear e
    go_enter Tryz.func22, Tryz.ntmps22
    go_wp2
    go_ret
    exact ⟨by rw [E.out]; rfl, rfl⟩
theorem less_any (a b : Int) (w : World) : Calls Tryz.prog 23 #[.int .i64 a, .int .i64 b] w fun e w' => e = .returned (.bool (lessV a b)) ∧ w = w' := by
  go_enter Tryz.func23, Tryz.ntmps23
  go_wp2
  go_ret
  exact ⟨rfl, rfl⟩
end Go.Proofs.YtjimeengkfjihaaGreatDoor
/- What the tables of operators tell. -/
namespace Go.Proofs.YtjimeengkfjihaaGreatDoor
open Go.ChangeShapes Go.WideShapes Go.ChangeAt Go.RowKit
theorem pairOf_1 (w : World) :
    Calls Tryz.prog 40 #[.int .i64 1] w fun e w' => e = .returned (.tuple #[.agg #[.string ⟨#[43]⟩, .int .i64 7, .bool true, .func (.func 80) #[] #[]], .bool true]) ∧ Below w.heap.size w w' := by
  go_enter Tryz.func40, Tryz.ntmps40
  go_wp2
  exact bodyPost_ret (v := .tuple #[.agg #[.string ⟨#[43]⟩, .int .i64 7, .bool true, .func (.func 80) #[] #[]], .bool true]) (by simp [results, Tryz.results40, go_sem]) rfl ⟨rfl, by go_grown⟩
theorem pairOf_2 (w : World) :
    Calls Tryz.prog 40 #[.int .i64 2] w fun e w' => e = .returned (.tuple #[.agg #[.string ⟨#[45]⟩, .int .i64 7, .bool true, .func (.func 81) #[] #[]], .bool true]) ∧ Below w.heap.size w w' := by
  go_enter Tryz.func40, Tryz.ntmps40
  go_wp2
  exact bodyPost_ret (v := .tuple #[.agg #[.string ⟨#[45]⟩, .int .i64 7, .bool true, .func (.func 81) #[] #[]], .bool true]) (by simp [results, Tryz.results40, go_sem]) rfl ⟨rfl, by go_grown⟩
theorem pairOf_3 (w : World) :
    Calls Tryz.prog 40 #[.int .i64 3] w fun e w' => e = .returned (.tuple #[.agg #[.string ⟨#[42]⟩, .int .i64 8, .bool true, .func (.func 82) #[] #[]], .bool true]) ∧ Below w.heap.size w w' := by
  go_enter Tryz.func40, Tryz.ntmps40
  go_wp2
  exact bodyPost_ret (v := .tuple #[.agg #[.string ⟨#[42]⟩, .int .i64 8, .bool true, .func (.func 82) #[] #[]], .bool true]) (by simp [results, Tryz.results40, go_sem]) rfl ⟨rfl, by go_grown⟩
theorem pairOf_4 (w : World) :
    Calls Tryz.prog 40 #[.int .i64 4] w fun e w' => e = .returned (.tuple #[.agg #[.string ⟨#[47]⟩, .int .i64 8, .bool false, .func (.func 21) #[] #[]], .bool true]) ∧ Below w.heap.size w w' := by
  go_enter Tryz.func40, Tryz.ntmps40
  go_wp2
  exact bodyPost_ret (v := .tuple #[.agg #[.string ⟨#[47]⟩, .int .i64 8, .bool false, .func (.func 21) #[] #[]], .bool true]) (by simp [results, Tryz.results40, go_sem]) rfl ⟨rfl, by go_grown⟩
theorem pairOf_5 (w : World) :
    Calls Tryz.prog 40 #[.int .i64 5] w fun e w' => e = .returned (.tuple #[.agg #[.string ⟨#[37]⟩, .int .i64 8, .bool false, .func (.func 22) #[] #[]], .bool true]) ∧ Below w.heap.size w w' := by
  go_enter Tryz.func40, Tryz.ntmps40
  go_wp2
  exact bodyPost_ret (v := .tuple #[.agg #[.string ⟨#[37]⟩, .int .i64 8, .bool false, .func (.func 22) #[] #[]], .bool true]) (by simp [results, Tryz.results40, go_sem]) rfl ⟨rfl, by go_grown⟩
theorem pairOf_6 (w : World) :
    Calls Tryz.prog 40 #[.int .i64 6] w fun e w' => e = .returned (.tuple #[.agg #[.string ⟨#[38]⟩, .int .i64 3, .bool true, .func (.func 71) #[] #[]], .bool true]) ∧ Below w.heap.size w w' := by
  go_enter Tryz.func40, Tryz.ntmps40
  go_wp2
  exact bodyPost_ret (v := .tuple #[.agg #[.string ⟨#[38]⟩, .int .i64 3, .bool true, .func (.func 71) #[] #[]], .bool true]) (by simp [results, Tryz.results40, go_sem]) rfl ⟨rfl, by go_grown⟩
theorem pairOf_7 (w : World) :
    Calls Tryz.prog 40 #[.int .i64 7] w fun e w' => e = .returned (.tuple #[.agg #[.string ⟨#[124]⟩, .int .i64 1, .bool true, .func (.func 69) #[] #[]], .bool true]) ∧ Below w.heap.size w w' := by
  go_enter Tryz.func40, Tryz.ntmps40
  go_wp2
  exact bodyPost_ret (v := .tuple #[.agg #[.string ⟨#[124]⟩, .int .i64 1, .bool true, .func (.func 69) #[] #[]], .bool true]) (by simp [results, Tryz.results40, go_sem]) rfl ⟨rfl, by go_grown⟩
theorem pairOf_8 (w : World) :
    Calls Tryz.prog 40 #[.int .i64 8] w fun e w' => e = .returned (.tuple #[.agg #[.string ⟨#[94]⟩, .int .i64 2, .bool true, .func (.func 70) #[] #[]], .bool true]) ∧ Below w.heap.size w w' := by
  go_enter Tryz.func40, Tryz.ntmps40
  go_wp2
  exact bodyPost_ret (v := .tuple #[.agg #[.string ⟨#[94]⟩, .int .i64 2, .bool true, .func (.func 70) #[] #[]], .bool true]) (by simp [results, Tryz.results40, go_sem]) rfl ⟨rfl, by go_grown⟩
theorem pairOf_9 (w : World) :
    Calls Tryz.prog 40 #[.int .i64 9] w fun e w' => e = .returned (.tuple #[.agg #[.string ⟨#[60, 60]⟩, .int .i64 6, .bool true, .func (.func 78) #[] #[]], .bool true]) ∧ Below w.heap.size w w' := by
  go_enter Tryz.func40, Tryz.ntmps40
  go_wp2
  exact bodyPost_ret (v := .tuple #[.agg #[.string ⟨#[60, 60]⟩, .int .i64 6, .bool true, .func (.func 78) #[] #[]], .bool true]) (by simp [results, Tryz.results40, go_sem]) rfl ⟨rfl, by go_grown⟩
theorem pairOf_10 (w : World) :
    Calls Tryz.prog 40 #[.int .i64 10] w fun e w' => e = .returned (.tuple #[.agg #[.string ⟨#[62, 62]⟩, .int .i64 6, .bool true, .func (.func 79) #[] #[]], .bool true]) ∧ Below w.heap.size w w' := by
  go_enter Tryz.func40, Tryz.ntmps40
  go_wp2
  exact bodyPost_ret (v := .tuple #[.agg #[.string ⟨#[62, 62]⟩, .int .i64 6, .bool true, .func (.func 79) #[] #[]], .bool true]) (by simp [results, Tryz.results40, go_sem]) rfl ⟨rfl, by go_grown⟩
theorem pairOf_11 (w : World) :
    Calls Tryz.prog 40 #[.int .i64 11] w fun e w' => e = .returned (.tuple #[.agg #[.string ⟨#[60]⟩, .int .i64 5, .bool true, .func (.func 74) #[] #[]], .bool true]) ∧ Below w.heap.size w w' := by
  go_enter Tryz.func40, Tryz.ntmps40
  go_wp2
  exact bodyPost_ret (v := .tuple #[.agg #[.string ⟨#[60]⟩, .int .i64 5, .bool true, .func (.func 74) #[] #[]], .bool true]) (by simp [results, Tryz.results40, go_sem]) rfl ⟨rfl, by go_grown⟩
theorem pairOf_12 (w : World) :
    Calls Tryz.prog 40 #[.int .i64 12] w fun e w' => e = .returned (.tuple #[.agg #[.string ⟨#[60, 61]⟩, .int .i64 5, .bool true, .func (.func 75) #[] #[]], .bool true]) ∧ Below w.heap.size w w' := by
  go_enter Tryz.func40, Tryz.ntmps40
  go_wp2
  exact bodyPost_ret (v := .tuple #[.agg #[.string ⟨#[60, 61]⟩, .int .i64 5, .bool true, .func (.func 75) #[] #[]], .bool true]) (by simp [results, Tryz.results40, go_sem]) rfl ⟨rfl, by go_grown⟩
theorem pairOf_13 (w : World) :
    Calls Tryz.prog 40 #[.int .i64 13] w fun e w' => e = .returned (.tuple #[.agg #[.string ⟨#[62]⟩, .int .i64 5, .bool true, .func (.func 76) #[] #[]], .bool true]) ∧ Below w.heap.size w w' := by
  go_enter Tryz.func40, Tryz.ntmps40
  go_wp2
  exact bodyPost_ret (v := .tuple #[.agg #[.string ⟨#[62]⟩, .int .i64 5, .bool true, .func (.func 76) #[] #[]], .bool true]) (by simp [results, Tryz.results40, go_sem]) rfl ⟨rfl, by go_grown⟩
theorem pairOf_14 (w : World) :
    Calls Tryz.prog 40 #[.int .i64 14] w fun e w' => e = .returned (.tuple #[.agg #[.string ⟨#[62, 61]⟩, .int .i64 5, .bool true, .func (.func 77) #[] #[]], .bool true]) ∧ Below w.heap.size w w' := by
  go_enter Tryz.func40, Tryz.ntmps40
  go_wp2
  exact bodyPost_ret (v := .tuple #[.agg #[.string ⟨#[62, 61]⟩, .int .i64 5, .bool true, .func (.func 77) #[] #[]], .bool true]) (by simp [results, Tryz.results40, go_sem]) rfl ⟨rfl, by go_grown⟩
theorem pairOf_15 (w : World) :
    Calls Tryz.prog 40 #[.int .i64 15] w fun e w' => e = .returned (.tuple #[.agg #[.string ⟨#[61, 61]⟩, .int .i64 4, .bool true, .func (.func 72) #[] #[]], .bool true]) ∧ Below w.heap.size w w' := by
  go_enter Tryz.func40, Tryz.ntmps40
  go_wp2
  exact bodyPost_ret (v := .tuple #[.agg #[.string ⟨#[61, 61]⟩, .int .i64 4, .bool true, .func (.func 72) #[] #[]], .bool true]) (by simp [results, Tryz.results40, go_sem]) rfl ⟨rfl, by go_grown⟩
theorem pairOf_16 (w : World) :
    Calls Tryz.prog 40 #[.int .i64 16] w fun e w' => e = .returned (.tuple #[.agg #[.string ⟨#[33, 61]⟩, .int .i64 4, .bool true, .func (.func 73) #[] #[]], .bool true]) ∧ Below w.heap.size w w' := by
  go_enter Tryz.func40, Tryz.ntmps40
  go_wp2
  exact bodyPost_ret (v := .tuple #[.agg #[.string ⟨#[33, 61]⟩, .int .i64 4, .bool true, .func (.func 73) #[] #[]], .bool true]) (by simp [results, Tryz.results40, go_sem]) rfl ⟨rfl, by go_grown⟩
theorem pairOf_no (op : Int) (w : World) (h : op < 1 ∨ 16 < op) :
    Calls Tryz.prog 40 #[.int .i64 op] w fun e w' => e = .returned (.tuple #[.agg #[.string ⟨#[]⟩, .int .i64 0, .bool false, .nilFunc], .bool false]) ∧ Below w.heap.size w w' := by
  rcases h with h | h
  all_goals
    go_enter Tryz.func40, Tryz.ntmps40
    go_wp2
    exact bodyPost_ret (v := .tuple #[.agg #[.string ⟨#[]⟩, .int .i64 0, .bool false, .nilFunc], .bool false]) (by simp [results, Tryz.results40, go_sem]) rfl ⟨rfl, by go_grown⟩
theorem singleOf_17 (w : World) :
    Calls Tryz.prog 39 #[.int .i64 17] w fun e w' => e = .returned (.tuple #[.agg #[.string ⟨#[45]⟩, .func (.func 65) #[] #[]], .bool true]) ∧ Below w.heap.size w w' := by
  go_enter Tryz.func39, Tryz.ntmps39
  go_wp2
  exact bodyPost_ret (v := .tuple #[.agg #[.string ⟨#[45]⟩, .func (.func 65) #[] #[]], .bool true]) (by simp [results, Tryz.results39, go_sem]) rfl ⟨rfl, by go_grown⟩
theorem singleOf_18 (w : World) :
    Calls Tryz.prog 39 #[.int .i64 18] w fun e w' => e = .returned (.tuple #[.agg #[.string ⟨#[33]⟩, .func (.func 66) #[] #[]], .bool true]) ∧ Below w.heap.size w w' := by
  go_enter Tryz.func39, Tryz.ntmps39
  go_wp2
  exact bodyPost_ret (v := .tuple #[.agg #[.string ⟨#[33]⟩, .func (.func 66) #[] #[]], .bool true]) (by simp [results, Tryz.results39, go_sem]) rfl ⟨rfl, by go_grown⟩
theorem singleOf_19 (w : World) :
    Calls Tryz.prog 39 #[.int .i64 19] w fun e w' => e = .returned (.tuple #[.agg #[.string ⟨#[126]⟩, .func (.func 68) #[] #[]], .bool true]) ∧ Below w.heap.size w w' := by
  go_enter Tryz.func39, Tryz.ntmps39
  go_wp2
  exact bodyPost_ret (v := .tuple #[.agg #[.string ⟨#[126]⟩, .func (.func 68) #[] #[]], .bool true]) (by simp [results, Tryz.results39, go_sem]) rfl ⟨rfl, by go_grown⟩
theorem singleOf_no (op : Int) (w : World) (h : op < 17 ∨ 19 < op) :
    Calls Tryz.prog 39 #[.int .i64 op] w fun e w' => e = .returned (.tuple #[.agg #[.string ⟨#[]⟩, .nilFunc], .bool false]) ∧ Below w.heap.size w w' := by
  rcases h with h | h
  all_goals
    go_enter Tryz.func39, Tryz.ntmps39
    go_wp2
    exact bodyPost_ret (v := .tuple #[.agg #[.string ⟨#[]⟩, .nilFunc], .bool false]) (by simp [results, Tryz.results39, go_sem]) rfl ⟨rfl, by go_grown⟩
end Go.Proofs.YtjimeengkfjihaaGreatDoor
/- What Two makes of two numbers, the other operators. -/
namespace Go.Proofs.YtjimeengkfjihaaGreatDoor
open Go.ChangeShapes Go.WideShapes Go.ChangeAt Go.RowKit
theorem sh_walk2 (b : Int) : min (IntKind.u64.wrap (bits .and .i64 b 63)).toNat 64 = sh b := by
  rw [i64_and63, IntKind.wrap_u64]; unfold sh; omega
theorem ret_two2 {v v' : Int} (c : Bool) (h : v = v') : Ending.returned (.tuple #[.int .i64 v, .bool c]) = .returned (.tuple #[.int .i64 v', .bool c]) := by rw [h]
theorem two_9 (a b : Int) (w : World) :
    Calls Tryz.prog 25 #[.int .i64 9, .int .i64 a, .int .i64 b] w fun e w' => e = .returned (.tuple #[.int .i64 (wrap64 (a * 2 ^ sh b)), .bool true]) ∧ Below w.heap.size w w' := by
  go_enter Tryz.func25, Tryz.ntmps25
  go_wp2_with (first | (go_at_call 40; refine (pairOf_9 _).mono ?_; rintro e w' ⟨rfl, hg⟩) | go_in)
  go_ret2
  exact ⟨ret_two2 _ (by rw [← sh_walk2]), by have hz := hg.size; go_grown⟩
theorem two_10 (a b : Int) (w : World) :
    Calls Tryz.prog 25 #[.int .i64 10, .int .i64 a, .int .i64 b] w fun e w' => e = .returned (.tuple #[.int .i64 (a / 2 ^ sh b), .bool true]) ∧ Below w.heap.size w w' := by
  go_enter Tryz.func25, Tryz.ntmps25
  go_wp2_with (first | (go_at_call 40; refine (pairOf_10 _).mono ?_; rintro e w' ⟨rfl, hg⟩) | go_in)
  go_ret2
  exact ⟨ret_two2 _ (by rw [← sh_walk2]), by have hz := hg.size; go_grown⟩
theorem two_11 (a b : Int) (w : World) :
    Calls Tryz.prog 25 #[.int .i64 11, .int .i64 a, .int .i64 b] w fun e w' => e = .returned (.tuple #[.int .i64 (bi (decide (a < b))), .bool true]) ∧ Below w.heap.size w w' := by
  go_enter Tryz.func25, Tryz.ntmps25
  go_wp2_with (first | (go_at_call 40; refine (pairOf_11 _).mono ?_; rintro e w' ⟨rfl, hg⟩) | (go_at_call 67; refine (bit_any _ _).mono ?_; rintro e w' ⟨rfl, rfl⟩) | go_in)
  go_ret2
  exact ⟨rfl, by have hz := hg.size; go_grown⟩
theorem two_12 (a b : Int) (w : World) :
    Calls Tryz.prog 25 #[.int .i64 12, .int .i64 a, .int .i64 b] w fun e w' => e = .returned (.tuple #[.int .i64 (bi (decide (a ≤ b))), .bool true]) ∧ Below w.heap.size w w' := by
  go_enter Tryz.func25, Tryz.ntmps25
  go_wp2_with (first | (go_at_call 40; refine (pairOf_12 _).mono ?_; rintro e w' ⟨rfl, hg⟩) | (go_at_call 67; refine (bit_any _ _).mono ?_; rintro e w' ⟨rfl, rfl⟩) | go_in)
  go_ret2
  exact ⟨rfl, by have hz := hg.size; go_grown⟩
theorem two_13 (a b : Int) (w : World) :
    Calls Tryz.prog 25 #[.int .i64 13, .int .i64 a, .int .i64 b] w fun e w' => e = .returned (.tuple #[.int .i64 (bi (decide (b < a))), .bool true]) ∧ Below w.heap.size w w' := by
  go_enter Tryz.func25, Tryz.ntmps25
  go_wp2_with (first | (go_at_call 40; refine (pairOf_13 _).mono ?_; rintro e w' ⟨rfl, hg⟩) | (go_at_call 67; refine (bit_any _ _).mono ?_; rintro e w' ⟨rfl, rfl⟩) | go_in)
  go_ret2
  exact ⟨rfl, by have hz := hg.size; go_grown⟩
theorem two_14 (a b : Int) (w : World) :
    Calls Tryz.prog 25 #[.int .i64 14, .int .i64 a, .int .i64 b] w fun e w' => e = .returned (.tuple #[.int .i64 (bi (decide (b ≤ a))), .bool true]) ∧ Below w.heap.size w w' := by
  go_enter Tryz.func25, Tryz.ntmps25
  go_wp2_with (first | (go_at_call 40; refine (pairOf_14 _).mono ?_; rintro e w' ⟨rfl, hg⟩) | (go_at_call 67; refine (bit_any _ _).mono ?_; rintro e w' ⟨rfl, rfl⟩) | go_in)
  go_ret2
  exact ⟨rfl, by have hz := hg.size; go_grown⟩
theorem two_15 (a b : Int) (w : World) :
    Calls Tryz.prog 25 #[.int .i64 15, .int .i64 a, .int .i64 b] w fun e w' => e = .returned (.tuple #[.int .i64 (bi (a == b)), .bool true]) ∧ Below w.heap.size w w' := by
  go_enter Tryz.func25, Tryz.ntmps25
  go_wp2_with (first | (go_at_call 40; refine (pairOf_15 _).mono ?_; rintro e w' ⟨rfl, hg⟩) | (go_at_call 67; refine (bit_any _ _).mono ?_; rintro e w' ⟨rfl, rfl⟩) | go_in)
  go_ret2
  exact ⟨rfl, by have hz := hg.size; go_grown⟩
theorem two_16 (a b : Int) (w : World) :
    Calls Tryz.prog 25 #[.int .i64 16, .int .i64 a, .int .i64 b] w fun e w' => e = .returned (.tuple #[.int .i64 (bi (a != b)), .bool true]) ∧ Below w.heap.size w w' := by
  go_enter Tryz.func25, Tryz.ntmps25
  go_wp2_with (first | (go_at_call 40; refine (pairOf_16 _).mono ?_; rintro e w' ⟨rfl, hg⟩) | (go_at_call 67; refine (bit_any _ _).mono ?_; rintro e w' ⟨rfl, rfl⟩) | go_in)
  go_ret2
  exact ⟨rfl, by have hz := hg.size; go_grown⟩
theorem two_4 (a b : Int) (w : World) (h : b ≠ 0) :
    Calls Tryz.prog 25 #[.int .i64 4, .int .i64 a, .int .i64 b] w fun e w' => e = .returned (.tuple #[.int .i64 (wrap64 (a.tdiv b)), .bool true]) ∧ Below w.heap.size w w' := by
  have e : divV a b = wrap64 (a.tdiv b) := by simp [divV, h]
  have E := Lib.hid e; clear e
  have hb : (b == 0) = false := by simpa using h
  go_enter Tryz.func25, Tryz.ntmps25
  go_wp2_with (first | (go_at_call 40; refine (pairOf_4 _).mono ?_; rintro e w' ⟨rfl, hg⟩) | (go_at_call 21; refine (div_any _ _ _).mono ?_; rintro e w' ⟨rfl, rfl⟩))
  go_ret2
  exact ⟨ret_two2 _ E.out, by have hz := hg.size; go_grown⟩
theorem two_4_no (a : Int) (w : World) :
    Calls Tryz.prog 25 #[.int .i64 4, .int .i64 a, .int .i64 0] w fun e w' => e = .returned (.tuple #[.int .i64 0, .bool false]) ∧ Below w.heap.size w w' := by
  go_enter Tryz.func25, Tryz.ntmps25
  go_wp2_with (go_at_call 40; refine (pairOf_4 _).mono ?_; rintro e w' ⟨rfl, hg⟩)
  go_ret2
  exact ⟨rfl, by have hz := hg.size; go_grown⟩
theorem two_5 (a b : Int) (w : World) (h : b ≠ 0) :
    Calls Tryz.prog 25 #[.int .i64 5, .int .i64 a, .int .i64 b] w fun e w' => e = .returned (.tuple #[.int .i64 (a.tmod b), .bool true]) ∧ Below w.heap.size w w' := by
  have e : remV a b = a.tmod b := by simp [remV, h]
  have E := Lib.hid e; clear e
  have hb : (b == 0) = false := by simpa using h
  go_enter Tryz.func25, Tryz.ntmps25
  go_wp2_with (first | (go_at_call 40; refine (pairOf_5 _).mono ?_; rintro e w' ⟨rfl, hg⟩) | (go_at_call 22; refine (rem_any _ _ _).mono ?_; rintro e w' ⟨rfl, rfl⟩))
  go_ret2
  exact ⟨ret_two2 _ E.out, by have hz := hg.size; go_grown⟩
theorem two_5_no (a : Int) (w : World) :
    Calls Tryz.prog 25 #[.int .i64 5, .int .i64 a, .int .i64 0] w fun e w' => e = .returned (.tuple #[.int .i64 0, .bool false]) ∧ Below w.heap.size w w' := by
  go_enter Tryz.func25, Tryz.ntmps25
  go_wp2_with (go_at_call 40; refine (pairOf_5 _).mono ?_; rintro e w' ⟨rfl, hg⟩)
  go_ret2
  exact ⟨rfl, by have hz := hg.size; go_grown⟩
theorem two_no (op a b : Int) (w : World) (h : op < 1 ∨ 16 < op) :
    Calls Tryz.prog 25 #[.int .i64 op, .int .i64 a, .int .i64 b] w fun e w' => e = .returned (.tuple #[.int .i64 0, .bool false]) ∧ Below w.heap.size w w' := by
  have H := Lib.hid h; clear h
  go_enter Tryz.func25, Tryz.ntmps25
  go_wp2_with (go_at_call 40; refine (pairOf_no _ _ H.out).mono ?_; rintro e w' ⟨rfl, hg⟩)
  go_ret2
  exact ⟨rfl, by have hz := hg.size; go_grown⟩
end Go.Proofs.YtjimeengkfjihaaGreatDoor
/- What Two makes of two numbers. -/
namespace Go.Proofs.YtjimeengkfjihaaGreatDoor
open Go.ChangeShapes Go.WideShapes Go.ChangeAt Go.RowKit
theorem sh_walk (b : Int) : min (IntKind.u64.wrap (bits .and .i64 b 63)).toNat 64 = sh b := by
  rw [i64_and63, IntKind.wrap_u64]; unfold sh; omega
theorem ret_two {v v' : Int} (c : Bool) (h : v = v') : Ending.returned (.tuple #[.int .i64 v, .bool c]) = .returned (.tuple #[.int .i64 v', .bool c]) := by rw [h]
theorem two_1 (a b : Int) (w : World) :
    Calls Tryz.prog 25 #[.int .i64 1, .int .i64 a, .int .i64 b] w fun e w' => e = .returned (.tuple #[.int .i64 (wrap64 (a + b)), .bool true]) ∧ Below w.heap.size w w' := by
  go_enter Tryz.func25, Tryz.ntmps25
  go_wp2_with (first | (go_at_call 40; refine (pairOf_1 _).mono ?_; rintro e w' ⟨rfl, hg⟩) | go_in)
  go_ret2
  exact ⟨rfl, by have hz := hg.size; go_grown⟩
theorem two_2 (a b : Int) (w : World) :
    Calls Tryz.prog 25 #[.int .i64 2, .int .i64 a, .int .i64 b] w fun e w' => e = .returned (.tuple #[.int .i64 (wrap64 (a - b)), .bool true]) ∧ Below w.heap.size w w' := by
  go_enter Tryz.func25, Tryz.ntmps25
  go_wp2_with (first | (go_at_call 40; refine (pairOf_2 _).mono ?_; rintro e w' ⟨rfl, hg⟩) | go_in)
  go_ret2
  exact ⟨rfl, by have hz := hg.size; go_grown⟩
theorem two_3 (a b : Int) (w : World) :
    Calls Tryz.prog 25 #[.int .i64 3, .int .i64 a, .int .i64 b] w fun e w' => e = .returned (.tuple #[.int .i64 (wrap64 (a * b)), .bool true]) ∧ Below w.heap.size w w' := by
  go_enter Tryz.func25, Tryz.ntmps25
  go_wp2_with (first | (go_at_call 40; refine (pairOf_3 _).mono ?_; rintro e w' ⟨rfl, hg⟩) | go_in)
  go_ret2
  exact ⟨rfl, by have hz := hg.size; go_grown⟩
theorem two_6 (a b : Int) (w : World) :
    Calls Tryz.prog 25 #[.int .i64 6, .int .i64 a, .int .i64 b] w fun e w' => e = .returned (.tuple #[.int .i64 (bits .and .i64 a b), .bool true]) ∧ Below w.heap.size w w' := by
  go_enter Tryz.func25, Tryz.ntmps25
  go_wp2_with (first | (go_at_call 40; refine (pairOf_6 _).mono ?_; rintro e w' ⟨rfl, hg⟩) | go_in)
  go_ret2
  exact ⟨rfl, by have hz := hg.size; go_grown⟩
theorem two_7 (a b : Int) (w : World) :
    Calls Tryz.prog 25 #[.int .i64 7, .int .i64 a, .int .i64 b] w fun e w' => e = .returned (.tuple #[.int .i64 (bits .or .i64 a b), .bool true]) ∧ Below w.heap.size w w' := by
  go_enter Tryz.func25, Tryz.ntmps25
  go_wp2_with (first | (go_at_call 40; refine (pairOf_7 _).mono ?_; rintro e w' ⟨rfl, hg⟩) | go_in)
  go_ret2
  exact ⟨rfl, by have hz := hg.size; go_grown⟩
theorem two_8 (a b : Int) (w : World) :
    Calls Tryz.prog 25 #[.int .i64 8, .int .i64 a, .int .i64 b] w fun e w' => e = .returned (.tuple #[.int .i64 (bits .xor .i64 a b), .bool true]) ∧ Below w.heap.size w w' := by
  go_enter Tryz.func25, Tryz.ntmps25
  go_wp2_with (first | (go_at_call 40; refine (pairOf_8 _).mono ?_; rintro e w' ⟨rfl, hg⟩) | go_in)
  go_ret2
  exact ⟨rfl, by have hz := hg.size; go_grown⟩
end Go.Proofs.YtjimeengkfjihaaGreatDoor
/- What One, Sign and Level tell; the small helper pick; the examples of the chapter. -/
namespace Go.Proofs.YtjimeengkfjihaaGreatDoor
open Go.ChangeShapes Go.WideShapes Go.ChangeAt Go.RowKit
theorem one_17 (a : Int) (w : World) :
    Calls Tryz.prog 24 #[.int .i64 17, .int .i64 a] w fun e w' => e = .returned (.tuple #[.int .i64 (wrap64 (-a)), .bool true]) ∧ Below w.heap.size w w' := by
  go_enter Tryz.func24, Tryz.ntmps24
  go_wp2_with (first | (go_at_call 39; refine (singleOf_17 _).mono ?_; rintro e w' ⟨rfl, hg⟩) | (go_at_call 67; refine (bit_any _ _).mono ?_; rintro e w' ⟨rfl, rfl⟩) | go_in)
  go_ret2
  exact ⟨rfl, by have hz := hg.size; go_grown⟩
theorem one_18 (a : Int) (w : World) :
    Calls Tryz.prog 24 #[.int .i64 18, .int .i64 a] w fun e w' => e = .returned (.tuple #[.int .i64 (bi (a == 0)), .bool true]) ∧ Below w.heap.size w w' := by
  go_enter Tryz.func24, Tryz.ntmps24
  go_wp2_with (first | (go_at_call 39; refine (singleOf_18 _).mono ?_; rintro e w' ⟨rfl, hg⟩) | (go_at_call 67; refine (bit_any _ _).mono ?_; rintro e w' ⟨rfl, rfl⟩) | go_in)
  go_ret2
  exact ⟨rfl, by have hz := hg.size; go_grown⟩
theorem one_19 (a : Int) (w : World) :
    Calls Tryz.prog 24 #[.int .i64 19, .int .i64 a] w fun e w' => e = .returned (.tuple #[.int .i64 (bits .xor .i64 (-1) a), .bool true]) ∧ Below w.heap.size w w' := by
  go_enter Tryz.func24, Tryz.ntmps24
  go_wp2_with (first | (go_at_call 39; refine (singleOf_19 _).mono ?_; rintro e w' ⟨rfl, hg⟩) | (go_at_call 67; refine (bit_any _ _).mono ?_; rintro e w' ⟨rfl, rfl⟩) | go_in)
  go_ret2
  exact ⟨rfl, by have hz := hg.size; go_grown⟩
theorem one_no (op a : Int) (w : World) (h : op < 17 ∨ 19 < op) :
    Calls Tryz.prog 24 #[.int .i64 op, .int .i64 a] w fun e w' => e = .returned (.tuple #[.int .i64 0, .bool false]) ∧ Below w.heap.size w w' := by
  have H := Lib.hid h; clear h
  go_enter Tryz.func24, Tryz.ntmps24
  go_wp2_with (go_at_call 39; refine (singleOf_no _ _ H.out).mono ?_; rintro e w' ⟨rfl, hg⟩)
  go_ret2
  exact ⟨rfl, by have hz := hg.size; go_grown⟩
end Go.Proofs.YtjimeengkfjihaaGreatDoor
/- The operators, whichever they are. -/
namespace Go.Proofs.YtjimeengkfjihaaGreatDoor
open Go.ChangeShapes Go.WideShapes Go.ChangeAt Go.RowKit
theorem sixteen {k : Int} (h1 : 1 ≤ k) (h2 : k ≤ 16) : k = 1 ∨ k = 2 ∨ k = 3 ∨ k = 4 ∨ k = 5 ∨ k = 6 ∨ k = 7 ∨ k = 8 ∨ k = 9 ∨ k = 10 ∨ k = 11 ∨ k = 12 ∨ k = 13 ∨ k = 14 ∨ k = 15 ∨ k = 16 := by omega
theorem nineteen {k : Int} (h1 : 1 ≤ k) (h2 : k ≤ 19) : k = 1 ∨ k = 2 ∨ k = 3 ∨ k = 4 ∨ k = 5 ∨ k = 6 ∨ k = 7 ∨ k = 8 ∨ k = 9 ∨ k = 10 ∨ k = 11 ∨ k = 12 ∨ k = 13 ∨ k = 14 ∨ k = 15 ∨ k = 16 ∨ k = 17 ∨ k = 18 ∨ k = 19 := by omega
theorem twoV_no (op a b : Int) (h : op < 1 ∨ 16 < op) : twoV op a b = 0 := by
  unfold twoV; repeat rw [if_neg (by omega)]
theorem twoB_no (op b : Int) (h : op < 1 ∨ 16 < op) : twoB op b = false := by
  unfold twoB; rw [decide_eq_false (by omega)]; rfl
theorem oneV_no (op a : Int) (h : op < 17 ∨ 19 < op) : oneV op a = 0 := by
  unfold oneV; repeat rw [if_neg (by omega)]
theorem oneB_no (op : Int) (h : op < 17 ∨ 19 < op) : oneB op = false := by
  unfold oneB; rw [decide_eq_false (by omega)]
theorem two_any (op a b : Int) (w : World) :
    Calls Tryz.prog 25 #[.int .i64 op, .int .i64 a, .int .i64 b] w fun e w' => e = .returned (.tuple #[.int .i64 (twoV op a b), .bool (twoB op b)]) ∧ Below w.heap.size w w' := by
  by_cases h : op < 1 ∨ 16 < op
  · rw [twoV_no op a b h, twoB_no op b h]; exact two_no op a b w h
  · rcases sixteen (k := op) (by omega) (by omega) with rfl | rfl | rfl | rfl | rfl | rfl | rfl | rfl | rfl | rfl | rfl | rfl | rfl | rfl | rfl | rfl
    · exact two_1 a b w
    · exact two_2 a b w
    · exact two_3 a b w
    · by_cases hb : b = 0
      · subst hb; exact two_4_no a w
      · have e1 : twoV 4 a b = wrap64 (a.tdiv b) := by show (if b = 0 then 0 else _) = _; rw [if_neg hb]
        have e2 : twoB 4 b = true := by unfold twoB; simp [hb]
        rw [e1, e2]; exact two_4 a b w hb
    · by_cases hb : b = 0
      · subst hb; exact two_5_no a w
      · have e1 : twoV 5 a b = a.tmod b := by show (if b = 0 then 0 else _) = _; rw [if_neg hb]
        have e2 : twoB 5 b = true := by unfold twoB; simp [hb]
        rw [e1, e2]; exact two_5 a b w hb
    · exact two_6 a b w
    · exact two_7 a b w
    · exact two_8 a b w
    · exact two_9 a b w
    · exact two_10 a b w
    · exact two_11 a b w
    · exact two_12 a b w
    · exact two_13 a b w
    · exact two_14 a b w
    · exact two_15 a b w
    · exact two_16 a b w
theorem one_any (op a : Int) (w : World) :
    Calls Tryz.prog 24 #[.int .i64 op, .int .i64 a] w fun e w' => e = .returned (.tuple #[.int .i64 (oneV op a), .bool (oneB op)]) ∧ Below w.heap.size w w' := by
  by_cases h : op < 17 ∨ 19 < op
  · rw [oneV_no op a h, oneB_no op h]; exact one_no op a w h
  · rcases (show op = 17 ∨ op = 18 ∨ op = 19 by omega) with rfl | rfl | rfl
    · exact one_17 a w
    · exact one_18 a w
    · exact one_19 a w
end Go.Proofs.YtjimeengkfjihaaGreatDoor
