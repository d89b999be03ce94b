/- What One, Sign and Level tell; the small helper pick; the examples of the chapter. -/
import Derived.Test.YtchapkjpagoceaaRows
import Derived.WalkKit
import Derived.ProofKit
import Derived.OpenShut
import Derived.WalkLawsBesides
import Derived.WalkSpells
import Derived.Outline
import Derived.Handy
import Derived.Lib.Hide
import Derived.Laws.EntriesVeiled
import Derived.Test.YtchapkjpagoceaaArC
import Derived.Test.YtchapkjpagoceaaArB
namespace Go.Proofs.Ytchapkjpagoceaa
open Go.ChangeShapes Go.WideShapes Go.ChangeAt Go.RowKit
theorem one_17 (a : Int) (w : World) :
    Calls Try.prog 23 #[.int .i64 17, .int .i64 a] w fun e w' => e = .returned (.tuple #[.int .i64 (wrap64 (-a)), .bool true]) ∧ Below w.heap.size w w' := by
  go_enter Try.func23, Try.ntmps23
  go_wp2_with (first | (go_at_call 31; refine (singleOf_17 _).mono ?_; rintro e w' ⟨rfl, hg⟩) | (go_at_call 36; refine (bit_any _ _).mono ?_; rintro e w' ⟨rfl, rfl⟩) | go_in)
  go_ret2
  exact ⟨rfl, by have hz := hg.size; go_grown⟩
theorem one_18 (a : Int) (w : World) :
    Calls Try.prog 23 #[.int .i64 18, .int .i64 a] w fun e w' => e = .returned (.tuple #[.int .i64 (bi (a == 0)), .bool true]) ∧ Below w.heap.size w w' := by
  go_enter Try.func23, Try.ntmps23
  go_wp2_with (first | (go_at_call 31; refine (singleOf_18 _).mono ?_; rintro e w' ⟨rfl, hg⟩) | (go_at_call 36; refine (bit_any _ _).mono ?_; rintro e w' ⟨rfl, rfl⟩) | go_in)
  go_ret2
  exact ⟨rfl, by have hz := hg.size; go_grown⟩
theorem one_19 (a : Int) (w : World) :
    Calls Try.prog 23 #[.int .i64 19, .int .i64 a] w fun e w' => e = .returned (.tuple #[.int .i64 (bits .xor .i64 (-1) a), .bool true]) ∧ Below w.heap.size w w' := by
  go_enter Try.func23, Try.ntmps23
  go_wp2_with (first | (go_at_call 31; refine (singleOf_19 _).mono ?_; rintro e w' ⟨rfl, hg⟩) | (go_at_call 36; refine (bit_any _ _).mono ?_; rintro e w' ⟨rfl, rfl⟩) | go_in)
  go_ret2
  exact ⟨rfl, by have hz := hg.size; go_grown⟩
theorem one_no (op a : Int) (w : World) (h : op < 17 ∨ 19 < op) :
    Calls Try.prog 23 #[.int .i64 op, .int .i64 a] w fun e w' => e = .returned (.tuple #[.int .i64 0, .bool false]) ∧ Below w.heap.size w w' := by
  have H := Lib.hid h; clear h
  go_enter Try.func23, Try.ntmps23
  go_wp2_with (go_at_call 31; refine (singleOf_no _ _ H.out).mono ?_; rintro e w' ⟨rfl, hg⟩)
  go_ret2
  exact ⟨rfl, by have hz := hg.size; go_grown⟩
theorem sign_1 (w : World) :
    Calls Try.prog 25 #[.int .i64 1] w fun e w' => e = .returned (.tuple #[.string ⟨#[43]⟩, .bool true]) ∧ Below w.heap.size w w' := by
  go_enter Try.func25, Try.ntmps25
  go_wp2_with (first | (go_at_call 29; refine (pairOf_1 _).mono ?_; rintro e w' ⟨rfl, hg⟩))
  go_ret2
  exact ⟨rfl, ext_alloc hg _⟩
theorem sign_2 (w : World) :
    Calls Try.prog 25 #[.int .i64 2] w fun e w' => e = .returned (.tuple #[.string ⟨#[45]⟩, .bool true]) ∧ Below w.heap.size w w' := by
  go_enter Try.func25, Try.ntmps25
  go_wp2_with (first | (go_at_call 29; refine (pairOf_2 _).mono ?_; rintro e w' ⟨rfl, hg⟩))
  go_ret2
  exact ⟨rfl, ext_alloc hg _⟩
theorem sign_3 (w : World) :
    Calls Try.prog 25 #[.int .i64 3] w fun e w' => e = .returned (.tuple #[.string ⟨#[42]⟩, .bool true]) ∧ Below w.heap.size w w' := by
  go_enter Try.func25, Try.ntmps25
  go_wp2_with (first | (go_at_call 29; refine (pairOf_3 _).mono ?_; rintro e w' ⟨rfl, hg⟩))
  go_ret2
  exact ⟨rfl, ext_alloc hg _⟩
theorem sign_4 (w : World) :
    Calls Try.prog 25 #[.int .i64 4] w fun e w' => e = .returned (.tuple #[.string ⟨#[47]⟩, .bool true]) ∧ Below w.heap.size w w' := by
  go_enter Try.func25, Try.ntmps25
  go_wp2_with (first | (go_at_call 29; refine (pairOf_4 _).mono ?_; rintro e w' ⟨rfl, hg⟩))
  go_ret2
  exact ⟨rfl, ext_alloc hg _⟩
theorem sign_5 (w : World) :
    Calls Try.prog 25 #[.int .i64 5] w fun e w' => e = .returned (.tuple #[.string ⟨#[37]⟩, .bool true]) ∧ Below w.heap.size w w' := by
  go_enter Try.func25, Try.ntmps25
  go_wp2_with (first | (go_at_call 29; refine (pairOf_5 _).mono ?_; rintro e w' ⟨rfl, hg⟩))
  go_ret2
  exact ⟨rfl, ext_alloc hg _⟩
theorem sign_6 (w : World) :
    Calls Try.prog 25 #[.int .i64 6] w fun e w' => e = .returned (.tuple #[.string ⟨#[38]⟩, .bool true]) ∧ Below w.heap.size w w' := by
  go_enter Try.func25, Try.ntmps25
  go_wp2_with (first | (go_at_call 29; refine (pairOf_6 _).mono ?_; rintro e w' ⟨rfl, hg⟩))
  go_ret2
  exact ⟨rfl, ext_alloc hg _⟩
theorem sign_7 (w : World) :
    Calls Try.prog 25 #[.int .i64 7] w fun e w' => e = .returned (.tuple #[.string ⟨#[124]⟩, .bool true]) ∧ Below w.heap.size w w' := by
  go_enter Try.func25, Try.ntmps25
  go_wp2_with (first | (go_at_call 29; refine (pairOf_7 _).mono ?_; rintro e w' ⟨rfl, hg⟩))
  go_ret2
  exact ⟨rfl, ext_alloc hg _⟩
theorem sign_8 (w : World) :
    Calls Try.prog 25 #[.int .i64 8] w fun e w' => e = .returned (.tuple #[.string ⟨#[94]⟩, .bool true]) ∧ Below w.heap.size w w' := by
  go_enter Try.func25, Try.ntmps25
  go_wp2_with (first | (go_at_call 29; refine (pairOf_8 _).mono ?_; rintro e w' ⟨rfl, hg⟩))
  go_ret2
  exact ⟨rfl, ext_alloc hg _⟩
theorem sign_9 (w : World) :
    Calls Try.prog 25 #[.int .i64 9] w fun e w' => e = .returned (.tuple #[.string ⟨#[60, 60]⟩, .bool true]) ∧ Below w.heap.size w w' := by
  go_enter Try.func25, Try.ntmps25
  go_wp2_with (first | (go_at_call 29; refine (pairOf_9 _).mono ?_; rintro e w' ⟨rfl, hg⟩))
  go_ret2
  exact ⟨rfl, ext_alloc hg _⟩
theorem sign_10 (w : World) :
    Calls Try.prog 25 #[.int .i64 10] w fun e w' => e = .returned (.tuple #[.string ⟨#[62, 62]⟩, .bool true]) ∧ Below w.heap.size w w' := by
  go_enter Try.func25, Try.ntmps25
  go_wp2_with (first | (go_at_call 29; refine (pairOf_10 _).mono ?_; rintro e w' ⟨rfl, hg⟩))
  go_ret2
  exact ⟨rfl, ext_alloc hg _⟩
theorem sign_11 (w : World) :
    Calls Try.prog 25 #[.int .i64 11] w fun e w' => e = .returned (.tuple #[.string ⟨#[60]⟩, .bool true]) ∧ Below w.heap.size w w' := by
  go_enter Try.func25, Try.ntmps25
  go_wp2_with (first | (go_at_call 29; refine (pairOf_11 _).mono ?_; rintro e w' ⟨rfl, hg⟩))
  go_ret2
  exact ⟨rfl, ext_alloc hg _⟩
theorem sign_12 (w : World) :
    Calls Try.prog 25 #[.int .i64 12] w fun e w' => e = .returned (.tuple #[.string ⟨#[60, 61]⟩, .bool true]) ∧ Below w.heap.size w w' := by
  go_enter Try.func25, Try.ntmps25
  go_wp2_with (first | (go_at_call 29; refine (pairOf_12 _).mono ?_; rintro e w' ⟨rfl, hg⟩))
  go_ret2
  exact ⟨rfl, ext_alloc hg _⟩
theorem sign_13 (w : World) :
    Calls Try.prog 25 #[.int .i64 13] w fun e w' => e = .returned (.tuple #[.string ⟨#[62]⟩, .bool true]) ∧ Below w.heap.size w w' := by
  go_enter Try.func25, Try.ntmps25
  go_wp2_with (first | (go_at_call 29; refine (pairOf_13 _).mono ?_; rintro e w' ⟨rfl, hg⟩))
  go_ret2
  exact ⟨rfl, ext_alloc hg _⟩
theorem sign_14 (w : World) :
    Calls Try.prog 25 #[.int .i64 14] w fun e w' => e = .returned (.tuple #[.string ⟨#[62, 61]⟩, .bool true]) ∧ Below w.heap.size w w' := by
  go_enter Try.func25, Try.ntmps25
  go_wp2_with (first | (go_at_call 29; refine (pairOf_14 _).mono ?_; rintro e w' ⟨rfl, hg⟩))
  go_ret2
  exact ⟨rfl, ext_alloc hg _⟩
theorem sign_15 (w : World) :
    Calls Try.prog 25 #[.int .i64 15] w fun e w' => e = .returned (.tuple #[.string ⟨#[61, 61]⟩, .bool true]) ∧ Below w.heap.size w w' := by
  go_enter Try.func25, Try.ntmps25
  go_wp2_with (first | (go_at_call 29; refine (pairOf_15 _).mono ?_; rintro e w' ⟨rfl, hg⟩))
  go_ret2
  exact ⟨rfl, ext_alloc hg _⟩
theorem sign_16 (w : World) :
    Calls Try.prog 25 #[.int .i64 16] w fun e w' => e = .returned (.tuple #[.string ⟨#[33, 61]⟩, .bool true]) ∧ Below w.heap.size w w' := by
  go_enter Try.func25, Try.ntmps25
  go_wp2_with (first | (go_at_call 29; refine (pairOf_16 _).mono ?_; rintro e w' ⟨rfl, hg⟩))
  go_ret2
  exact ⟨rfl, ext_alloc hg _⟩
theorem sign_17 (w : World) :
    Calls Try.prog 25 #[.int .i64 17] w fun e w' => e = .returned (.tuple #[.string ⟨#[45]⟩, .bool true]) ∧ Below w.heap.size w w' := by
  go_enter Try.func25, Try.ntmps25
  go_wp2_with (first | (go_at_call 29; refine (pairOf_no _ _ (by omega)).mono ?_; rintro e w' ⟨rfl, hg⟩) | (go_at_call 31; refine (singleOf_17 _).mono ?_; rintro e w' ⟨rfl, hg2⟩))
  go_ret2
  exact ⟨rfl, ext_alloc (ext_trans (ext_alloc hg _) hg2) _⟩
theorem sign_18 (w : World) :
    Calls Try.prog 25 #[.int .i64 18] w fun e w' => e = .returned (.tuple #[.string ⟨#[33]⟩, .bool true]) ∧ Below w.heap.size w w' := by
  go_enter Try.func25, Try.ntmps25
  go_wp2_with (first | (go_at_call 29; refine (pairOf_no _ _ (by omega)).mono ?_; rintro e w' ⟨rfl, hg⟩) | (go_at_call 31; refine (singleOf_18 _).mono ?_; rintro e w' ⟨rfl, hg2⟩))
  go_ret2
  exact ⟨rfl, ext_alloc (ext_trans (ext_alloc hg _) hg2) _⟩
theorem sign_19 (w : World) :
    Calls Try.prog 25 #[.int .i64 19] w fun e w' => e = .returned (.tuple #[.string ⟨#[126]⟩, .bool true]) ∧ Below w.heap.size w w' := by
  go_enter Try.func25, Try.ntmps25
  go_wp2_with (first | (go_at_call 29; refine (pairOf_no _ _ (by omega)).mono ?_; rintro e w' ⟨rfl, hg⟩) | (go_at_call 31; refine (singleOf_19 _).mono ?_; rintro e w' ⟨rfl, hg2⟩))
  go_ret2
  exact ⟨rfl, ext_alloc (ext_trans (ext_alloc hg _) hg2) _⟩
theorem sign_no (op : Int) (w : World) (h : op < 1 ∨ 19 < op) :
    Calls Try.prog 25 #[.int .i64 op] w fun e w' => e = .returned (.tuple #[.string ⟨#[]⟩, .bool false]) ∧ Below w.heap.size w w' := by
  have h1 : op < 1 ∨ 16 < op := by omega
  have h2 : op < 17 ∨ 19 < op := by omega
  have H1 := Lib.hid h1; clear h1
  have H2 := Lib.hid h2; clear h2
  clear h
  go_enter Try.func25, Try.ntmps25
  go_wp2_with (first | (go_at_call 29; refine (pairOf_no _ _ H1.out).mono ?_; rintro e w' ⟨rfl, hg⟩) | (go_at_call 31; refine (singleOf_no _ _ H2.out).mono ?_; rintro e w' ⟨rfl, hg2⟩))
  go_ret2
  exact ⟨rfl, ext_alloc (ext_trans (ext_alloc hg _) hg2) _⟩
theorem level_1 (w : World) :
    Calls Try.prog 27 #[.int .i64 1] w fun e w' => e = .returned (.int .i64 7) ∧ Below w.heap.size w w' := by
  go_enter Try.func27, Try.ntmps27
  go_wp2_with (go_at_call 29; refine (pairOf_1 _).mono ?_; rintro e w' ⟨rfl, hg⟩)
  go_ret
  exact ⟨rfl, by have hz := hg.size; go_grown⟩
theorem level_2 (w : World) :
    Calls Try.prog 27 #[.int .i64 2] w fun e w' => e = .returned (.int .i64 7) ∧ Below w.heap.size w w' := by
  go_enter Try.func27, Try.ntmps27
  go_wp2_with (go_at_call 29; refine (pairOf_2 _).mono ?_; rintro e w' ⟨rfl, hg⟩)
  go_ret
  exact ⟨rfl, by have hz := hg.size; go_grown⟩
theorem level_3 (w : World) :
    Calls Try.prog 27 #[.int .i64 3] w fun e w' => e = .returned (.int .i64 8) ∧ Below w.heap.size w w' := by
  go_enter Try.func27, Try.ntmps27
  go_wp2_with (go_at_call 29; refine (pairOf_3 _).mono ?_; rintro e w' ⟨rfl, hg⟩)
  go_ret
  exact ⟨rfl, by have hz := hg.size; go_grown⟩
theorem level_4 (w : World) :
    Calls Try.prog 27 #[.int .i64 4] w fun e w' => e = .returned (.int .i64 8) ∧ Below w.heap.size w w' := by
  go_enter Try.func27, Try.ntmps27
  go_wp2_with (go_at_call 29; refine (pairOf_4 _).mono ?_; rintro e w' ⟨rfl, hg⟩)
  go_ret
  exact ⟨rfl, by have hz := hg.size; go_grown⟩
theorem level_5 (w : World) :
    Calls Try.prog 27 #[.int .i64 5] w fun e w' => e = .returned (.int .i64 8) ∧ Below w.heap.size w w' := by
  go_enter Try.func27, Try.ntmps27
  go_wp2_with (go_at_call 29; refine (pairOf_5 _).mono ?_; rintro e w' ⟨rfl, hg⟩)
  go_ret
  exact ⟨rfl, by have hz := hg.size; go_grown⟩
theorem level_6 (w : World) :
    Calls Try.prog 27 #[.int .i64 6] w fun e w' => e = .returned (.int .i64 3) ∧ Below w.heap.size w w' := by
  go_enter Try.func27, Try.ntmps27
  go_wp2_with (go_at_call 29; refine (pairOf_6 _).mono ?_; rintro e w' ⟨rfl, hg⟩)
  go_ret
  exact ⟨rfl, by have hz := hg.size; go_grown⟩
theorem level_7 (w : World) :
    Calls Try.prog 27 #[.int .i64 7] w fun e w' => e = .returned (.int .i64 1) ∧ Below w.heap.size w w' := by
  go_enter Try.func27, Try.ntmps27
  go_wp2_with (go_at_call 29; refine (pairOf_7 _).mono ?_; rintro e w' ⟨rfl, hg⟩)
  go_ret
  exact ⟨rfl, by have hz := hg.size; go_grown⟩
theorem level_8 (w : World) :
    Calls Try.prog 27 #[.int .i64 8] w fun e w' => e = .returned (.int .i64 2) ∧ Below w.heap.size w w' := by
  go_enter Try.func27, Try.ntmps27
  go_wp2_with (go_at_call 29; refine (pairOf_8 _).mono ?_; rintro e w' ⟨rfl, hg⟩)
  go_ret
  exact ⟨rfl, by have hz := hg.size; go_grown⟩
theorem level_9 (w : World) :
    Calls Try.prog 27 #[.int .i64 9] w fun e w' => e = .returned (.int .i64 6) ∧ Below w.heap.size w w' := by
  go_enter Try.func27, Try.ntmps27
  go_wp2_with (go_at_call 29; refine (pairOf_9 _).mono ?_; rintro e w' ⟨rfl, hg⟩)
  go_ret
  exact ⟨rfl, by have hz := hg.size; go_grown⟩
theorem level_10 (w : World) :
    Calls Try.prog 27 #[.int .i64 10] w fun e w' => e = .returned (.int .i64 6) ∧ Below w.heap.size w w' := by
  go_enter Try.func27, Try.ntmps27
  go_wp2_with (go_at_call 29; refine (pairOf_10 _).mono ?_; rintro e w' ⟨rfl, hg⟩)
  go_ret
  exact ⟨rfl, by have hz := hg.size; go_grown⟩
theorem level_11 (w : World) :
    Calls Try.prog 27 #[.int .i64 11] w fun e w' => e = .returned (.int .i64 5) ∧ Below w.heap.size w w' := by
  go_enter Try.func27, Try.ntmps27
  go_wp2_with (go_at_call 29; refine (pairOf_11 _).mono ?_; rintro e w' ⟨rfl, hg⟩)
  go_ret
  exact ⟨rfl, by have hz := hg.size; go_grown⟩
theorem level_12 (w : World) :
    Calls Try.prog 27 #[.int .i64 12] w fun e w' => e = .returned (.int .i64 5) ∧ Below w.heap.size w w' := by
  go_enter Try.func27, Try.ntmps27
  go_wp2_with (go_at_call 29; refine (pairOf_12 _).mono ?_; rintro e w' ⟨rfl, hg⟩)
  go_ret
  exact ⟨rfl, by have hz := hg.size; go_grown⟩
theorem level_13 (w : World) :
    Calls Try.prog 27 #[.int .i64 13] w fun e w' => e = .returned (.int .i64 5) ∧ Below w.heap.size w w' := by
  go_enter Try.func27, Try.ntmps27
  go_wp2_with (go_at_call 29; refine (pairOf_13 _).mono ?_; rintro e w' ⟨rfl, hg⟩)
  go_ret
  exact ⟨rfl, by have hz := hg.size; go_grown⟩
theorem level_14 (w : World) :
    Calls Try.prog 27 #[.int .i64 14] w fun e w' => e = .returned (.int .i64 5) ∧ Below w.heap.size w w' := by
  go_enter Try.func27, Try.ntmps27
  go_wp2_with (go_at_call 29; refine (pairOf_14 _).mono ?_; rintro e w' ⟨rfl, hg⟩)
  go_ret
  exact ⟨rfl, by have hz := hg.size; go_grown⟩
theorem level_15 (w : World) :
    Calls Try.prog 27 #[.int .i64 15] w fun e w' => e = .returned (.int .i64 4) ∧ Below w.heap.size w w' := by
  go_enter Try.func27, Try.ntmps27
  go_wp2_with (go_at_call 29; refine (pairOf_15 _).mono ?_; rintro e w' ⟨rfl, hg⟩)
  go_ret
  exact ⟨rfl, by have hz := hg.size; go_grown⟩
theorem level_16 (w : World) :
    Calls Try.prog 27 #[.int .i64 16] w fun e w' => e = .returned (.int .i64 4) ∧ Below w.heap.size w w' := by
  go_enter Try.func27, Try.ntmps27
  go_wp2_with (go_at_call 29; refine (pairOf_16 _).mono ?_; rintro e w' ⟨rfl, hg⟩)
  go_ret
  exact ⟨rfl, by have hz := hg.size; go_grown⟩
theorem level_no (op : Int) (w : World) (h : op < 1 ∨ 16 < op) :
    Calls Try.prog 27 #[.int .i64 op] w fun e w' => e = .returned (.int .i64 0) ∧ Below w.heap.size w w' := by
  have H := Lib.hid h; clear h
  go_enter Try.func27, Try.ntmps27
  go_wp2_with (go_at_call 29; refine (pairOf_no _ _ H.out).mono ?_; rintro e w' ⟨rfl, hg⟩)
  go_ret
  exact ⟨rfl, by have hz := hg.size; go_grown⟩
end Go.Proofs.Ytchapkjpagoceaa
