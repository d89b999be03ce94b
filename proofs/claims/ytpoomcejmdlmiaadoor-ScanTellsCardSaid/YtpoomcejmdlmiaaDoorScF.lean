/- What stands at a text's beginning. -/
import Derived.Test.YtpoomcejmdlmiaaDoorRows
import Derived.WalkKit
import Derived.ProofKit
import Derived.OpenShut
import Derived.WalkLawsBesides
import Derived.WalkSpells
import Derived.Outline
import Derived.Handy
import Derived.Lib.Hide
import Derived.Lib.OthersKept
import Derived.Test.YtpoomcejmdlmiaaDoorSc0
import Derived.RegionTactic
import Derived.BigRegion
import Derived.Deep.RegionHeld3
import Derived.Test.YtpoomcejmdlmiaaDoorScC
import Derived.Test.YtpoomcejmdlmiaaDoorScD
import Derived.Test.YtpoomcejmdlmiaaDoorScE
namespace Go.Proofs.YtpoomcejmdlmiaaDoor
open Go.ChangeShapes Go.WideShapes Go.ChangeAt Go.RowKit
set_option linter.unusedVariables false
def slashes (s : ByteArray) : Bool := Lib.hasPrefix s.data.toList [47, 47]
def pieceP (s : ByteArray) (r : Int) (h : 0 < s.size) : Option Piece :=
  if slashes s = true then (if (cmtL s).2 = true then some ⟨(cmtL s).1, 0, ⟨#[]⟩, 0⟩ else none)
  else if letterR r = true then wordP s else if digitR r = true then numberP s else if (r == 39) = true then charP s
  else if 0 < signN s h then some ⟨signN s h, 4, s.extract 0 (signN s h), 0⟩ else none
theorem slashes_calls (s : ByteArray) (w : World) : Calls Tryd.prog 21 #[.string s, .string ⟨#[47, 47]⟩] w fun e w' => e = .returned (.bool (slashes s)) ∧ w = w' :=
  (Tryd.strings_HasPrefix s ⟨#[47, 47]⟩ w).mono fun _ _ h => ⟨h.1, h.2.symm⟩
theorem signN_le (s : ByteArray) (h : 0 < s.size) : signN s h ≤ s.size ∧ signN s h ≤ 2 := by
  unfold signN two
  split
  · rename_i k
    simp only [Bool.and_eq_true, decide_eq_true_iff] at k
    omega
  · split <;> omega
set_option maxRecDepth 100000 in
set_option maxHeartbeats 1000000 in
theorem piece_word (s : ByteArray) (r : Int) (w : World) (P : Option Piece) (hsl : slashes s = false) (hl : letterR r = true)
    (hc : Hid (∀ w, ErrVars w → Calls Tryd.prog 23 #[.string s] w fun e w' => Says P e ∧ Below w.heap.size w w')) (hv : ErrVars w) :
    Calls Tryd.prog 13 #[.string s, .int .i32 r] w fun e w' => Says P e ∧ Below w.heap.size w w' := by
  have hpre := Lib.hid (fun w => slashes_calls s w)
  rw [hsl] at hpre
  have hle := Lib.hid (fun w => letter_any r w)
  have hdi := Lib.hid (fun w => digit_any r w)
  rw [hl] at hle
  have HV := Lib.hid (hv.ext (ext_alloc (Below.refl _ _) (.cells #[.int .i64 0, .string ⟨#[]⟩, .int .i64 0, .int .i64 0] 30)))
  clear hv hsl
  go_enter Tryd.func13, Tryd.ntmps13
  go_wp2_with (first | (go_at_call 21; refine (hpre.out _).mono ?_; rintro e w' ⟨rfl, rfl⟩) | (go_at_call 16; refine (hle.out _).mono ?_; rintro e w' ⟨rfl, rfl⟩) | (go_at_call 24; refine (hdi.out _).mono ?_; rintro e w' ⟨rfl, rfl⟩))
  refine (hc.out _ HV.out).mono ?_; rintro e w1 ⟨⟨n, k, m, t, b, rfl, k1, k2⟩, g1⟩
  have K1 := Lib.hid k1; have K2 := Lib.hid k2
  clear k1 k2
  have hblk := (g1.block w.heap.size (by simp)).trans (heap_new _ _)
  obtain ⟨⟨c0, c1, c2, c3⟩, f0, f1, f2, f3⟩ := four_at hblk
  clear hblk
  have G : Below w.heap.size w w1 := ext_trans (ext_alloc (Below.refl _ _) _) g1
  clear g1
  go_wp2_with fail
  exact bodyPost_ret (v := .tuple #[.int .i64 n, .agg #[.int .i64 k, .string t, .int .i64 m, .int .i64 0], .bool b]) (by simp [results, Tryd.results13, go_sem, c0, c1, c2, c3]) rfl
    ⟨⟨n, k, m, t, b, rfl, K1.out, K2.out⟩, ext_set (ext_set (ext_set (ext_set G (Nat.le_refl _) _) (Nat.le_refl _) _) (Nat.le_refl _) _) (Nat.le_refl _) _⟩
set_option maxRecDepth 100000 in
set_option maxHeartbeats 1000000 in
theorem piece_number (s : ByteArray) (r : Int) (w : World) (P : Option Piece) (hsl : slashes s = false) (hl : letterR r = false) (hd : digitR r = true)
    (hc : Hid (∀ w, ErrVars w → Calls Tryd.prog 25 #[.string s] w fun e w' => Says P e ∧ Below w.heap.size w w')) (hv : ErrVars w) :
    Calls Tryd.prog 13 #[.string s, .int .i32 r] w fun e w' => Says P e ∧ Below w.heap.size w w' := by
  have hpre := Lib.hid (fun w => slashes_calls s w)
  rw [hsl] at hpre
  have hle := Lib.hid (fun w => letter_any r w)
  have hdi := Lib.hid (fun w => digit_any r w)
  rw [hl] at hle; rw [hd] at hdi
  have HV := Lib.hid (hv.ext (ext_alloc (Below.refl _ _) (.cells #[.int .i64 0, .string ⟨#[]⟩, .int .i64 0, .int .i64 0] 30)))
  clear hv hsl
  go_enter Tryd.func13, Tryd.ntmps13
  go_wp2_with (first | (go_at_call 21; refine (hpre.out _).mono ?_; rintro e w' ⟨rfl, rfl⟩) | (go_at_call 16; refine (hle.out _).mono ?_; rintro e w' ⟨rfl, rfl⟩) | (go_at_call 24; refine (hdi.out _).mono ?_; rintro e w' ⟨rfl, rfl⟩))
  refine (hc.out _ HV.out).mono ?_; rintro e w1 ⟨⟨n, k, m, t, b, rfl, k1, k2⟩, g1⟩
  have K1 := Lib.hid k1; have K2 := Lib.hid k2
  clear k1 k2
  have hblk := (g1.block w.heap.size (by simp)).trans (heap_new _ _)
  obtain ⟨⟨c0, c1, c2, c3⟩, f0, f1, f2, f3⟩ := four_at hblk
  clear hblk
  have G : Below w.heap.size w w1 := ext_trans (ext_alloc (Below.refl _ _) _) g1
  clear g1
  go_wp2_with fail
  exact bodyPost_ret (v := .tuple #[.int .i64 n, .agg #[.int .i64 k, .string t, .int .i64 m, .int .i64 0], .bool b]) (by simp [results, Tryd.results13, go_sem, c0, c1, c2, c3]) rfl
    ⟨⟨n, k, m, t, b, rfl, K1.out, K2.out⟩, ext_set (ext_set (ext_set (ext_set G (Nat.le_refl _) _) (Nat.le_refl _) _) (Nat.le_refl _) _) (Nat.le_refl _) _⟩
set_option maxRecDepth 100000 in
set_option maxHeartbeats 1000000 in
theorem piece_character (s : ByteArray) (r : Int) (w : World) (P : Option Piece) (hsl : slashes s = false) (hl : letterR r = false) (hd : digitR r = false) (hq : (r == 39) = true)
    (hc : Hid (∀ w, ErrVars w → Calls Tryd.prog 26 #[.string s] w fun e w' => Says P e ∧ Below w.heap.size w w')) (hv : ErrVars w) :
    Calls Tryd.prog 13 #[.string s, .int .i32 r] w fun e w' => Says P e ∧ Below w.heap.size w w' := by
  have hpre := Lib.hid (fun w => slashes_calls s w)
  rw [hsl] at hpre
  have hle := Lib.hid (fun w => letter_any r w)
  have hdi := Lib.hid (fun w => digit_any r w)
  rw [hl] at hle; rw [hd] at hdi
  have HV := Lib.hid (hv.ext (ext_alloc (Below.refl _ _) (.cells #[.int .i64 0, .string ⟨#[]⟩, .int .i64 0, .int .i64 0] 30)))
  clear hv hsl
  go_enter Tryd.func13, Tryd.ntmps13
  go_wp2_with (first | (go_at_call 21; refine (hpre.out _).mono ?_; rintro e w' ⟨rfl, rfl⟩) | (go_at_call 16; refine (hle.out _).mono ?_; rintro e w' ⟨rfl, rfl⟩) | (go_at_call 24; refine (hdi.out _).mono ?_; rintro e w' ⟨rfl, rfl⟩))
  refine (hc.out _ HV.out).mono ?_; rintro e w1 ⟨⟨n, k, m, t, b, rfl, k1, k2⟩, g1⟩
  have K1 := Lib.hid k1; have K2 := Lib.hid k2
  clear k1 k2
  have hblk := (g1.block w.heap.size (by simp)).trans (heap_new _ _)
  obtain ⟨⟨c0, c1, c2, c3⟩, f0, f1, f2, f3⟩ := four_at hblk
  clear hblk
  have G : Below w.heap.size w w1 := ext_trans (ext_alloc (Below.refl _ _) _) g1
  clear g1
  go_wp2_with fail
  exact bodyPost_ret (v := .tuple #[.int .i64 n, .agg #[.int .i64 k, .string t, .int .i64 m, .int .i64 0], .bool b]) (by simp [results, Tryd.results13, go_sem, c0, c1, c2, c3]) rfl
    ⟨⟨n, k, m, t, b, rfl, K1.out, K2.out⟩, ext_set (ext_set (ext_set (ext_set G (Nat.le_refl _) _) (Nat.le_refl _) _) (Nat.le_refl _) _) (Nat.le_refl _) _⟩
set_option maxRecDepth 100000 in
set_option maxHeartbeats 1000000 in
theorem piece_comment (s : ByteArray) (r : Int) (w : World) (hsl : slashes s = true) :
    Calls Tryd.prog 13 #[.string s, .int .i32 r] w fun e w' => Says (if (cmtL s).2 = true then some ⟨(cmtL s).1, 0, ⟨#[]⟩, 0⟩ else none) e ∧ Below w.heap.size w w' := by
  have hpre := Lib.hid (fun w => slashes_calls s w)
  rw [hsl] at hpre
  have hco := Lib.hid (fun w => comment_any s w)
  clear hsl
  generalize (cmtL s).1 = n at *
  generalize (cmtL s).2 = b at *
  have hp : Says (if b = true then some ⟨n, 0, ⟨#[]⟩, 0⟩ else none) (.returned (.tuple #[.int .i64 (n : Int), .agg #[.int .i64 0, .string ⟨#[]⟩, .int .i64 0, .int .i64 0], .bool b])) := by
    cases b
    · exact says_none _ _ _ _
    · exact says_some rfl rfl rfl rfl
  have HPs := Lib.hid hp
  clear hp
  generalize (if b = true then some (⟨n, 0, ⟨#[]⟩, 0⟩ : Piece) else none) = P at *
  go_enter Tryd.func13, Tryd.ntmps13
  go_wp2_with (first | (go_at_call 21; refine (hpre.out _).mono ?_; rintro e w' ⟨rfl, rfl⟩))
  refine (hco.out _).mono ?_; rintro e w1 ⟨rfl, g1⟩
  have hblk := (g1.block w.heap.size (by simp)).trans (heap_new _ _)
  obtain ⟨⟨c0, c1, c2, c3⟩, f0, f1, f2, f3⟩ := four_at hblk
  clear hblk
  have G : Below w.heap.size w w1 := ext_trans (ext_alloc (Below.refl _ _) _) g1
  clear g1
  go_wp2_with fail
  exact bodyPost_ret (v := .tuple #[.int .i64 n, .agg #[.int .i64 0, .string ⟨#[]⟩, .int .i64 0, .int .i64 0], .bool b]) (by simp [results, Tryd.results13, go_sem, c0, c1, c2, c3]) rfl
    ⟨HPs.out, ext_set (ext_set (ext_set (ext_set G (Nat.le_refl _) _) (Nat.le_refl _) _) (Nat.le_refl _) _) (Nat.le_refl _) _⟩
set_option maxRecDepth 100000 in
set_option maxHeartbeats 1000000 in
theorem piece_sign (s : ByteArray) (r : Int) (w : World) (h : 0 < s.size) (hsl : slashes s = false) (hl : letterR r = false) (hd : digitR r = false) (hq : (r == 39) = false) :
    Calls Tryd.prog 13 #[.string s, .int .i32 r] w fun e w' => Says (if 0 < signN s h then some ⟨signN s h, 4, s.extract 0 (signN s h), 0⟩ else none) e ∧ Below w.heap.size w w' := by
  have hpre := Lib.hid (fun w => slashes_calls s w)
  rw [hsl] at hpre
  have hle := Lib.hid (fun w => letter_any r w)
  have hdi := Lib.hid (fun w => digit_any r w)
  rw [hl] at hle; rw [hd] at hdi
  have hsg := Lib.hid (fun w => sign_calls s w h)
  obtain ⟨hn1, hn2⟩ := signN_le s h
  generalize signN s h = n at *
  have hp : Says (if 0 < n then some ⟨n, 4, s.extract 0 n, 0⟩ else none) (.returned (.tuple #[.int .i64 (n : Int), .agg #[.int .i64 4, .string (s.extract 0 n), .int .i64 0, .int .i64 0], .bool (decide (0 < n))])) := by
    by_cases k : 0 < n
    · rw [if_pos k, decide_eq_true k]; exact says_some rfl rfl rfl rfl
    · rw [if_neg k, decide_eq_false k]; exact says_none _ _ _ _
  have HPs := Lib.hid hp
  clear hp hsl hl hd
  generalize (if 0 < n then some (⟨n, 4, s.extract 0 n, 0⟩ : Piece) else none) = P at *
  go_enter Tryd.func13, Tryd.ntmps13
  go_wp2_with (first | (go_at_call 21; refine (hpre.out _).mono ?_; rintro e w' ⟨rfl, rfl⟩) | (go_at_call 16; refine (hle.out _).mono ?_; rintro e w' ⟨rfl, rfl⟩) | (go_at_call 24; refine (hdi.out _).mono ?_; rintro e w' ⟨rfl, rfl⟩) | (go_at_call 27; refine (hsg.out _).mono ?_; rintro e w' ⟨rfl, rfl⟩))
  obtain ⟨w1, hw1⟩ : ∃ w1, w1 = w.alloc (.cells #[.int .i64 0, .string ⟨#[]⟩, .int .i64 0, .int .i64 0] 30) := ⟨_, rfl⟩
  have hblk := heap_new w (.cells #[.int .i64 0, .string ⟨#[]⟩, .int .i64 0, .int .i64 0] 30)
  rw [← hw1] at hblk
  have G : Below w.heap.size w w1 := by rw [hw1]; exact ext_alloc (Below.refl _ _) _
  rw [← hw1]
  obtain ⟨⟨c0, c1, c2, c3⟩, f0, f1, f2, f3⟩ := four_at hblk
  clear hblk hw1
  go_region_held3 (fun _ => True) (exact trivial) ((fail))
  go_wp2_with fail
  exact bodyPost_ret (v := .tuple #[.int .i64 n, .agg #[.int .i64 4, .string (s.extract 0 n), .int .i64 0, .int .i64 0], .bool (decide (0 < n))]) (by simp [results, Tryd.results13, go_sem, c0, c1, c2, c3]) rfl
    ⟨HPs.out, by repeat (first | exact G | (refine ext_drew ?_) | (refine ext_set ?_ (Nat.le_refl _) _))⟩
theorem piece_calls (s : ByteArray) (r : Int) (w : World) (hs : s.size ≤ 20000) (h : 0 < s.size) (hv : ErrVars w) :
    Calls Tryd.prog 13 #[.string s, .int .i32 r] w fun e w' => Says (pieceP s r h) e ∧ Below w.heap.size w w' := by
  unfold pieceP
  by_cases h1 : slashes s = true
  · rw [if_pos h1]; exact piece_comment s r w h1
  · rw [if_neg h1]
    have h1' : slashes s = false := by simpa using h1
    by_cases h2 : letterR r = true
    · rw [if_pos h2]; exact piece_word s r w _ h1' h2 (Lib.hid (fun w _ => word_calls s w (by omega))) hv
    · rw [if_neg h2]
      have h2' : letterR r = false := by simpa using h2
      by_cases h3 : digitR r = true
      · rw [if_pos h3]; exact piece_number s r w _ h1' h2' h3 (Lib.hid (fun w hv => number_calls s w hs h hv)) hv
      · rw [if_neg h3]
        have h3' : digitR r = false := by simpa using h3
        by_cases h4 : (r == 39) = true
        · rw [if_pos h4]; exact piece_character s r w _ h1' h2' h3' h4 (Lib.hid (fun w _ => character_calls s w (by omega) h)) hv
        · rw [if_neg h4]
          exact piece_sign s r w h h1' h2' h3' (by simpa using h4)
end Go.Proofs.YtpoomcejmdlmiaaDoor
