/- The kinds of characters, and how long a text begins with such. -/
import Derived.Test.YtpoomcejmdlmiaaDoorRows
import Derived.WalkKit
import Derived.ProofKit
import Derived.OpenShut
import Derived.WalkLawsBesides
import Derived.WalkSpells
import Derived.Outline
import Derived.Handy
import Derived.Lib.Hide
import Derived.Lib.OthersKept
import Derived.Test.YtpoomcejmdlmiaaDoorSc0
namespace Go.Proofs.YtpoomcejmdlmiaaDoor
open Go.ChangeShapes Go.WideShapes Go.ChangeAt Go.RowKit
set_option linter.unusedVariables false
theorem blank_any (r : Int) (w : World) : Calls Tryd.prog 12 #[.int .i32 r] w fun e w' => e = .returned (.bool (blankR r)) ∧ w = w' := by
  have hc : (r = 32 ∧ blankR r = true) ∨ (r = 9 ∧ blankR r = true) ∨ (r = 10 ∧ blankR r = true) ∨ (r = 13 ∧ blankR r = true) ∨ (((r == 32) = false ∧ (r == 9) = false ∧ (r == 10) = false ∧ (r == 13) = false) ∧ blankR r = false) := by unfold blankR; simp only [decide_eq_true_iff, decide_eq_false_iff_not, beq_eq_false_iff_ne]; omega
  rcases hc with ⟨h, e⟩ | ⟨h, e⟩ | ⟨h, e⟩ | ⟨h, e⟩ | ⟨h, e⟩
  all_goals
    rw [e]
    have E := Lib.hid e; clear e
    try (obtain ⟨h1, h2⟩ := h)
    try (obtain ⟨h2, h3⟩ := h2)
    try (obtain ⟨h3, h4⟩ := h3)
    go_enter Tryd.func12, Tryd.ntmps12
    go_wp2_with fail
    go_ret
    exact ⟨by first | rfl | exact ret_b (by simp; omega), rfl⟩
theorem digit_any (r : Int) (w : World) : Calls Tryd.prog 24 #[.int .i32 r] w fun e w' => e = .returned (.bool (digitR r)) ∧ w = w' := by
  have hc : (r < 48 ∧ digitR r = false) ∨ ((48 ≤ r ∧ r ≤ 57) ∧ digitR r = true) ∨ (57 < r ∧ digitR r = false) := by unfold digitR; simp only [decide_eq_true_iff, decide_eq_false_iff_not]; omega
  rcases hc with ⟨h, e⟩ | ⟨h, e⟩ | ⟨h, e⟩
  all_goals
    rw [e]
    have E := Lib.hid e; clear e
    try (obtain ⟨h1, h2⟩ := h)
    try (obtain ⟨h2, h3⟩ := h2)
    try (obtain ⟨h3, h4⟩ := h3)
    go_enter Tryd.func24, Tryd.ntmps24
    go_wp2_with fail
    go_ret
    exact ⟨by first | rfl | exact ret_b (by simp; omega), rfl⟩
theorem letter_any (r : Int) (w : World) : Calls Tryd.prog 16 #[.int .i32 r] w fun e w' => e = .returned (.bool (letterR r)) ∧ w = w' := by
  have hc : (r < 65 ∧ letterR r = false) ∨ ((65 ≤ r ∧ r ≤ 90) ∧ letterR r = true) ∨ ((90 < r ∧ r < 95) ∧ letterR r = false) ∨ (r = 95 ∧ letterR r = true) ∨ (r = 96 ∧ letterR r = false) ∨ ((97 ≤ r ∧ r ≤ 122) ∧ letterR r = true) ∨ (122 < r ∧ letterR r = false) := by unfold letterR; simp only [decide_eq_true_iff, decide_eq_false_iff_not]; omega
  rcases hc with ⟨h, e⟩ | ⟨h, e⟩ | ⟨h, e⟩ | ⟨h, e⟩ | ⟨h, e⟩ | ⟨h, e⟩ | ⟨h, e⟩
  all_goals
    rw [e]
    have E := Lib.hid e; clear e
    try (obtain ⟨h1, h2⟩ := h)
    try (obtain ⟨h2, h3⟩ := h2)
    try (obtain ⟨h3, h4⟩ := h3)
    go_enter Tryd.func16, Tryd.ntmps16
    go_wp2_with fail
    go_ret
    exact ⟨by first | rfl | exact ret_b (by simp; omega), rfl⟩
theorem inName_any (r : Int) (w : World) : Calls Tryd.prog 18 #[.int .i32 r] w fun e w' => e = .returned (.bool (inNameR r)) ∧ w = w' := by
  unfold inNameR
  cases h1 : letterR r
  all_goals cases h2 : digitR r
  all_goals
    go_enter Tryd.func18, Tryd.ntmps18
    go_wp2_with (first | (go_at_call 16; refine (letter_any _ _).mono ?_; rintro e w' ⟨rfl, rfl⟩) | (go_at_call 24; refine (digit_any _ _).mono ?_; rintro e w' ⟨rfl, rfl⟩))
    go_ret
    exact ⟨rfl, rfl⟩
theorem word_any (s : ByteArray) (w : World) : Calls Tryd.prog 10 #[.string s] w fun e w' => e = .returned (.bool (wordB s)) ∧ w = w' := by
  cases h0 : (s.toList == [105, 110, 116])
  case true =>
    have e : wordB s = true := by unfold wordB; rw [h0]; rfl
    rw [e]; have E := Lib.hid e; clear e
    go_enter Tryd.func10, Tryd.ntmps10
    go_wp2
    go_ret
    exact ⟨rfl, rfl⟩
  cases h1 : (s.toList == [105, 102])
  case true =>
    have e : wordB s = true := by unfold wordB; rw [h0, h1]; rfl
    rw [e]; have E := Lib.hid e; clear e
    go_enter Tryd.func10, Tryd.ntmps10
    go_wp2
    go_ret
    exact ⟨rfl, rfl⟩
  cases h2 : (s.toList == [101, 108, 115, 101])
  case true =>
    have e : wordB s = true := by unfold wordB; rw [h0, h1, h2]; rfl
    rw [e]; have E := Lib.hid e; clear e
    go_enter Tryd.func10, Tryd.ntmps10
    go_wp2
    go_ret
    exact ⟨rfl, rfl⟩
  cases h3 : (s.toList == [119, 104, 105, 108, 101])
  case true =>
    have e : wordB s = true := by unfold wordB; rw [h0, h1, h2, h3]; rfl
    rw [e]; have E := Lib.hid e; clear e
    go_enter Tryd.func10, Tryd.ntmps10
    go_wp2
    go_ret
    exact ⟨rfl, rfl⟩
  cases h4 : (s.toList == [98, 114, 101, 97, 107])
  case true =>
    have e : wordB s = true := by unfold wordB; rw [h0, h1, h2, h3, h4]; rfl
    rw [e]; have E := Lib.hid e; clear e
    go_enter Tryd.func10, Tryd.ntmps10
    go_wp2
    go_ret
    exact ⟨rfl, rfl⟩
  cases h5 : (s.toList == [99, 111, 110, 116, 105, 110, 117, 101])
  case true =>
    have e : wordB s = true := by unfold wordB; rw [h0, h1, h2, h3, h4, h5]; rfl
    rw [e]; have E := Lib.hid e; clear e
    go_enter Tryd.func10, Tryd.ntmps10
    go_wp2
    go_ret
    exact ⟨rfl, rfl⟩
  cases h6 : (s.toList == [114, 101, 116, 117, 114, 110])
  case true =>
    have e : wordB s = true := by unfold wordB; rw [h0, h1, h2, h3, h4, h5, h6]; rfl
    rw [e]; have E := Lib.hid e; clear e
    go_enter Tryd.func10, Tryd.ntmps10
    go_wp2
    go_ret
    exact ⟨rfl, rfl⟩
  cases h7 : (s.toList == [112, 114, 105, 110, 116])
  case true =>
    have e : wordB s = true := by unfold wordB; rw [h0, h1, h2, h3, h4, h5, h6, h7]; rfl
    rw [e]; have E := Lib.hid e; clear e
    go_enter Tryd.func10, Tryd.ntmps10
    go_wp2
    go_ret
    exact ⟨rfl, rfl⟩
  cases h8 : (s.toList == [114, 101, 97, 100])
  case true =>
    have e : wordB s = true := by unfold wordB; rw [h0, h1, h2, h3, h4, h5, h6, h7, h8]; rfl
    rw [e]; have E := Lib.hid e; clear e
    go_enter Tryd.func10, Tryd.ntmps10
    go_wp2
    go_ret
    exact ⟨rfl, rfl⟩
  cases h9 : (s.toList == [116, 114, 97, 112])
  case true =>
    have e : wordB s = true := by unfold wordB; rw [h0, h1, h2, h3, h4, h5, h6, h7, h8, h9]; rfl
    rw [e]; have E := Lib.hid e; clear e
    go_enter Tryd.func10, Tryd.ntmps10
    go_wp2
    go_ret
    exact ⟨rfl, rfl⟩
  have e : wordB s = false := by unfold wordB; rw [h0, h1, h2, h3, h4, h5, h6, h7, h8, h9]; rfl
  rw [e]; have E := Lib.hid e; clear e
  go_enter Tryd.func10, Tryd.ntmps10
  go_wp2
  go_ret
  exact ⟨rfl, rfl⟩
theorem spanN_any (s : ByteArray) (w : World) :
    Calls Tryd.prog 17 #[.string s, .func (.func 18) #[] #[]] w fun e w' => e = .returned (.int .i64 (spanL inNameR s)) ∧ Below w.heap.size w w' := by
  go_enter Tryd.func17, Tryd.ntmps17
  go_wp2_with fail
  go_loopw [] (fun wr => ∃ pos : Nat, pos ≤ s.size ∧ wr.heap[w.heap.size]? = some (.stringIter s pos) ∧ Below w.heap.size w wr ∧ spanL inNameR s = spanR inNameR s s.size pos) (fun wr => s.size - wr.iterPos w.heap.size)
  case atStart => exact ⟨0, Nat.zero_le _, World.iter_heap _ _ _, (Below.refl _ _).alloc (Nat.le_refl _) _, rfl⟩
  case round =>
    obtain ⟨pos, hp, hit, hb, hs2⟩ := hrel
    have HS := Lib.hid hs2; clear hs2
    have HI := Lib.hid hit
    by_cases hlt : pos < s.size
    · have hst := Lib.hid (spanR_step inNameR s pos hlt)
      have hw1 := wd_pos s pos hlt
      have hw2 := wd_le s pos hlt
      have hnx := fun ty => next_at (P := Tryd.prog) ty hit hlt
      have hit2 := Lib.hid (Lib.iterAt_heap wr _ s pos (pos + wd s pos) hit)
      clear hit
      cases hc : inNameR (rn s pos)
      all_goals
        go_wp2_with (go_at_call 18; refine (inName_any _ _).mono ?_; rintro e w' ⟨rfl, rfl⟩)
      · go_ret
        exact ⟨by rw [HS.out, hst.out, hc]; rfl, Lib.below_iterAt hb (Nat.le_refl _) _ _⟩
      · go_roundw
        case rel => exact ⟨pos + wd s pos, hw2, hit2.out, Lib.below_iterAt hb (Nat.le_refl _) _ _, by rw [HS.out, hst.out, hc]; rfl⟩
        case measure =>
          have a : wr.iterPos w.heap.size = pos := by simp [World.iterPos, HI.out]
          have b : (wr.iterAt w.heap.size s (pos + wd s pos)).iterPos w.heap.size = pos + wd s pos := by simp [World.iterPos, hit2.out]
          omega
    · have hnx := fun ty => next_end (P := Tryd.prog) ty hit hlt
      have he := Lib.hid (spanR_end inNameR s s.size pos hlt)
      clear hit
      go_wp2_with fail
      go_ret
      exact ⟨by rw [HS.out, he.out]; rfl, hb⟩
theorem spanD_any (s : ByteArray) (w : World) :
    Calls Tryd.prog 17 #[.string s, .func (.func 24) #[] #[]] w fun e w' => e = .returned (.int .i64 (spanL digitR s)) ∧ Below w.heap.size w w' := by
  go_enter Tryd.func17, Tryd.ntmps17
  go_wp2_with fail
  go_loopw [] (fun wr => ∃ pos : Nat, pos ≤ s.size ∧ wr.heap[w.heap.size]? = some (.stringIter s pos) ∧ Below w.heap.size w wr ∧ spanL digitR s = spanR digitR s s.size pos) (fun wr => s.size - wr.iterPos w.heap.size)
  case atStart => exact ⟨0, Nat.zero_le _, World.iter_heap _ _ _, (Below.refl _ _).alloc (Nat.le_refl _) _, rfl⟩
  case round =>
    obtain ⟨pos, hp, hit, hb, hs2⟩ := hrel
    have HS := Lib.hid hs2; clear hs2
    have HI := Lib.hid hit
    by_cases hlt : pos < s.size
    · have hst := Lib.hid (spanR_step digitR s pos hlt)
      have hw1 := wd_pos s pos hlt
      have hw2 := wd_le s pos hlt
      have hnx := fun ty => next_at (P := Tryd.prog) ty hit hlt
      have hit2 := Lib.hid (Lib.iterAt_heap wr _ s pos (pos + wd s pos) hit)
      clear hit
      cases hc : digitR (rn s pos)
      all_goals
        go_wp2_with (go_at_call 24; refine (digit_any _ _).mono ?_; rintro e w' ⟨rfl, rfl⟩)
      · go_ret
        exact ⟨by rw [HS.out, hst.out, hc]; rfl, Lib.below_iterAt hb (Nat.le_refl _) _ _⟩
      · go_roundw
        case rel => exact ⟨pos + wd s pos, hw2, hit2.out, Lib.below_iterAt hb (Nat.le_refl _) _ _, by rw [HS.out, hst.out, hc]; rfl⟩
        case measure =>
          have a : wr.iterPos w.heap.size = pos := by simp [World.iterPos, HI.out]
          have b : (wr.iterAt w.heap.size s (pos + wd s pos)).iterPos w.heap.size = pos + wd s pos := by simp [World.iterPos, hit2.out]
          omega
    · have hnx := fun ty => next_end (P := Tryd.prog) ty hit hlt
      have he := Lib.hid (spanR_end digitR s s.size pos hlt)
      clear hit
      go_wp2_with fail
      go_ret
      exact ⟨by rw [HS.out, he.out]; rfl, hb⟩
end Go.Proofs.YtpoomcejmdlmiaaDoor
