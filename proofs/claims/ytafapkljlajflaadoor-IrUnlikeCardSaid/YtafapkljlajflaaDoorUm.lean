/- scan.Name. -/
import Derived.Test.YtafapkljlajflaaDoorRows
import Derived.WalkKit
import Derived.ProofKit
import Derived.OpenShut
import Derived.WalkLawsBesides
import Derived.WalkSpells
import Derived.Outline
import Derived.Handy
import Derived.Lib.Hide
import Derived.Lib.OthersKept
import Derived.KernelRfl
import Derived.Carry
import Derived.RegionTactic
import Derived.BigRegion
import Derived.Test.YtafapkljlajflaaDoorUm0
namespace Go.Proofs.YtafapkljlajflaaDoor
open Go.ChangeShapes Go.WideShapes Go.ChangeAt Go.RowKit
set_option linter.unusedVariables false
theorem digit_any (r : Int) (w : World) : Calls Tryd.prog 91 #[.int .i32 r] w fun e w' => e = .returned (.bool (digitR r)) ∧ w = w' := by
  have hc : (r < 48 ∧ digitR r = false) ∨ ((48 ≤ r ∧ r ≤ 57) ∧ digitR r = true) ∨ (57 < r ∧ digitR r = false) := by unfold digitR; simp only [decide_eq_true_iff, decide_eq_false_iff_not]; omega
  rcases hc with ⟨h, e⟩ | ⟨h, e⟩ | ⟨h, e⟩
  all_goals
    rw [e]
    have E := Lib.hid e; clear e
    try (obtain ⟨h1, h2⟩ := h)
    try (obtain ⟨h2, h3⟩ := h2)
    try (obtain ⟨h3, h4⟩ := h3)
    go_enter Tryd.func91, Tryd.ntmps91
    go_wp2_with fail
    go_ret
    exact ⟨by first | rfl | exact ret_b (by simp; omega), rfl⟩
theorem letter_any (r : Int) (w : World) : Calls Tryd.prog 80 #[.int .i32 r] w fun e w' => e = .returned (.bool (letterR r)) ∧ w = w' := by
  have hc : (r < 65 ∧ letterR r = false) ∨ ((65 ≤ r ∧ r ≤ 90) ∧ letterR r = true) ∨ ((90 < r ∧ r < 95) ∧ letterR r = false) ∨ (r = 95 ∧ letterR r = true) ∨ (r = 96 ∧ letterR r = false) ∨ ((97 ≤ r ∧ r ≤ 122) ∧ letterR r = true) ∨ (122 < r ∧ letterR r = false) := by unfold letterR; simp only [decide_eq_true_iff, decide_eq_false_iff_not]; omega
  rcases hc with ⟨h, e⟩ | ⟨h, e⟩ | ⟨h, e⟩ | ⟨h, e⟩ | ⟨h, e⟩ | ⟨h, e⟩ | ⟨h, e⟩
  all_goals
    rw [e]
    have E := Lib.hid e; clear e
    try (obtain ⟨h1, h2⟩ := h)
    try (obtain ⟨h2, h3⟩ := h2)
    try (obtain ⟨h3, h4⟩ := h3)
    go_enter Tryd.func80, Tryd.ntmps80
    go_wp2_with fail
    go_ret
    exact ⟨by first | rfl | exact ret_b (by simp; omega), rfl⟩
theorem inName_any (r : Int) (w : World) : Calls Tryd.prog 82 #[.int .i32 r] w fun e w' => e = .returned (.bool (inNameR r)) ∧ w = w' := by
  unfold inNameR
  cases h1 : letterR r
  all_goals cases h2 : digitR r
  all_goals
    go_enter Tryd.func82, Tryd.ntmps82
    go_wp2_with (first | (go_at_call 80; refine (letter_any _ _).mono ?_; rintro e w' ⟨rfl, rfl⟩) | (go_at_call 91; refine (digit_any _ _).mono ?_; rintro e w' ⟨rfl, rfl⟩))
    go_ret
    exact ⟨rfl, rfl⟩
theorem word_any (s : ByteArray) (w : World) : Calls Tryd.prog 79 #[.string s] w fun e w' => e = .returned (.bool (wordB s)) ∧ w = w' := by
  cases h0 : (s.toList == [105, 110, 116])
  case true =>
    have e : wordB s = true := by unfold wordB; rw [h0]; rfl
    rw [e]; have E := Lib.hid e; clear e
    go_enter Tryd.func79, Tryd.ntmps79
    go_wp2
    go_ret
    exact ⟨rfl, rfl⟩
  cases h1 : (s.toList == [105, 102])
  case true =>
    have e : wordB s = true := by unfold wordB; rw [h0, h1]; rfl
    rw [e]; have E := Lib.hid e; clear e
    go_enter Tryd.func79, Tryd.ntmps79
    go_wp2
    go_ret
    exact ⟨rfl, rfl⟩
  cases h2 : (s.toList == [101, 108, 115, 101])
  case true =>
    have e : wordB s = true := by unfold wordB; rw [h0, h1, h2]; rfl
    rw [e]; have E := Lib.hid e; clear e
    go_enter Tryd.func79, Tryd.ntmps79
    go_wp2
    go_ret
    exact ⟨rfl, rfl⟩
  cases h3 : (s.toList == [119, 104, 105, 108, 101])
  case true =>
    have e : wordB s = true := by unfold wordB; rw [h0, h1, h2, h3]; rfl
    rw [e]; have E := Lib.hid e; clear e
    go_enter Tryd.func79, Tryd.ntmps79
    go_wp2
    go_ret
    exact ⟨rfl, rfl⟩
  cases h4 : (s.toList == [98, 114, 101, 97, 107])
  case true =>
    have e : wordB s = true := by unfold wordB; rw [h0, h1, h2, h3, h4]; rfl
    rw [e]; have E := Lib.hid e; clear e
    go_enter Tryd.func79, Tryd.ntmps79
    go_wp2
    go_ret
    exact ⟨rfl, rfl⟩
  cases h5 : (s.toList == [99, 111, 110, 116, 105, 110, 117, 101])
  case true =>
    have e : wordB s = true := by unfold wordB; rw [h0, h1, h2, h3, h4, h5]; rfl
    rw [e]; have E := Lib.hid e; clear e
    go_enter Tryd.func79, Tryd.ntmps79
    go_wp2
    go_ret
    exact ⟨rfl, rfl⟩
  cases h6 : (s.toList == [114, 101, 116, 117, 114, 110])
  case true =>
    have e : wordB s = true := by unfold wordB; rw [h0, h1, h2, h3, h4, h5, h6]; rfl
    rw [e]; have E := Lib.hid e; clear e
    go_enter Tryd.func79, Tryd.ntmps79
    go_wp2
    go_ret
    exact ⟨rfl, rfl⟩
  cases h7 : (s.toList == [112, 114, 105, 110, 116])
  case true =>
    have e : wordB s = true := by unfold wordB; rw [h0, h1, h2, h3, h4, h5, h6, h7]; rfl
    rw [e]; have E := Lib.hid e; clear e
    go_enter Tryd.func79, Tryd.ntmps79
    go_wp2
    go_ret
    exact ⟨rfl, rfl⟩
  cases h8 : (s.toList == [114, 101, 97, 100])
  case true =>
    have e : wordB s = true := by unfold wordB; rw [h0, h1, h2, h3, h4, h5, h6, h7, h8]; rfl
    rw [e]; have E := Lib.hid e; clear e
    go_enter Tryd.func79, Tryd.ntmps79
    go_wp2
    go_ret
    exact ⟨rfl, rfl⟩
  cases h9 : (s.toList == [116, 114, 97, 112])
  case true =>
    have e : wordB s = true := by unfold wordB; rw [h0, h1, h2, h3, h4, h5, h6, h7, h8, h9]; rfl
    rw [e]; have E := Lib.hid e; clear e
    go_enter Tryd.func79, Tryd.ntmps79
    go_wp2
    go_ret
    exact ⟨rfl, rfl⟩
  have e : wordB s = false := by unfold wordB; rw [h0, h1, h2, h3, h4, h5, h6, h7, h8, h9]; rfl
  rw [e]; have E := Lib.hid e; clear e
  go_enter Tryd.func79, Tryd.ntmps79
  go_wp2
  go_ret
  exact ⟨rfl, rfl⟩
theorem spanN_any (s : ByteArray) (w : World) :
    Calls Tryd.prog 81 #[.string s, .func (.func 82) #[] #[]] w fun e w' => e = .returned (.int .i64 (spanL inNameR s)) ∧ Below w.heap.size w w' := by
  go_enter Tryd.func81, Tryd.ntmps81
  go_wp2_with fail
  go_loopw [] (fun wr => ∃ pos : Nat, pos ≤ s.size ∧ wr.heap[w.heap.size]? = some (.stringIter s pos) ∧ Below w.heap.size w wr ∧ spanL inNameR s = spanR inNameR s s.size pos) (fun wr => s.size - wr.iterPos w.heap.size)
  case atStart => exact ⟨0, Nat.zero_le _, World.iter_heap _ _ _, (Below.refl _ _).alloc (Nat.le_refl _) _, rfl⟩
  case round =>
    obtain ⟨pos, hp, hit, hb, hs2⟩ := hrel
    have HS := Lib.hid hs2; clear hs2
    have HI := Lib.hid hit
    by_cases hlt : pos < s.size
    · have hst := Lib.hid (spanR_step inNameR s pos hlt)
      have hw1 := wd_pos s pos hlt
      have hw2 := wd_le s pos hlt
      have hnx := fun ty => next_at (P := Tryd.prog) ty hit hlt
      have hit2 := Lib.hid (Lib.iterAt_heap wr _ s pos (pos + wd s pos) hit)
      clear hit
      cases hc : inNameR (rn s pos)
      all_goals
        go_wp2_with (go_at_call 82; refine (inName_any _ _).mono ?_; rintro e w' ⟨rfl, rfl⟩)
      · go_ret
        exact ⟨by rw [HS.out, hst.out, hc]; rfl, Lib.below_iterAt hb (Nat.le_refl _) _ _⟩
      · go_roundw
        case rel => exact ⟨pos + wd s pos, hw2, hit2.out, Lib.below_iterAt hb (Nat.le_refl _) _ _, by rw [HS.out, hst.out, hc]; rfl⟩
        case measure =>
          have a : wr.iterPos w.heap.size = pos := by simp [World.iterPos, HI.out]
          have b : (wr.iterAt w.heap.size s (pos + wd s pos)).iterPos w.heap.size = pos + wd s pos := by simp [World.iterPos, hit2.out]
          omega
    · have hnx := fun ty => next_end (P := Tryd.prog) ty hit hlt
      have he := Lib.hid (spanR_end inNameR s s.size pos hlt)
      clear hit
      go_wp2_with fail
      go_ret
      exact ⟨by rw [HS.out, he.out]; rfl, hb⟩
theorem first_byte (s : ByteArray) (h : 0 < s.size) : s.data.toList.getD 0 0 = s[0]'h := by
  have h' : 0 < s.data.toList.length := by simpa using h
  rw [List.getD_eq_getElem?_getD, List.getElem?_eq_getElem h']
  simp; rfl
theorem name_calls (s : ByteArray) (w : World) (hs : s.size ≤ 9223372036854775807) : Calls Tryd.prog 47 #[.string s] w fun e w' => e = .returned (.bool (nameB s)) ∧ Below w.heap.size w w' := by
  have hsp := Lib.hid (fun w => spanN_any s w)
  have hwo := Lib.hid (fun w => word_any s w)
  unfold nameB
  by_cases h1 : 1 ≤ s.size
  case neg =>
    rw [decide_eq_false h1]
    have h1' : s.size < 1 := by omega
    go_enter Tryd.func47, Tryd.ntmps47
    go_wp2_with fail
    go_ret
    exact ⟨rfl, Below.refl _ _⟩
  rw [decide_eq_true h1]
  by_cases h2 : s.size ≤ 20
  case neg =>
    rw [decide_eq_false h2]
    have h2' : 20 < s.size := by omega
    go_enter Tryd.func47, Tryd.ntmps47
    go_wp2_with fail
    go_ret
    exact ⟨rfl, Below.refl _ _⟩
  rw [decide_eq_true h2, first_byte s h1]
  cases h3 : wordB s
  case true =>
    rw [h3] at hwo
    go_enter Tryd.func47, Tryd.ntmps47
    go_wp2_with (go_at_call 79; refine (hwo.out _).mono ?_; rintro e w' ⟨rfl, rfl⟩)
    go_ret
    exact ⟨rfl, Below.refl _ _⟩
  rw [h3] at hwo
  have h32 : wrap32 ((s[0]'h1).toNat : Int) = ((s[0]'h1).toNat : Int) := by
    have := UInt8.toNat_lt (s[0]'h1)
    unfold wrap32; omega
  have hle : Hid (∀ w, Calls Tryd.prog 80 #[.int .i32 (wrap32 ((s[0]'h1).toNat : Int))] w fun e w' => e = .returned (.bool (letterR ((s[0]'h1).toNat : Int))) ∧ w = w') := Lib.hid (fun w => by rw [h32]; exact letter_any _ w)
  clear h32
  cases h4 : letterR ((s[0]'h1).toNat : Int)
  all_goals
    rw [h4] at hle
    generalize hn : spanL inNameR s = n at *
    have he : ((n : Int) == (s.size : Int)) = (n == s.size) := by rw [Bool.eq_iff_iff]; simp only [beq_iff_eq]; omega
    generalize hb : (n == s.size) = b at *
    clear hn hb h4 h3
    go_enter Tryd.func47, Tryd.ntmps47
    go_wp2_with (first | (go_at_call 79; refine (hwo.out _).mono ?_; rintro e w' ⟨rfl, rfl⟩) | (go_at_call 80; refine (hle.out _).mono ?_; rintro e w' ⟨rfl, rfl⟩) | (go_at_call 81; refine (hsp.out _).mono ?_; rintro e w' ⟨rfl, g⟩))
  · go_ret
    exact ⟨rfl, Below.refl _ _⟩
  · go_ret
    exact ⟨rfl, g⟩
end Go.Proofs.YtafapkljlajflaaDoor
