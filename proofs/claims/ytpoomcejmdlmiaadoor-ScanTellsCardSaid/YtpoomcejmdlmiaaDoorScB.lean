/- Comments, words and signs. -/
import Derived.Test.YtpoomcejmdlmiaaDoorRows
import Derived.WalkKit
import Derived.ProofKit
import Derived.OpenShut
import Derived.WalkLawsBesides
import Derived.WalkSpells
import Derived.Outline
import Derived.Handy
import Derived.Lib.Hide
import Derived.Lib.OthersKept
import Derived.Test.YtpoomcejmdlmiaaDoorSc0
import Derived.RegionTactic
import Derived.BigRegion
import Derived.Test.YtpoomcejmdlmiaaDoorScA
namespace Go.Proofs.YtpoomcejmdlmiaaDoor
open Go.ChangeShapes Go.WideShapes Go.ChangeAt Go.RowKit
set_option linter.unusedVariables false
/-- Where a comment ends, and whether it is whole. -/
def cmtR (s : ByteArray) : Nat → Nat → Nat × Bool
  | 0, _ => (s.size, true)
  | f + 1, i => if i < s.size then (if rn s i = 10 then (i, true) else if rn s i = 65533 then (0, false) else cmtR s f (i + wd s i)) else (s.size, true)
theorem cmtR_end (s : ByteArray) (f i : Nat) (h : ¬ i < s.size) : cmtR s f i = (s.size, true) := by cases f <;> simp [cmtR, h]
theorem cmtR_more (s : ByteArray) : ∀ f g i, s.size - i ≤ f → s.size - i ≤ g → cmtR s f i = cmtR s g i := by
  intro f
  induction f with
  | zero => intro g i hf hg; rw [cmtR_end _ _ _ (by omega), cmtR_end _ _ _ (by omega)]
  | succ f ih =>
    intro g i hf hg
    by_cases h : i < s.size
    · cases g with
      | zero => omega
      | succ g =>
        have hw := wd_pos s i h
        simp only [cmtR, h, if_true]
        split
        · rfl
        · split
          · rfl
          · exact ih g _ (by omega) (by omega)
    · rw [cmtR_end _ _ _ h, cmtR_end _ _ _ h]
def cmtL (s : ByteArray) : Nat × Bool := cmtR s s.size 0
theorem cmtR_step (s : ByteArray) (i : Nat) (h : i < s.size) : cmtR s s.size i = if rn s i = 10 then (i, true) else if rn s i = 65533 then (0, false) else cmtR s s.size (i + wd s i) := by
  have hw := wd_pos s i h
  rw [cmtR_more s s.size (s.size - i + 1) i (by omega) (by omega), cmtR, if_pos h]
  split
  · rfl
  · split
    · rfl
    · exact cmtR_more s _ _ _ (by omega) (by omega)
theorem ret_ib {a b : Int} {c d : Bool} (h : a = b) (k : c = d) : Ending.returned (.tuple #[.int .i64 a, .bool c]) = .returned (.tuple #[.int .i64 b, .bool d]) := by rw [h, k]
theorem comment_any (s : ByteArray) (w : World) : Calls Tryd.prog 22 #[.string s] w fun e w' => e = .returned (.tuple #[.int .i64 (cmtL s).1, .bool (cmtL s).2]) ∧ Below w.heap.size w w' := by
  go_enter Tryd.func22, Tryd.ntmps22
  go_wp2_with fail
  go_loopw [] (fun wr => ∃ pos : Nat, pos ≤ s.size ∧ wr.heap[w.heap.size]? = some (.stringIter s pos) ∧ Below w.heap.size w wr ∧ cmtL s = cmtR s s.size pos) (fun wr => s.size - wr.iterPos w.heap.size)
  case atStart => exact ⟨0, Nat.zero_le _, World.iter_heap _ _ _, (Below.refl _ _).alloc (Nat.le_refl _) _, rfl⟩
  case round =>
    obtain ⟨pos, hp, hit, hb, hs2⟩ := hrel
    have HS := Lib.hid hs2; clear hs2
    have HI := Lib.hid hit
    by_cases hlt : pos < s.size
    · have hst := Lib.hid (cmtR_step s pos hlt)
      have hw1 := wd_pos s pos hlt
      have hw2 := wd_le s pos hlt
      have hnx := fun ty => next_at (P := Tryd.prog) ty hit hlt
      have hit2 := Lib.hid (Lib.iterAt_heap wr _ s pos (pos + wd s pos) hit)
      clear hit
      cases hc : (rn s pos == 10)
      · cases hd : (rn s pos == 65533)
        · have h1 : cmtL s = cmtR s s.size (pos + wd s pos) := by rw [HS.out, hst.out, if_neg (by simpa using hc), if_neg (by simpa using hd)]
          have H1 := Lib.hid h1; clear h1
          go_wp2_with fail
          go_roundw
          case rel => exact ⟨pos + wd s pos, hw2, hit2.out, Lib.below_iterAt hb (Nat.le_refl _) _ _, H1.out⟩
          case measure =>
            have a : wr.iterPos w.heap.size = pos := by simp [World.iterPos, HI.out]
            have b : (wr.iterAt w.heap.size s (pos + wd s pos)).iterPos w.heap.size = pos + wd s pos := by simp [World.iterPos, hit2.out]
            omega
        · have h1 : cmtL s = (0, false) := by rw [HS.out, hst.out, if_neg (by simpa using hc), if_pos (by simpa using hd)]
          have H1 := Lib.hid h1; clear h1
          go_wp2_with fail
          go_ret2
          exact ⟨by rw [H1.out]; rfl, Lib.below_iterAt hb (Nat.le_refl _) _ _⟩
      · have h1 : cmtL s = (pos, true) := by rw [HS.out, hst.out, if_pos (by simpa using hc)]
        have H1 := Lib.hid h1; clear h1
        go_wp2_with fail
        go_ret2
        exact ⟨by rw [H1.out]; rfl, Lib.below_iterAt hb (Nat.le_refl _) _ _⟩
    · have hnx := fun ty => next_end (P := Tryd.prog) ty hit hlt
      have he := Lib.hid (cmtR_end s s.size pos hlt)
      clear hit
      go_wp2_with fail
      go_ret2
      exact ⟨by rw [HS.out, he.out]; rfl, hb⟩
theorem spanR_le (p : Int → Bool) (s : ByteArray) : ∀ f i, i ≤ s.size → spanR p s f i ≤ s.size := by
  intro f
  induction f with
  | zero => intro i _; exact Nat.le_refl _
  | succ f ih =>
    intro i hi
    unfold spanR
    split
    · rename_i h
      split
      · exact ih _ (wd_le s i h)
      · exact hi
    · exact Nat.le_refl _
theorem spanL_le (p : Int → Bool) (s : ByteArray) : spanL p s ≤ s.size := spanR_le p s _ _ (Nat.zero_le _)
def wordP (s : ByteArray) : Option Piece :=
  if wordB (s.extract 0 (spanL inNameR s)) then some ⟨spanL inNameR s, 2, s.extract 0 (spanL inNameR s), 0⟩
  else if spanL inNameR s ≤ 20 then some ⟨spanL inNameR s, 1, s.extract 0 (spanL inNameR s), 0⟩ else none
theorem word_calls (s : ByteArray) (w : World) (hs : s.size ≤ 9223372036854775807) : Calls Tryd.prog 23 #[.string s] w fun e w' => Says (wordP s) e ∧ Below w.heap.size w w' := by
  have hn := spanL_le inNameR s
  have hc := Lib.hid (fun w => spanN_any s w)
  unfold wordP
  generalize spanL inNameR s = n at *
  cases hb : wordB (s.extract 0 n)
  · rw [if_neg (by simp)]
    by_cases hk : n ≤ 20
    · rw [if_pos hk]
      go_enter Tryd.func23, Tryd.ntmps23
      go_wp2_with (first | (go_at_call 17; refine (hc.out _).mono ?_; rintro e w' ⟨rfl, g1⟩) | (go_at_call 10; refine (word_any _ _).mono ?_; rintro e w' ⟨rfl, rfl⟩))
      have hblk := (g1.block w.heap.size (by simp)).trans (heap_new _ _)
      obtain ⟨⟨c0, c1, c2, c3⟩, f0, f1, f2, f3⟩ := four_at hblk
      clear hblk
      go_region
      go_wp2_with fail
      have G : Below w.heap.size w w' := ext_trans (ext_alloc (Below.refl _ _) _) g1
      exact bodyPost_ret (v := .tuple #[.int .i64 n, .agg #[.int .i64 1, .string (s.extract 0 n), .int .i64 0, .int .i64 0], .bool true]) (by simp [results, Tryd.results23, go_sem, c0, c1, c2, c3]; try omega) rfl
        ⟨says_some rfl rfl rfl rfl, ext_drew (ext_set (ext_set (ext_set (ext_set G (Nat.le_refl _) _) (Nat.le_refl _) _) (Nat.le_refl _) _) (Nat.le_refl _) _)⟩
    · rw [if_neg hk]
      go_enter Tryd.func23, Tryd.ntmps23
      go_wp2_with (first | (go_at_call 17; refine (hc.out _).mono ?_; rintro e w' ⟨rfl, g1⟩) | (go_at_call 10; refine (word_any _ _).mono ?_; rintro e w' ⟨rfl, rfl⟩))
      have hblk := (g1.block w.heap.size (by simp)).trans (heap_new _ _)
      obtain ⟨⟨c0, c1, c2, c3⟩, f0, f1, f2, f3⟩ := four_at hblk
      clear hblk
      go_region
      go_wp2_with fail
      have G : Below w.heap.size w w' := ext_trans (ext_alloc (Below.refl _ _) _) g1
      exact bodyPost_ret (v := .tuple #[.int .i64 n, .agg #[.int .i64 1, .string (s.extract 0 n), .int .i64 0, .int .i64 0], .bool false]) (by simp [results, Tryd.results23, go_sem, c0, c1, c2, c3]; try omega) rfl
        ⟨says_none _ _ _ _, ext_drew (ext_set (ext_set (ext_set (ext_set G (Nat.le_refl _) _) (Nat.le_refl _) _) (Nat.le_refl _) _) (Nat.le_refl _) _)⟩
  · rw [if_pos rfl]
    go_enter Tryd.func23, Tryd.ntmps23
    go_wp2_with (first | (go_at_call 17; refine (hc.out _).mono ?_; rintro e w' ⟨rfl, g1⟩) | (go_at_call 10; refine (word_any _ _).mono ?_; rintro e w' ⟨rfl, rfl⟩))
    have hblk := (g1.block w.heap.size (by simp)).trans (heap_new _ _)
    obtain ⟨⟨c0, c1, c2, c3⟩, f0, f1, f2, f3⟩ := four_at hblk
    clear hblk
    go_region
    go_wp2_with fail
    have G : Below w.heap.size w w' := ext_trans (ext_alloc (Below.refl _ _) _) g1
    exact bodyPost_ret (v := .tuple #[.int .i64 n, .agg #[.int .i64 2, .string (s.extract 0 n), .int .i64 0, .int .i64 0], .bool true]) (by simp [results, Tryd.results23, go_sem, c0, c1, c2, c3]) rfl
      ⟨says_some rfl rfl rfl rfl, ext_drew (ext_set (ext_set (ext_set (ext_set G (Nat.le_refl _) _) (Nat.le_refl _) _) (Nat.le_refl _) _) (Nat.le_refl _) _)⟩
end Go.Proofs.YtpoomcejmdlmiaaDoor
