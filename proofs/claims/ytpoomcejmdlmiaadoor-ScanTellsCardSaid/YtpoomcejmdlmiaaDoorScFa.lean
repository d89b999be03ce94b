/- The document's own answer, in plain words: what is decoded ahead of a line feed; comments; blanks. -/
import Derived.Test.YtpoomcejmdlmiaaDoorScEe
namespace Go.Proofs.YtpoomcejmdlmiaaDoor
open Go.ChangeShapes Go.WideShapes Go.ChangeAt Go.RowKit
set_option linter.unusedVariables false
open Lib (decodeN)
set_option maxRecDepth 100000 in
set_option maxHeartbeats 2000000 in
/-- A sequence that is cut by a byte that does not go on with it decodes as it does alone. -/
theorem decodeN_cut (n m b0 b1 b2 b3 c1 c2 c3 : Nat) (hn : 1 ≤ n) (hm : n ≤ m) (e1 : 1 < n → c1 = b1) (e2 : 2 < n → c2 = b2) (e3 : 3 < n → c3 = b3)
    (f1 : n = 1 → c1 / 64 ≠ 2) (f2 : n = 2 → c2 / 64 ≠ 2) (f3 : n = 3 → c3 / 64 ≠ 2) : decodeN m b0 c1 c2 c3 = decodeN n b0 b1 b2 b3 := by
  rcases (by omega : n = 1 ∨ n = 2 ∨ n = 3 ∨ 3 < n) with h | h | h | h
  · have g := f1 h
    unfold decodeN
    repeat' split
    all_goals first | rfl | (exfalso; omega)
  · have g := f2 h
    obtain rfl := e1 (by omega)
    unfold decodeN
    repeat' split
    all_goals first | rfl | (exfalso; omega)
  · have g := f3 h
    obtain rfl := e1 (by omega)
    obtain rfl := e2 (by omega)
    unfold decodeN
    repeat' split
    all_goals first | rfl | (exfalso; omega)
  · obtain rfl := e1 (by omega)
    obtain rfl := e2 (by omega)
    obtain rfl := e3 (by omega)
    unfold decodeN
    repeat' split
    all_goals first | rfl | (exfalso; omega)
set_option maxRecDepth 100000 in
set_option maxHeartbeats 2000000 in
theorem decodeN_facts (n b0 b1 b2 b3 : Nat) : ((decodeN n b0 b1 b2 b3).1 < 128 → b0 = (decodeN n b0 b1 b2 b3).1) ∧ (1 < (decodeN n b0 b1 b2 b3).2 → 128 ≤ b0 ∧ b1 / 64 = 2) ∧ (2 < (decodeN n b0 b1 b2 b3).2 → b2 / 64 = 2) ∧ (3 < (decodeN n b0 b1 b2 b3).2 → b3 / 64 = 2) ∧ (decodeN n b0 b1 b2 b3).2 ≤ 4 := by
  unfold decodeN
  repeat' split
  all_goals (refine ⟨fun q => ?_, fun q => ?_, fun q => ?_, fun q => ?_, ?_⟩ <;> first | rfl | (simp only at q ⊢; omega) | (simp only; omega) | (exfalso; simp only at q; omega) | (simp only at q; omega))
theorem getD_app_lt (a d : List UInt8) (k : Nat) (h : k < a.length) : (a ++ d).getD k 0 = a.getD k 0 := by
  rw [List.getD_eq_getElem?_getD, List.getD_eq_getElem?_getD, List.getElem?_append_left h]
theorem getD_app_at (a r : List UInt8) : (a ++ 10 :: r).getD a.length 0 = 10 := by
  rw [List.getD_eq_getElem?_getD, List.getElem?_append_right (Nat.le_refl _), Nat.sub_self]; rfl
theorem dec_cut (a r : List UInt8) (i : Nat) (h : i < a.length) : Utf8.decode (mk (a ++ 10 :: r)) i = Utf8.decode (mk a) i := by
  rw [Lib.decode_N, Lib.decode_N, mk_list, mk_list, getD_app_lt a _ i h]
  have g : ∀ k, k < a.length → ((a ++ 10 :: r).getD k 0).toNat = (a.getD k 0).toNat := fun k hk => by rw [getD_app_lt a _ k hk]
  have t : ∀ k, k = a.length → ((a ++ 10 :: r).getD k 0).toNat / 64 ≠ 2 := fun k hk => by rw [hk, getD_app_at]; decide
  refine decodeN_cut _ _ _ _ _ _ _ _ _ (by omega) (by simp; omega) (fun q => g _ (by omega)) (fun q => g _ (by omega)) (fun q => g _ (by omega)) (fun q => t _ (by omega)) (fun q => t _ (by omega)) (fun q => t _ (by omega))
theorem dec_app (a d : List UInt8) (hd : d = [] ∨ ∃ r, d = 10 :: r) (i : Nat) (h : i < a.length) : rn (mk (a ++ d)) i = rn (mk a) i ∧ wd (mk (a ++ d)) i = wd (mk a) i := by
  unfold rn wd
  rcases hd with rfl | ⟨r, rfl⟩
  · rw [List.append_nil]; exact ⟨rfl, rfl⟩
  · rw [dec_cut a r i h]; exact ⟨rfl, rfl⟩
theorem rn_byte (l : List UInt8) (i : Nat) (h : rn (mk l) i < 128) : ((l.getD i 0).toNat : Int) = rn (mk l) i := by
  unfold rn at h ⊢
  rw [Lib.decode_N, mk_list] at h ⊢
  have := (decodeN_facts (l.length - i) (l.getD i 0).toNat (l.getD (i + 1) 0).toNat (l.getD (i + 2) 0).toNat (l.getD (i + 3) 0).toNat).1 (by omega)
  omega
theorem byte_rn (l : List UInt8) (i : Nat) (h : i < l.length) (hb : (l.getD i 0).toNat < 128) : rn (mk l) i = ((l.getD i 0).toNat : Int) ∧ wd (mk l) i = 1 := by
  have e : l.getD i 0 = l[i]'h := by rw [List.getD_eq_getElem?_getD, List.getElem?_eq_getElem h]; rfl
  rw [e] at hb ⊢
  exact ascL l i h hb
/-- No line feed in a character but the line feed. -/
theorem rune_no10 (l : List UInt8) (i : Nat) (h : rn (mk l) i ≠ 10) (hi : i < l.length) : ∀ j, i ≤ j → j < i + wd (mk l) i → l.getD j 0 ≠ 10 := by
  intro j h1 h2 e
  unfold wd at h2
  rw [Lib.decode_N, mk_list] at h2
  obtain ⟨f0, f1, f2, f3, f4⟩ := decodeN_facts (l.length - i) (l.getD i 0).toNat (l.getD (i + 1) 0).toNat (l.getD (i + 2) 0).toNat (l.getD (i + 3) 0).toNat
  have ten : (10 : UInt8).toNat = 10 := rfl
  rcases (by omega : j = i ∨ j = i + 1 ∨ j = i + 2 ∨ j = i + 3) with rfl | rfl | rfl | rfl
  · have := (byte_rn l j hi (by rw [e]; decide)).1
    rw [e] at this
    exact h this
  · have := (f1 (by omega)).2; rw [e, ten] at this; omega
  · have := f2 (by omega); rw [e, ten] at this; omega
  · have := f3 (by omega); rw [e, ten] at this; omega
/-! Comments. -/
def bdR (u : ByteArray) : Nat → Nat → Bool
  | 0, _ => false
  | f + 1, i => if i < u.size then (if rn u i = 65533 then true else bdR u f (i + wd u i)) else false
theorem bdR_end (u : ByteArray) (f i : Nat) (h : ¬ i < u.size) : bdR u f i = false := by cases f <;> simp [bdR, h]
theorem bdR_more (u : ByteArray) : ∀ f g i, u.size - i ≤ f → u.size - i ≤ g → bdR u f i = bdR u g i := by
  intro f
  induction f with
  | zero => intro g i hf hg; rw [bdR_end _ _ _ (by omega), bdR_end _ _ _ (by omega)]
  | succ f ih =>
    intro g i hf hg
    by_cases h : i < u.size
    · cases g with
      | zero => omega
      | succ g =>
        have hw := wd_pos u i h
        simp only [bdR, h, if_true]
        split
        · rfl
        · exact ih g _ (by omega) (by omega)
    · rw [bdR_end _ _ _ h, bdR_end _ _ _ h]
def badL (a : List UInt8) : Bool := bdR (mk a) a.length 0
theorem bdR_step (u : ByteArray) (i : Nat) (h : i < u.size) : bdR u u.size i = if rn u i = 65533 then true else bdR u u.size (i + wd u i) := by
  have hw := wd_pos u i h
  rw [bdR_more u u.size (u.size - i + 1) i (by omega) (by omega), bdR, if_pos h]
  split
  · rfl
  · exact bdR_more u _ _ _ (by omega) (by omega)
theorem cmt_cut (a d : List UInt8) (ha : ∀ c ∈ a, c ≠ 10) (hd : d = [] ∨ ∃ r, d = 10 :: r) : ∀ f i g, i ≤ a.length → a.length - i ≤ f → (a ++ d).length - i ≤ g →
    cmtR (mk (a ++ d)) g i = if bdR (mk a) f i = true then (0, false) else (a.length, true) := by
  have hsz : (mk (a ++ d)).size = a.length + d.length := by rw [mk_size, List.length_append]
  have fin : ∀ g, (a ++ d).length - a.length ≤ g → cmtR (mk (a ++ d)) g a.length = (a.length, true) := by
    intro g hg
    rcases hd with rfl | ⟨r, rfl⟩
    · rw [cmtR_end _ _ _ (by rw [hsz]; simp), hsz]; simp
    · cases g with
      | zero => simp at hg
      | succ g =>
        have hr : rn (mk (a ++ 10 :: r)) a.length = 10 := by
          have h := (byte_rn (a ++ 10 :: r) a.length (by simp) (by rw [getD_app_at]; decide)).1
          rw [getD_app_at] at h
          exact h
        rw [cmtR, if_pos (by rw [hsz]; simp), if_pos hr]
  intro f
  induction f with
  | zero =>
    intro i g hi hf hg
    obtain rfl : i = a.length := by omega
    rw [fin g hg]; rfl
  | succ f ih =>
    intro i g hi hf hg
    by_cases h : i < a.length
    · obtain ⟨e1, e2⟩ := dec_app a d hd i h
      have hw1 := wd_pos (mk a) i (by rw [mk_size]; exact h)
      have hw2 := wd_le (mk a) i (by rw [mk_size]; exact h)
      rw [mk_size] at hw2
      cases g with
      | zero => rw [List.length_append] at hg; omega
      | succ g =>
        have hne : ¬ rn (mk a) i = 10 := by
          intro e
          have hb := rn_byte a i (by omega)
          rw [e] at hb
          have hm : a.getD i 0 ∈ a := by
            rw [List.getD_eq_getElem?_getD, List.getElem?_eq_getElem h]; exact List.getElem_mem h
          exact ha _ hm (UInt8.toNat_inj.1 (by show (a.getD i 0).toNat = 10; omega))
        have hbd : bdR (mk a) (f + 1) i = if rn (mk a) i = 65533 then true else bdR (mk a) f (i + wd (mk a) i) := by
          rw [bdR, if_pos (show i < (mk a).size by rw [mk_size]; exact h)]
        rw [cmtR, if_pos (by rw [hsz]; omega), e1, if_neg hne, hbd]
        by_cases hb : rn (mk a) i = 65533
        · rw [if_pos hb, if_pos hb, if_pos rfl]
        · rw [if_neg hb, if_neg hb, e2]
          exact ih _ _ hw2 (by omega) (by omega)
    · obtain rfl : i = a.length := by omega
      rw [fin g hg, bdR_end _ _ _ (by rw [mk_size]; omega)]; rfl
def lineA (l : List UInt8) : List UInt8 := l.takeWhile (fun c => c != 10)
def lineD (l : List UInt8) : List UInt8 := l.dropWhile (fun c => c != 10)
theorem line_app (l : List UInt8) : lineA l ++ lineD l = l := List.takeWhile_append_dropWhile
theorem lineA_no (l : List UInt8) : ∀ c ∈ lineA l, c ≠ 10 := fun c hc => by
  have := List.all_eq_true.1 (List.all_takeWhile (p := fun c : UInt8 => c != 10) (l := l)) c hc
  exact bne_iff_ne.1 this
theorem lineD_head (l : List UInt8) : lineD l = [] ∨ ∃ r, lineD l = 10 :: r := by
  induction l with
  | nil => exact .inl rfl
  | cons c r ih =>
    unfold lineD at ih ⊢
    rw [List.dropWhile_cons]
    by_cases e : c = 10
    · subst e; exact .inr ⟨r, rfl⟩
    · rw [if_pos (bne_iff_ne.2 e)]; exact ih
theorem line_drop (l : List UInt8) : l.drop (lineA l).length = lineD l := by
  have h := line_app l
  have e : (lineA l ++ lineD l).drop (lineA l).length = lineD l := List.drop_left
  rw [h] at e
  exact e
theorem line_take (l : List UInt8) : l.take (lineA l).length = lineA l := by
  have h := line_app l
  have e : (lineA l ++ lineD l).take (lineA l).length = lineA l := List.take_left
  rw [h] at e
  exact e
theorem cmt_line (l : List UInt8) : cmtL (mk l) = if badL (lineA l) = true then (0, false) else ((lineA l).length, true) := by
  have h := cmt_cut (lineA l) (lineD l) (lineA_no l) (lineD_head l) (lineA l).length 0 (mk l).size (Nat.zero_le _) (by omega) (by rw [line_app, mk_size]; omega)
  rw [line_app] at h
  unfold cmtL badL
  exact h
end Go.Proofs.YtpoomcejmdlmiaaDoor
