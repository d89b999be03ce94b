/- A text's tokens, told from what is left of it; nothing of the program's runs stands here. -/
import Derived.Lib.TrimUEq
import Derived.Lib.IndexLaws
import Derived.Test.YtpoomcejmdlmiaaDoorScG
namespace Go.Proofs.YtpoomcejmdlmiaaDoor
open Go.ChangeShapes Go.WideShapes Go.ChangeAt Go.RowKit
set_option linter.unusedVariables false
def mk (l : List UInt8) : ByteArray := ⟨⟨l⟩⟩
theorem mk_data (s : ByteArray) : mk s.data.toList = s := rfl
theorem mk_list (l : List UInt8) : (mk l).data.toList = l := rfl
theorem mk_size (l : List UInt8) : (mk l).size = l.length := rfl
theorem mk_tl (l : List UInt8) : (mk l).toList = l := ByteArray.toList_eq _
def rnL (l : List UInt8) : Int := rn (mk l) 0
def wdL (l : List UInt8) : Nat := wd (mk l) 0
theorem rn_drop (s : ByteArray) (i : Nat) : rn s i = rnL (s.data.toList.drop i) := by
  have h := Lib.decodeL_drop s i
  unfold Lib.decodeL at h
  unfold rnL rn
  rw [← h]; rfl
theorem wd_drop (s : ByteArray) (i : Nat) : wd s i = wdL (s.data.toList.drop i) := by
  have h := Lib.decodeL_drop s i
  unfold Lib.decodeL at h
  unfold wdL wd
  rw [← h]; rfl
theorem drop_mk (s : ByteArray) (i : Nat) : s.extract i s.size = mk (s.data.toList.drop i) := by
  apply bytes_inj
  rw [Lib.extract_data, mk_list, Lib.size_eq]
  apply List.take_of_length_le
  rw [List.length_drop]; exact Nat.le_refl _
theorem take_mk (l : List UInt8) (n : Nat) : (mk l).extract 0 n = mk (l.take n) := by
  apply bytes_inj
  rw [Lib.extract_data, mk_list, mk_list, List.drop_zero, Nat.sub_zero]
theorem ascL (l : List UInt8) (i : Nat) (h : i < l.length) (ha : (l[i]'h).toNat < 128) : rn (mk l) i = ((l[i]'h).toNat : Int) ∧ wd (mk l) i = 1 := by
  have e := decode_ascii (mk l) i h ha
  unfold rn wd
  rw [e]; exact ⟨rfl, rfl⟩
theorem rnL_cons (b : UInt8) (r : List UInt8) (ha : b.toNat < 128) : rnL (b :: r) = (b.toNat : Int) := (ascL (b :: r) 0 (Nat.succ_pos _) ha).1
theorem small (s : ByteArray) (i : Nat) (h : i < s.size) (hr : rn s i < 128) : wd s i = 1 := by
  by_cases ha : (s[i]'h).toNat < 128
  · unfold wd; rw [decode_ascii s i h ha]
  · have := (decode_high s i h (by omega)).1
    unfold rn at hr; omega
/-- One comes to a place by whole characters. -/
inductive Al (s : ByteArray) : Nat → Nat → Prop
  | refl (i : Nat) : Al s i i
  | step (i j : Nat) (h : i < s.size) (k : Al s (i + wd s i) j) : Al s i j
theorem Al.le {s : ByteArray} {i j : Nat} (h : Al s i j) : i ≤ j := by
  induction h with
  | refl i => exact Nat.le_refl _
  | step i j h k ih => have := wd_pos s i h; omega
theorem Al.next {s : ByteArray} {i j : Nat} (h : Al s i j) : i < j → Al s (i + wd s i) j := by
  induction h with
  | refl i => intro k; omega
  | step i j h k ih => intro _; exact k
theorem span_al (p : Int → Bool) (s : ByteArray) : ∀ f i, i ≤ s.size → s.size - i ≤ f → Al s i (spanR p s f i) := by
  intro f
  induction f with
  | zero =>
    intro i hi hf
    obtain rfl : i = s.size := by omega
    exact .refl _
  | succ f ih =>
    intro i hi hf
    by_cases h : i < s.size
    · have hw := wd_pos s i h
      have hw2 := wd_le s i h
      simp only [spanR, h, if_true]
      split
      · exact .step _ _ h (ih _ (by omega) (by omega))
      · exact .refl _
    · obtain rfl : i = s.size := by omega
      rw [spanR_end _ _ _ _ h]; exact .refl _
theorem cmt_al (s : ByteArray) : ∀ f i, i ≤ s.size → s.size - i ≤ f → (cmtR s f i).2 = true → Al s i (cmtR s f i).1 := by
  intro f
  induction f with
  | zero =>
    intro i hi hf _
    obtain rfl : i = s.size := by omega
    exact .refl _
  | succ f ih =>
    intro i hi hf
    by_cases h : i < s.size
    · have hw := wd_pos s i h
      have hw2 := wd_le s i h
      simp only [cmtR, h, if_true]
      split
      · intro _; exact .refl _
      · split
        · intro k; cases k
        · intro k; exact .step _ _ h (ih _ (by omega) (by omega) k)
    · obtain rfl : i = s.size := by omega
      rw [cmtR_end _ _ _ h]; intro _; exact .refl _
theorem signs_ascii : ∀ n : Fin 256, 0 ≤ Lib.indexByte signs (UInt8.ofNat n.val) → n.val < 128 := by decide +kernel
theorem sign_small (c : UInt8) (h : 0 ≤ Lib.indexByte signs c) : c.toNat < 128 := by
  have e : UInt8.ofNat c.toNat = c := by simp
  have k := signs_ascii ⟨c.toNat, UInt8.toNat_lt c⟩
  rw [e] at k
  exact k h
theorem two_small (s : ByteArray) (h : two s = true) : 1 < s.size ∧ rn s 0 < 128 ∧ rn s 1 < 128 := by
  obtain ⟨l, rfl⟩ : ∃ l, s = mk l := ⟨_, (mk_data s).symm⟩
  unfold two at h
  rw [take_mk, mk_tl, mk_size] at h
  rcases l with _ | ⟨a, _ | ⟨b, r⟩⟩
  · simp at h
  · simp at h
  · have hab : a.toNat < 128 ∧ b.toNat < 128 := by
      simp at h
      rcases h with ⟨⟨⟨⟨⟨h, k⟩ | ⟨h, k⟩⟩ | ⟨h, k⟩⟩ | ⟨h, k⟩⟩ | ⟨h, k⟩⟩ | ⟨h, k⟩
      all_goals subst h; subst k; decide
    refine ⟨by rw [mk_size]; simp, ?_, ?_⟩
    · rw [(ascL (a :: b :: r) 0 (by simp) hab.1).1]; have := hab.1; simp; omega
    · rw [(ascL (a :: b :: r) 1 (by simp) hab.2).1]; have := hab.2; simp; omega
theorem Al.one {s : ByteArray} {i j : Nat} (h : i < s.size) (hr : rn s i < 128) (k : Al s (i + 1) j) : Al s i j := by
  refine .step _ _ h ?_
  rw [small s i h hr]; exact k
theorem spanL_pos (p : Int → Bool) (s : ByteArray) (h0 : 0 < s.size) (hp : p (rn s 0) = true) : 1 ≤ spanL p s := by
  have a := span_al p s s.size (0 + wd s 0) (wd_le s 0 h0) (by omega)
  have e : spanL p s = spanR p s s.size (0 + wd s 0) := by unfold spanL; rw [spanR_step p s 0 h0, hp, if_pos rfl]
  have := wd_pos s 0 h0
  have := a.le
  omega
theorem piece_al (s : ByteArray) (h0 : 0 < s.size) (p : Piece) (h : pieceQ s (rn s 0) = some p) : 1 ≤ p.len ∧ Al s 0 p.len := by
  unfold pieceQ at h
  rw [dif_pos h0] at h
  unfold pieceP at h
  by_cases hsl : slashes s = true
  · rw [if_pos hsl] at h
    by_cases hc : (cmtL s).2 = true
    · rw [if_pos hc] at h
      cases h
      have hr : rn s 0 = 47 := by
        obtain ⟨l, rfl⟩ : ∃ l, s = mk l := ⟨_, (mk_data s).symm⟩
        unfold slashes at hsl
        rw [mk_list] at hsl
        rcases l with _ | ⟨a, r⟩
        · simp [Lib.hasPrefix] at hsl
        · have ha : a = 47 := by
            simp [Lib.hasPrefix] at hsl
            exact hsl.1.symm
          subst ha
          exact (ascL _ 0 (by simp) (by simp)).1
      have hw := small s 0 h0 (by omega)
      have e : cmtL s = cmtR s s.size (0 + wd s 0) := by unfold cmtL; rw [cmtR_step s 0 h0, if_neg (by omega), if_neg (by omega)]
      have a := cmt_al s s.size (0 + wd s 0) (wd_le s 0 h0) (by omega) (by rw [← e]; exact hc)
      rw [← e] at a
      have := a.le
      exact ⟨by show 1 ≤ (cmtL s).1; omega, .step _ _ h0 a⟩
    · rw [if_neg hc] at h; cases h
  rw [if_neg hsl] at h
  by_cases hl : letterR (rn s 0) = true
  · rw [if_pos hl] at h
    have hin : inNameR (rn s 0) = true := by unfold inNameR; rw [hl]; rfl
    have e : p.len = spanL inNameR s := by
      unfold wordP at h
      repeat' split at h
      all_goals first | (cases h; done) | (cases h; rfl)
    rw [e]
    exact ⟨spanL_pos _ _ h0 hin, span_al _ _ _ _ (Nat.zero_le _) (Nat.le_refl _)⟩
  rw [if_neg hl] at h
  by_cases hd : digitR (rn s 0) = true
  · rw [if_pos hd] at h
    have e : p.len = spanL digitR s := by
      unfold numberP at h
      repeat' split at h
      all_goals first | (cases h; done) | (cases h; rfl)
    rw [e]
    exact ⟨spanL_pos _ _ h0 hd, span_al _ _ _ _ (Nat.zero_le _) (Nat.le_refl _)⟩
  rw [if_neg hd] at h
  by_cases hq : (rn s 0 == 39) = true
  · rw [if_pos hq] at h
    unfold charP at h
    split at h
    · rename_i k
      cases h
      refine ⟨Nat.le_add_left 1 _, .step _ _ h0 ?_⟩
      rw [Nat.zero_add]
      exact .step _ _ k.1 (.one k.2.2.1 (by have := k.2.2.2; omega) (.refl _))
    · cases h
  rw [if_neg hq] at h
  by_cases hs : 0 < signN s h0
  · rw [if_pos hs] at h
    cases h
    refine ⟨hs, ?_⟩
    show Al s 0 (signN s h0)
    unfold signN
    split
    · rename_i k
      obtain ⟨a, b, c⟩ := two_small s k
      exact .one h0 b (.one a c (.refl _))
    · split
      · rename_i k
        refine .one h0 ?_ (.refl _)
        have := sign_small _ k
        unfold rn
        rw [decode_ascii s 0 h0 this]
        show ((s[0]'h0).toNat : Int) < 128
        omega
      · exact .refl _
  · rw [if_neg hs] at h; cases h
theorem Al.tail {s : ByteArray} {i a b : Nat} (hi : i ≤ s.size) (h : Al (s.extract i s.size) a b) : Al s (i + a) (i + b) := by
  induction h with
  | refl a => exact .refl _
  | step a b h k ih =>
    have hsz : (s.extract i s.size).size = s.size - i := by rw [ByteArray.size_extract]; omega
    refine .step _ _ (by omega) ?_
    have e : wd (s.extract i s.size) a = wd s (i + a) := by rw [wd_drop, wd_drop, drop_mk, mk_list, List.drop_drop]
    rw [e] at ih
    rw [Nat.add_assoc]; exact ih
theorem skip {s : ByteArray} {i j : Nat} (h : Al s i j) (line behind : Nat) (acc : List Tk) : j ≤ behind → scanR s s.size i line behind acc = scanR s s.size j line behind acc := by
  induction h with
  | refl i => intro _; rfl
  | step i j h k ih =>
    intro hj
    have := wd_pos s i h
    have := k.le
    rw [scanR_step s i line behind acc h, if_pos (by omega)]
    exact ih hj
def endT (line : Nat) : Tk := ⟨5, ⟨#[]⟩, 0, line⟩
def tokA (p : Piece) (line : Nat) (acc : List Tk) : List Tk := if (p.kind != 0) = true then acc ++ [⟨p.kind, p.text, p.n, (line : Nat)⟩] else acc
/-- The tokens of what is left. -/
def scanT : Nat → Nat → List UInt8 → List Tk → List Tk × Bool × Nat
  | 0, line, _, acc => (acc ++ [endT line], true, 0)
  | f + 1, line, l, acc =>
    if l = [] then (acc ++ [endT line], true, 0)
    else if blankR (rnL l) = true then scanT f (if (rnL l == 10) = true then line + 1 else line) (l.drop 1) acc
    else match pieceQ (mk l) (rnL l) with
      | none => ([], false, line)
      | some p => scanT f line (l.drop p.len) (tokA p line acc)
theorem blank_small {r : Int} (h : blankR r = true) : r < 128 := by
  unfold blankR at h
  have := of_decide_eq_true h
  omega
theorem blank_feed {r : Int} (h : ¬ blankR r = true) : (r == 10) = false := by
  cases hr : (r == 10)
  · rfl
  · have := eq_of_beq hr
    subst this
    exact absurd rfl h
theorem scanR_T (s : ByteArray) : ∀ f i line behind acc, i ≤ s.size → behind ≤ i → s.size - i ≤ f → scanR s s.size i line behind acc = scanT f line (s.data.toList.drop i) acc := by
  intro f
  induction f with
  | zero =>
    intro i line behind acc hi hb hf
    rw [scanR_end _ _ _ _ _ _ (by omega)]; rfl
  | succ f ih =>
    intro i line behind acc hi hb hf
    by_cases h : i < s.size
    · have hne : ¬ s.data.toList.drop i = [] := by
        intro k
        have := congrArg List.length k
        rw [List.length_drop, ← Lib.size_eq] at this
        simp at this; omega
      have hw := wd_pos s i h
      have hw2 := wd_le s i h
      rw [scanR_step s i line behind acc h, if_neg (by omega), scanT, if_neg hne, rn_drop s i]
      by_cases hbl : blankR (rnL (s.data.toList.drop i)) = true
      · rw [if_pos hbl, if_pos hbl]
        have e : wd s i = 1 := small s i h (by rw [rn_drop]; exact blank_small hbl)
        rw [e, List.drop_drop]
        exact ih _ _ _ _ (by omega) (by omega) (by omega)
      · rw [if_neg hbl, if_neg hbl, blank_feed hbl, drop_mk]
        have hal := fun p hp => piece_al (s.extract i s.size) (by rw [ByteArray.size_extract]; omega) p hp
        have e0 : rn (s.extract i s.size) 0 = rnL (s.data.toList.drop i) := by rw [drop_mk]; rfl
        rw [e0, drop_mk] at hal
        cases hp : pieceQ (mk (s.data.toList.drop i)) (rnL (s.data.toList.drop i)) with
        | none => rfl
        | some p =>
          obtain ⟨h1, al⟩ := hal p hp
          have hl := piece_len _ _ _ hp
          rw [mk_size, List.length_drop, ← Lib.size_eq] at hl
          rw [← drop_mk] at al
          have al2 := al.tail hi
          rw [Nat.add_zero] at al2
          show scanR s s.size (i + wd s i) line (i + p.len) (tokA p line acc) = _
          have al3 : Al s (i + wd s i) (i + p.len) := al2.next (by omega)
          rw [skip al3 _ _ _ (Nat.le_refl _), ih _ _ _ _ (by omega) (Nat.le_refl _) (by omega)]
          show _ = scanT f line (List.drop p.len (List.drop i s.data.toList)) (tokA p line acc)
          rw [List.drop_drop]
    · have e : s.data.toList.drop i = [] := List.drop_eq_nil_of_le (by rw [← Lib.size_eq]; omega)
      rw [scanR_end _ _ _ _ _ _ h, scanT, if_pos e]; rfl
theorem pieceQ_len {l : List UInt8} {p : Piece} (hl : l ≠ []) (h : pieceQ (mk l) (rnL l) = some p) : 1 ≤ p.len ∧ p.len ≤ l.length :=
  ⟨(piece_al (mk l) (by rw [mk_size]; exact List.length_pos_iff.2 hl) p h).1, piece_len _ _ _ h⟩
theorem scanT_more : ∀ f g line l acc, l.length ≤ f → l.length ≤ g → scanT f line l acc = scanT g line l acc := by
  intro f
  induction f with
  | zero =>
    intro g line l acc hf hg
    obtain rfl : l = [] := List.length_eq_zero_iff.1 (by omega)
    cases g <;> simp [scanT]
  | succ f ih =>
    intro g line l acc hf hg
    by_cases hl : l = []
    · subst hl; cases g <;> simp [scanT]
    · have h0 : 0 < l.length := List.length_pos_iff.2 hl
      cases g with
      | zero => omega
      | succ g =>
        rw [scanT, scanT, if_neg hl, if_neg hl]
        split
        · exact ih _ _ _ _ (by rw [List.length_drop]; omega) (by rw [List.length_drop]; omega)
        · split
          · rfl
          · rename_i p hp
            have := pieceQ_len hl hp
            exact ih _ _ _ _ (by rw [List.length_drop]; omega) (by rw [List.length_drop]; omega)
def scanA (line : Nat) (l : List UInt8) (acc : List Tk) : List Tk × Bool × Nat := scanT l.length line l acc
theorem scanL_A (s : ByteArray) : scanL s = scanA 1 s.data.toList [] := by
  unfold scanL scanA
  rw [scanR_T s s.size 0 1 0 [] (Nat.zero_le _) (Nat.le_refl _) (by omega), List.drop_zero, Lib.size_eq]
theorem scanA_nil (line : Nat) (acc : List Tk) : scanA line [] acc = (acc ++ [endT line], true, 0) := rfl
theorem scanA_step (line : Nat) (l : List UInt8) (acc : List Tk) (hl : l ≠ []) : scanA line l acc =
    if blankR (rnL l) = true then scanA (if (rnL l == 10) = true then line + 1 else line) (l.drop 1) acc
    else match pieceQ (mk l) (rnL l) with
      | none => ([], false, line)
      | some p => scanA line (l.drop p.len) (tokA p line acc) := by
  have h0 : 0 < l.length := List.length_pos_iff.2 hl
  unfold scanA
  rw [scanT_more l.length (l.length + 1) line l acc (Nat.le_refl _) (by omega), scanT, if_neg hl]
  split
  · exact scanT_more _ _ _ _ _ (by rw [List.length_drop]; omega) (Nat.le_refl _)
  · split
    · rfl
    · rename_i p hp
      have := pieceQ_len hl hp
      exact scanT_more _ _ _ _ _ (by rw [List.length_drop]; omega) (Nat.le_refl _)
theorem scanA_blank (line : Nat) (b : UInt8) (r : List UInt8) (acc : List Tk) (hb : b = 32 ∨ b = 9 ∨ b = 13) : scanA line (b :: r) acc = scanA line r acc := by
  have h : b.toNat < 128 ∧ blankR (b.toNat : Int) = true ∧ ((b.toNat : Int) == 10) = false := by rcases hb with rfl | rfl | rfl <;> decide
  rw [scanA_step _ _ _ (by simp), rnL_cons b r h.1, if_pos h.2.1, h.2.2]; rfl
theorem scanA_feed (line : Nat) (r : List UInt8) (acc : List Tk) : scanA line (10 :: r) acc = scanA (line + 1) r acc := by
  rw [scanA_step _ _ _ (by simp), rnL_cons 10 r (by decide)]; rfl
end Go.Proofs.YtpoomcejmdlmiaaDoor
