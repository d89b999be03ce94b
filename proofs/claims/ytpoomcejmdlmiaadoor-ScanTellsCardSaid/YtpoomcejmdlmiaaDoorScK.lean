/- Which texts are tokens. -/
import Derived.Lib.AtoiAllCases
import Derived.Test.YtpoomcejmdlmiaaDoorScJ
namespace Go.Proofs.YtpoomcejmdlmiaaDoor
open Go.ChangeShapes Go.WideShapes Go.ChangeAt Go.RowKit
set_option linter.unusedVariables false
/-- What may stand behind a token. -/
def Sep (rest : List UInt8) : Prop := rest = [] ∨ ∃ b r, rest = b :: r ∧ (b = 32 ∨ b = 10 ∨ b = 9)
def Tok (w : List UInt8) (k n : Int) : Prop := w ≠ [] ∧ (k != 0) = true ∧ ∀ rest, Sep rest → blankR (rnL (w ++ rest)) = false ∧ pieceQ (mk (w ++ rest)) (rnL (w ++ rest)) = some ⟨w.length, k, mk w, n⟩
theorem scanA_tok {w : List UInt8} {k n : Int} (h : Tok w k n) {rest : List UInt8} (hr : Sep rest) (line : Nat) (acc : List Tk) :
    scanA line (w ++ rest) acc = scanA line rest (acc ++ [⟨k, mk w, n, (line : Nat)⟩]) := by
  obtain ⟨h1, h2, h3⟩ := h
  obtain ⟨hb, hp⟩ := h3 rest hr
  rw [scanA_step _ _ _ (by simp [h1]), hb, hp]
  simp only [Bool.false_eq_true, if_false, tokA, h2, if_true, List.drop_left]
def Plain (p : Int → Bool) (w : List UInt8) : Prop := ∀ c ∈ w, c.toNat < 128 ∧ p (c.toNat : Int) = true
theorem span_run (p : Int → Bool) (w rest : List UInt8) (hw : Plain p w) (hr : rest = [] ∨ ∃ b r, rest = b :: r ∧ b.toNat < 128 ∧ p (b.toNat : Int) = false) :
    spanL p (mk (w ++ rest)) = w.length := by
  have key : ∀ k, k ≤ w.length → spanR p (mk (w ++ rest)) (mk (w ++ rest)).size (w.length - k) = w.length := by
    intro k
    induction k with
    | zero =>
      intro _
      rw [Nat.sub_zero]
      rcases hr with rfl | ⟨b, r, rfl, h1, h2⟩
      · rw [spanR_end _ _ _ _ (by rw [mk_size]; simp), mk_size]; simp
      · have hi : w.length < (w ++ b :: r).length := by simp
        have eb : (w ++ b :: r)[w.length]'hi = b := by rw [List.getElem_append_right (Nat.le_refl _)]; simp
        have e := (ascL (w ++ b :: r) w.length hi (by rw [eb]; exact h1)).1
        rw [spanR_step _ _ _ hi, e, eb, h2]; rfl
    | succ k ih =>
      intro hk
      have hi : w.length - (k + 1) < (mk (w ++ rest)).size := by rw [mk_size, List.length_append]; omega
      have hlt : w.length - (k + 1) < w.length := by omega
      have eg : (w ++ rest)[w.length - (k + 1)]'hi = w[w.length - (k + 1)]'hlt := List.getElem_append_left hlt
      have hm := hw _ (List.getElem_mem hlt)
      obtain ⟨e1, e2⟩ := ascL (w ++ rest) (w.length - (k + 1)) hi (by rw [eg]; exact hm.1)
      rw [spanR_step _ _ _ hi, e1, e2, eg, hm.2, if_pos rfl]
      have : w.length - (k + 1) + 1 = w.length - k := by omega
      rw [this]
      exact ih (by omega)
  have := key w.length (Nat.le_refl _)
  rw [Nat.sub_self] at this
  exact this
theorem sep_not (p : Int → Bool) (h1 : p 32 = false) (h2 : p 10 = false) (h3 : p 9 = false) {rest : List UInt8} (hr : Sep rest) :
    rest = [] ∨ ∃ b r, rest = b :: r ∧ b.toNat < 128 ∧ p (b.toNat : Int) = false := by
  rcases hr with h | ⟨b, r, h, rfl | rfl | rfl⟩
  · exact .inl h
  · exact .inr ⟨_, r, h, by decide, h1⟩
  · exact .inr ⟨_, r, h, by decide, h2⟩
  · exact .inr ⟨_, r, h, by decide, h3⟩
theorem pieceQ_cons (a : UInt8) (r : List UInt8) (x : Int) : pieceQ (mk (a :: r)) x = pieceP (mk (a :: r)) x (by rw [mk_size]; simp) := by
  unfold pieceQ
  rw [dif_pos (by rw [mk_size]; simp)]
theorem slashes_no (a : UInt8) (r : List UInt8) (h : a ≠ 47) : slashes (mk (a :: r)) = false := by
  unfold slashes
  rw [mk_list]
  show (47 == a && [47].isPrefixOf r) = false
  rw [show ((47 : UInt8) == a) = false from beq_eq_false_iff_ne.2 (Ne.symm h)]; rfl
theorem letter_not {r : Int} (h : letterR r = true) : blankR r = false ∧ r < 128 ∧ r ≠ 47 := by
  unfold letterR at h
  have h := of_decide_eq_true h
  refine ⟨?_, by omega, by omega⟩
  unfold blankR; exact decide_eq_false (by omega)
theorem digit_not {r : Int} (h : digitR r = true) : blankR r = false ∧ r < 128 ∧ r ≠ 47 ∧ letterR r = false := by
  unfold digitR at h
  have h := of_decide_eq_true h
  refine ⟨?_, by omega, by omega, ?_⟩
  · unfold blankR; exact decide_eq_false (by omega)
  · unfold letterR; exact decide_eq_false (by omega)
theorem take_app (w rest : List UInt8) : (mk (w ++ rest)).extract 0 w.length = mk w := by rw [take_mk, List.take_left']; rfl
theorem wordP_run (w rest : List UInt8) (hw : Plain inNameR w) (hr : Sep rest) : wordP (mk (w ++ rest)) = if wordB (mk w) then some ⟨w.length, 2, mk w, 0⟩ else if w.length ≤ 20 then some ⟨w.length, 1, mk w, 0⟩ else none := by
  unfold wordP
  rw [span_run _ _ _ hw (sep_not _ (by decide) (by decide) (by decide) hr), take_app]
theorem piece_letter (a : UInt8) (r : List UInt8) (h : letterR (a.toNat : Int) = true) : blankR (rnL (a :: r)) = false ∧ pieceQ (mk (a :: r)) (rnL (a :: r)) = wordP (mk (a :: r)) := by
  obtain ⟨h1, h2, h3⟩ := letter_not h
  rw [rnL_cons a r (by omega), pieceQ_cons]
  refine ⟨h1, ?_⟩
  unfold pieceP
  rw [slashes_no a r (by intro k; subst k; exact h3 rfl), h]
  simp
theorem tok_letter (a : UInt8) (w : List UInt8) (hl : letterR (a.toNat : Int) = true) (hw : Plain inNameR (a :: w)) :
    (wordB (mk (a :: w)) = true → Tok (a :: w) 2 0) ∧ (wordB (mk (a :: w)) = false → (a :: w).length ≤ 20 → Tok (a :: w) 1 0) := by
  constructor
  · intro hb
    refine ⟨by simp, rfl, fun rest hr => ?_⟩
    obtain ⟨h1, h2⟩ := piece_letter a (w ++ rest) hl
    exact ⟨h1, h2.trans (by have := wordP_run (a :: w) rest hw hr; rw [hb, if_pos rfl] at this; exact this)⟩
  · intro hb h20
    refine ⟨by simp, rfl, fun rest hr => ?_⟩
    obtain ⟨h1, h2⟩ := piece_letter a (w ++ rest) hl
    exact ⟨h1, h2.trans (by have := wordP_run (a :: w) rest hw hr; rw [hb, if_neg (by simp), if_pos h20] at this; exact this)⟩
theorem numberP_run (w rest : List UInt8) (hw : Plain digitR w) (hr : Sep rest) (h0 : w ≠ []) : numberP (mk (w ++ rest)) =
    match Lib.atoiAll w with
    | .ok v => if (w.getD 0 0 != 48 || w.length == 1) then some ⟨w.length, 3, mk w, v⟩ else none
    | _ => none := by
  unfold numberP
  rw [span_run _ _ _ hw (sep_not _ (by decide) (by decide) (by decide) hr), take_app, mk_list, mk_list]
  have : (w ++ rest).getD 0 0 = w.getD 0 0 := by cases w with
    | nil => exact absurd rfl h0
    | cons a r => rfl
  rw [this]
  cases Lib.atoiAll w <;> rfl
theorem piece_digit (a : UInt8) (r : List UInt8) (h : digitR (a.toNat : Int) = true) : blankR (rnL (a :: r)) = false ∧ pieceQ (mk (a :: r)) (rnL (a :: r)) = numberP (mk (a :: r)) := by
  obtain ⟨h1, h2, h3, h4⟩ := digit_not h
  rw [rnL_cons a r (by omega), pieceQ_cons]
  refine ⟨h1, ?_⟩
  unfold pieceP
  rw [slashes_no a r (by intro k; subst k; exact h3 rfl), h, h4]
  simp
theorem tok_digits (a : UInt8) (w : List UInt8) (v : Int) (hw : Plain digitR (a :: w)) (hv : Lib.atoiAll (a :: w) = .ok v) (h0 : a ≠ 48 ∨ w = []) : Tok (a :: w) 3 v := by
  refine ⟨by simp, rfl, fun rest hr => ?_⟩
  obtain ⟨h1, h2⟩ := piece_digit a (w ++ rest) (hw a (by simp)).2
  refine ⟨h1, h2.trans ?_⟩
  have := numberP_run (a :: w) rest hw hr (by simp)
  rw [hv] at this
  refine this.trans ?_
  simp only
  rw [if_pos]
  rcases h0 with h | rfl
  · simp [h]
  · simp
/-- A number that is none is refused. -/
theorem bad_digits (a : UInt8) (w rest : List UInt8) (hw : Plain digitR (a :: w)) (hr : Sep rest) (h : (∀ v, Lib.atoiAll (a :: w) ≠ .ok v) ∨ (a = 48 ∧ w ≠ [])) (line : Nat) (acc : List Tk) :
    scanA line (a :: w ++ rest) acc = ([], false, line) := by
  obtain ⟨h1, h2⟩ := piece_digit a (w ++ rest) (hw a (by simp)).2
  have e := numberP_run (a :: w) rest hw hr (by simp)
  have k : pieceQ (mk (a :: w ++ rest)) (rnL (a :: w ++ rest)) = none := by
    refine h2.trans (e.trans ?_)
    rcases h with h | ⟨rfl, h⟩
    · split
      · rename_i v hv; exact absurd hv (h v)
      · rfl
    · split
      · rw [if_neg]
        cases w with
        | nil => exact absurd rfl h
        | cons b r => simp
      · rfl
  have h1' : blankR (rnL (a :: w ++ rest)) = false := h1
  rw [scanA_step _ _ _ (by simp), h1', k]; rfl
/-- The texts of the signs. -/
def signTexts : List (List UInt8) := [[40], [41], [123], [125], [91], [93], [44], [59], [61], [124], [94], [38], [43], [45], [42], [47], [37], [33], [126], [60], [62], [61, 61], [33, 61], [60, 61], [62, 61], [60, 60], [62, 62]]
theorem two_of (a b : UInt8) (r : List UInt8) : two (mk (a :: b :: r)) = ([a, b] == [61, 61] || [a, b] == [33, 61] || [a, b] == [60, 61] || [a, b] == [62, 61] || [a, b] == [60, 60] || [a, b] == [62, 62]) := by
  unfold two
  rw [take_mk, mk_tl, mk_size]
  simp
theorem two_one (a : UInt8) : two (mk [a]) = false := by
  unfold two
  rw [mk_size]
  simp
theorem sign_piece (a : UInt8) (r : List UInt8) (ha : a.toNat < 128) (h1 : letterR (a.toNat : Int) = false) (h2 : digitR (a.toNat : Int) = false) (h3 : a ≠ 39) (hs : slashes (mk (a :: r)) = false) (hb : blankR (a.toNat : Int) = false)
    (n : Nat) (hn : signN (mk (a :: r)) (by rw [mk_size]; simp) = n) (h0 : 0 < n) :
    blankR (rnL (a :: r)) = false ∧ pieceQ (mk (a :: r)) (rnL (a :: r)) = some ⟨n, 4, mk ((a :: r).take n), 0⟩ := by
  rw [rnL_cons a r ha, pieceQ_cons]
  refine ⟨hb, ?_⟩
  unfold pieceP
  have hq : ((a.toNat : Int) == 39) = false := by
    rw [beq_eq_false_iff_ne]
    intro k
    apply h3
    apply UInt8.toNat_inj.1
    show a.toNat = 39
    omega
  rw [hs, h1, h2, hq, hn]
  simp [h0, take_mk]
theorem signN_first (a : UInt8) (r : List UInt8) (h : 0 < (mk (a :: r)).size) : signN (mk (a :: r)) h = if two (mk (a :: r)) then 2 else if 0 ≤ Lib.indexByte signs a then 1 else 0 := rfl
theorem tok_sign1 (a : UInt8) (ha : a ∈ [40, 41, 123, 125, 91, 93, 44, 59, 61, 124, 94, 38, 43, 45, 42, 47, 37, 33, 126, 60, 62]) : Tok [a] 4 0 := by
  refine ⟨by simp, rfl, fun rest hr => ?_⟩
  have hf : a.toNat < 128 ∧ letterR (a.toNat : Int) = false ∧ digitR (a.toNat : Int) = false ∧ a ≠ 39 ∧ blankR (a.toNat : Int) = false ∧ 0 ≤ Lib.indexByte signs a := by
    simp only [List.mem_cons, List.not_mem_nil, or_false] at ha
    rcases ha with rfl | rfl | rfl | rfl | rfl | rfl | rfl | rfl | rfl | rfl | rfl | rfl | rfl | rfl | rfl | rfl | rfl | rfl | rfl | rfl | rfl <;> decide +kernel
  obtain ⟨k1, k2, k3, k4, k5, k6⟩ := hf
  have hn : signN (mk (a :: rest)) (by rw [mk_size]; simp) = 1 := by
    rw [signN_first, if_pos k6]
    rcases hr with rfl | ⟨b, r, rfl, hb⟩
    · rw [two_one]; rfl
    · rw [two_of]
      have : ∀ x : UInt8, (x = 61 ∨ x = 60 ∨ x = 62) → b ≠ x := by rcases hb with rfl | rfl | rfl <;> (intro x hx; rcases hx with rfl | rfl | rfl <;> decide)
      have e1 := this 61 (.inl rfl); have e2 := this 60 (.inr (.inl rfl)); have e3 := this 62 (.inr (.inr rfl))
      simp [e1, e2, e3]
  have hs : slashes (mk (a :: rest)) = false := by
    unfold slashes
    rw [mk_list]
    rcases hr with rfl | ⟨b, r, rfl, hb⟩
    · show (47 == a && false) = false
      rw [Bool.and_false]
    · have : ((47 : UInt8) == b) = false := by rcases hb with rfl | rfl | rfl <;> decide
      show (47 == a && (47 == b && true)) = false
      rw [this, Bool.false_and, Bool.and_false]
  exact sign_piece a rest k1 k2 k3 k4 hs k5 1 hn (by decide)
theorem tok_sign2 (a b : UInt8) (h : (a = 61 ∧ b = 61) ∨ (a = 33 ∧ b = 61) ∨ (a = 60 ∧ b = 61) ∨ (a = 62 ∧ b = 61) ∨ (a = 60 ∧ b = 60) ∨ (a = 62 ∧ b = 62)) : Tok [a, b] 4 0 := by
  refine ⟨by simp, rfl, fun rest hr => ?_⟩
  have hf : a.toNat < 128 ∧ letterR (a.toNat : Int) = false ∧ digitR (a.toNat : Int) = false ∧ a ≠ 39 ∧ blankR (a.toNat : Int) = false ∧ a ≠ 47 := by
    rcases h with ⟨rfl, rfl⟩ | ⟨rfl, rfl⟩ | ⟨rfl, rfl⟩ | ⟨rfl, rfl⟩ | ⟨rfl, rfl⟩ | ⟨rfl, rfl⟩ <;> decide
  obtain ⟨k1, k2, k3, k4, k5, k6⟩ := hf
  have hn : signN (mk (a :: b :: rest)) (by rw [mk_size]; simp) = 2 := by
    rw [signN_first, two_of]
    rcases h with ⟨rfl, rfl⟩ | ⟨rfl, rfl⟩ | ⟨rfl, rfl⟩ | ⟨rfl, rfl⟩ | ⟨rfl, rfl⟩ | ⟨rfl, rfl⟩ <;> simp
  exact sign_piece a (b :: rest) k1 k2 k3 k4 (slashes_no _ _ k6) k5 2 hn (by decide)
end Go.Proofs.YtpoomcejmdlmiaaDoor
