/- The document's own answer: blanks and comments. -/
import Derived.Test.YtpoomcejmdlmiaaDoorRows
import Derived.WalkKit
import Derived.ProofKit
import Derived.OpenShut
import Derived.WalkLawsBesides
import Derived.WalkSpells
import Derived.Outline
import Derived.Handy
import Derived.Lib.Hide
import Derived.Lib.OthersKept
import Derived.KernelRfl
import Derived.Test.YtpoomcejmdlmiaaDoorScFa
namespace Go.Proofs.YtpoomcejmdlmiaaDoor
open Go.ChangeShapes Go.WideShapes Go.ChangeAt Go.RowKit
set_option linter.unusedVariables false
theorem asc_pred (p : Int → Bool) (hp : ∀ x, p x = true → x < 128) (c : UInt8) (r : List UInt8) : p (rnL (c :: r)) = p (c.toNat : Int) := by
  by_cases h : c.toNat < 128
  · rw [rnL_cons c r h]
  · have h1 : ¬ rnL (c :: r) < 128 := fun k => by
      have := rn_byte (c :: r) 0 k
      have e : (c :: r).getD 0 0 = c := rfl
      rw [e] at this
      have k2 : rn (mk (c :: r)) 0 < 128 := k
      omega
    have a : p (rnL (c :: r)) = false := by cases e : p (rnL (c :: r)) with | false => rfl | true => exact absurd (hp _ e) h1
    have b : p (c.toNat : Int) = false := by
      cases e : p (c.toNat : Int) with
      | false => rfl
      | true => have := hp _ e; omega
    rw [a, b]
theorem blank_lt (x : Int) (h : blankR x = true) : x < 128 := blank_small h
def feeds (l : List UInt8) : Nat := l.count 10
theorem feeds_nil : feeds [] = 0 := rfl
theorem feeds_cons (c : UInt8) (l : List UInt8) : feeds (c :: l) = (if c = 10 then 1 else 0) + feeds l := by
  unfold feeds
  rw [List.count_cons]
  by_cases h : c = 10
  · subst h; simp; omega
  · rw [if_neg h, if_neg (by simpa using h)]; omega
theorem feeds_app (a b : List UInt8) : feeds (a ++ b) = feeds a + feeds b := by unfold feeds; rw [List.count_append]
theorem feeds_no {l : List UInt8} (h : ∀ c ∈ l, c ≠ 10) : feeds l = 0 := by
  unfold feeds
  rw [List.count_eq_zero]
  intro k
  exact h 10 k rfl
def slB (l : List UInt8) : Bool := Lib.hasPrefix l [47, 47]
theorem slB_iff (l : List UInt8) : slB l = true ↔ ∃ r, l = 47 :: 47 :: r := by
  unfold slB
  match l with
  | [] => simp [Lib.hasPrefix]
  | [a] => simp [Lib.hasPrefix]
  | a :: b :: r =>
    simp [Lib.hasPrefix]
    constructor
    · rintro ⟨rfl, rfl⟩; exact ⟨rfl, rfl⟩
    · rintro ⟨rfl, rfl⟩; exact ⟨rfl, rfl⟩
/-- How many bytes of blanks and comments, and whether the comments may be. -/
def spF : Nat → List UInt8 → Nat × Bool
  | 0, _ => (0, true)
  | _ + 1, [] => (0, true)
  | f + 1, c :: r =>
    if blankR (c.toNat : Int) = true then ((spF f r).1 + 1, (spF f r).2)
    else if slB (c :: r) = true then (if badL (lineA (c :: r)) = true then (0, false) else ((spF f (lineD (c :: r))).1 + (lineA (c :: r)).length, (spF f (lineD (c :: r))).2))
    else (0, true)
theorem sl_len {l : List UInt8} (h : slB l = true) : 2 ≤ (lineA l).length ∧ (lineA l).length + (lineD l).length = l.length := by
  obtain ⟨r, rfl⟩ := (slB_iff l).1 h
  have e := congrArg List.length (line_app (47 :: 47 :: r))
  rw [List.length_append] at e
  refine ⟨?_, e⟩
  unfold lineA
  rw [List.takeWhile_cons, if_pos (by decide), List.takeWhile_cons, if_pos (by decide)]
  simp
theorem spF_more : ∀ f g l, l.length ≤ f → l.length ≤ g → spF f l = spF g l := by
  intro f
  induction f with
  | zero =>
    intro g l hf hg
    obtain rfl : l = [] := List.length_eq_zero_iff.1 (by omega)
    cases g <;> rfl
  | succ f ih =>
    intro g l hf hg
    cases l with
    | nil => cases g <;> rfl
    | cons c r =>
      cases g with
      | zero => simp at hg
      | succ g =>
        simp only [List.length_cons] at hf hg
        unfold spF
        rw [ih g r (by omega) (by omega)]
        by_cases hb : blankR (c.toNat : Int) = true
        · rw [if_pos hb, if_pos hb]
        · rw [if_neg hb, if_neg hb]
          by_cases hs : slB (c :: r) = true
          · have := sl_len hs
            rw [List.length_cons] at this
            rw [if_pos hs, if_pos hs, ih g (lineD (c :: r)) (by omega) (by omega)]
          · rw [if_neg hs, if_neg hs]
def sp (l : List UInt8) : Nat × Bool := spF l.length l
theorem sp_nil : sp [] = (0, true) := rfl
theorem sp_blank {c : UInt8} {r : List UInt8} (h : blankR (c.toNat : Int) = true) : sp (c :: r) = ((sp r).1 + 1, (sp r).2) := by
  unfold sp
  rw [List.length_cons, spF, if_pos h]
theorem sp_bad {c : UInt8} {r : List UInt8} (h : ¬ blankR (c.toNat : Int) = true) (hs : slB (c :: r) = true) (hb : badL (lineA (c :: r)) = true) : sp (c :: r) = (0, false) := by
  unfold sp
  rw [List.length_cons, spF, if_neg h, if_pos hs, if_pos hb]
theorem sp_line {c : UInt8} {r : List UInt8} (h : ¬ blankR (c.toNat : Int) = true) (hs : slB (c :: r) = true) (hb : ¬ badL (lineA (c :: r)) = true) : sp (c :: r) = ((sp (lineD (c :: r))).1 + (lineA (c :: r)).length, (sp (lineD (c :: r))).2) := by
  have := sl_len hs
  rw [List.length_cons] at this
  unfold sp
  rw [List.length_cons, spF, if_neg h, if_pos hs, if_neg hb, spF_more r.length (lineD (c :: r)).length (lineD (c :: r)) (by omega) (Nat.le_refl _)]
theorem sp_none {c : UInt8} {r : List UInt8} (h : ¬ blankR (c.toNat : Int) = true) (hs : ¬ slB (c :: r) = true) : sp (c :: r) = (0, true) := by
  unfold sp
  rw [List.length_cons, spF, if_neg h, if_neg hs]
theorem len_ind {P : List UInt8 → Prop} (h : ∀ l, (∀ m : List UInt8, m.length < l.length → P m) → P l) (l : List UInt8) : P l := by
  have key : ∀ n (l : List UInt8), l.length ≤ n → P l := by
    intro n
    induction n with
    | zero => intro l hl; exact h l (fun m hm => by omega)
    | succ n ih => intro l hl; exact h l (fun m hm => ih m (by omega))
  exact key _ l (Nat.le_refl _)
theorem sp_le (l : List UInt8) : (sp l).1 ≤ l.length := by
  refine len_ind (P := fun l => (sp l).1 ≤ l.length) (fun l ih => ?_) l
  cases l with
  | nil => exact Nat.le_refl _
  | cons c r =>
    by_cases hb : blankR (c.toNat : Int) = true
    · rw [sp_blank hb, List.length_cons]
      have := ih r (by simp)
      show (sp r).1 + 1 ≤ _
      omega
    by_cases hs : slB (c :: r) = true
    · by_cases hd : badL (lineA (c :: r)) = true
      · rw [sp_bad hb hs hd]; exact Nat.zero_le _
      · have hl := sl_len hs
        have := ih (lineD (c :: r)) (by omega)
        rw [sp_line hb hs hd]
        show (sp (lineD (c :: r))).1 + (lineA (c :: r)).length ≤ _
        omega
    · rw [sp_none hb hs]; exact Nat.zero_le _
/-- Behind them: the end, or what begins a token. -/
theorem sp_end (l : List UInt8) : (sp l).2 = true → l.drop (sp l).1 = [] ∨ ∃ c r, l.drop (sp l).1 = c :: r ∧ blankR (c.toNat : Int) = false ∧ slB (c :: r) = false := by
  refine len_ind (P := fun l => (sp l).2 = true → l.drop (sp l).1 = [] ∨ ∃ c r, l.drop (sp l).1 = c :: r ∧ blankR (c.toNat : Int) = false ∧ slB (c :: r) = false) (fun l ih => ?_) l
  intro h
  cases l with
  | nil => exact .inl rfl
  | cons c r =>
    by_cases hb : blankR (c.toNat : Int) = true
    · rw [sp_blank hb] at h ⊢
      show (c :: r).drop ((sp r).1 + 1) = [] ∨ _
      rw [List.drop_succ_cons]
      exact ih r (by simp) h
    by_cases hs : slB (c :: r) = true
    · by_cases hd : badL (lineA (c :: r)) = true
      · rw [sp_bad hb hs hd] at h; cases h
      · have hl := sl_len hs
        rw [sp_line hb hs hd] at h ⊢
        show (c :: r).drop ((sp (lineD (c :: r))).1 + (lineA (c :: r)).length) = [] ∨ _
        rw [Nat.add_comm, ← List.drop_drop, line_drop]
        exact ih (lineD (c :: r)) (by omega) h
    · rw [sp_none hb hs]
      exact .inr ⟨c, r, rfl, by cases e : blankR (c.toNat : Int); rfl; exact absurd e hb, by cases e : slB (c :: r); rfl; exact absurd e hs⟩
theorem piece_cmt {l : List UInt8} (hs : slB l = true) : pieceQ (mk l) (rnL l) = if badL (lineA l) = true then none else some ⟨(lineA l).length, 0, ⟨#[]⟩, 0⟩ := by
  have h0 : 0 < (mk l).size := by
    obtain ⟨r, rfl⟩ := (slB_iff l).1 hs
    rw [mk_size]; simp
  unfold pieceQ
  rw [dif_pos h0]
  unfold pieceP
  rw [if_pos (show slashes (mk l) = true from hs), cmt_line]
  by_cases hb : badL (lineA l) = true
  · rw [if_pos hb, if_pos hb, if_neg (by simp)]
  · rw [if_neg hb, if_neg hb, if_pos rfl]
/-- Blanks and comments change nothing but the line. -/
theorem scanA_sp (l : List UInt8) : ∀ line acc, scanA line l acc = if (sp l).2 = true then scanA (line + feeds (l.take (sp l).1)) (l.drop (sp l).1) acc else ([], false, line + feeds (l.take (sp l).1)) := by
  refine len_ind (P := fun l => ∀ line acc, scanA line l acc = if (sp l).2 = true then scanA (line + feeds (l.take (sp l).1)) (l.drop (sp l).1) acc else ([], false, line + feeds (l.take (sp l).1))) (fun l ih => ?_) l
  intro line acc
  cases l with
  | nil => rfl
  | cons c r =>
    by_cases hb : blankR (c.toNat : Int) = true
    · have e : (rnL (c :: r) == 10) = decide (c = 10) := by
        have hc := blank_small hb
        rw [rnL_cons c r (by omega)]
        rw [Bool.eq_iff_iff, beq_iff_eq, decide_eq_true_iff]
        constructor
        · intro k; exact UInt8.toNat_inj.1 (by show c.toNat = 10; omega)
        · intro k; rw [k]; rfl
      rw [scanA_step _ _ _ (by simp), asc_pred blankR blank_lt, if_pos hb, sp_blank hb, e]
      have ih1 := ih r (by simp) (if decide (c = 10) = true then line + 1 else line) acc
      rw [List.drop_succ_cons, List.drop_zero, ih1, List.take_succ_cons, List.drop_succ_cons, feeds_cons]
      have e2 : (if decide (c = 10) = true then line + 1 else line) + feeds (r.take (sp r).1) = line + ((if c = 10 then 1 else 0) + feeds (r.take (sp r).1)) := by
        by_cases k : c = 10
        · rw [if_pos (by simpa using k), if_pos k]; omega
        · rw [if_neg (by simpa using k), if_neg k]; omega
      rw [e2]
    by_cases hs : slB (c :: r) = true
    · rw [scanA_step _ _ _ (by simp), asc_pred blankR blank_lt, if_neg hb, piece_cmt hs]
      by_cases hd : badL (lineA (c :: r)) = true
      · rw [sp_bad hb hs hd, if_pos hd, if_neg (by simp)]
        rfl
      · have hl := sl_len hs
        rw [sp_line hb hs hd, if_neg hd]
        show scanA line ((c :: r).drop (lineA (c :: r)).length) acc = _
        rw [line_drop, ih (lineD (c :: r)) (by omega)]
        have e1 : (c :: r).drop ((sp (lineD (c :: r))).1 + (lineA (c :: r)).length) = (lineD (c :: r)).drop (sp (lineD (c :: r))).1 := by rw [Nat.add_comm, ← List.drop_drop, line_drop]
        have e2 : feeds ((c :: r).take ((sp (lineD (c :: r))).1 + (lineA (c :: r)).length)) = feeds ((lineD (c :: r)).take (sp (lineD (c :: r))).1) := by
          rw [Nat.add_comm, List.take_add, line_take, line_drop, feeds_app, feeds_no (lineA_no _), Nat.zero_add]
        show _ = if (sp (lineD (c :: r))).2 = true then scanA (line + feeds ((c :: r).take ((sp (lineD (c :: r))).1 + (lineA (c :: r)).length))) ((c :: r).drop ((sp (lineD (c :: r))).1 + (lineA (c :: r)).length)) acc else ([], false, line + feeds ((c :: r).take ((sp (lineD (c :: r))).1 + (lineA (c :: r)).length)))
        rw [e1, e2]
    · rw [sp_none hb hs, if_pos rfl]
      rfl
end Go.Proofs.YtpoomcejmdlmiaaDoor
