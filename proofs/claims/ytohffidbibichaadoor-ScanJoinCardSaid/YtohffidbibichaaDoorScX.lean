/- Blanks and comments between words: what they change; the law's own blanks, and its count of line feeds. -/
import Derived.Test.YtohffidbibichaaDoorRows
import Derived.WalkKit
import Derived.ProofKit
import Derived.OpenShut
import Derived.WalkLawsBesides
import Derived.WalkSpells
import Derived.Outline
import Derived.Handy
import Derived.Lib.Hide
import Derived.Lib.OthersKept
import Derived.KernelRfl
import Derived.RegionTactic
import Derived.BigRegion
import Derived.Deep.RegionHeld3
import Derived.Test.YtohffidbibichaaDoorScV
namespace Go.Proofs.YtohffidbibichaaDoor
open Go.ChangeShapes Go.WideShapes Go.ChangeAt Go.RowKit
set_option linter.unusedVariables false
/-- What may stand in a comment here. -/
inductive Fine : List UInt8 → Prop
  | nil : Fine []
  | asc (c : UInt8) (r : List UInt8) (h : c.toNat < 128) (h10 : c ≠ 10) (k : Fine r) : Fine (c :: r)
  | two (r : List UInt8) (k : Fine r) : Fine (195 :: 169 :: r)
theorem cmt_fine (rest : List UInt8) {body : List UInt8} (h : Fine body) : ∀ pre : List UInt8, cmtR (mk (pre ++ body ++ 10 :: rest)) (mk (pre ++ body ++ 10 :: rest)).size pre.length = (pre.length + body.length, true) := by
  induction h with
  | nil =>
    intro pre
    have hl : pre.length < (mk (pre ++ [] ++ 10 :: rest)).size := by rw [mk_size]; simp
    have hr : rn (mk (pre ++ [] ++ 10 :: rest)) pre.length = 10 := by
      rw [rn_drop, mk_list, List.append_nil, List.drop_left]; exact rnL_cons 10 _ (by decide)
    rw [cmtR_step _ _ hl, if_pos hr]; rfl
  | asc c r hc h10 k ih =>
    intro pre
    have hl : pre.length < (mk (pre ++ (c :: r) ++ 10 :: rest)).size := by rw [mk_size]; simp
    have hd : (pre ++ (c :: r) ++ 10 :: rest).drop pre.length = c :: (r ++ 10 :: rest) := by rw [List.append_assoc, List.drop_left]; rfl
    have hr : rn (mk (pre ++ (c :: r) ++ 10 :: rest)) pre.length = (c.toNat : Int) := by rw [rn_drop, mk_list, hd]; exact rnL_cons c _ hc
    have hw : wd (mk (pre ++ (c :: r) ++ 10 :: rest)) pre.length = 1 := small _ _ hl (by rw [hr]; omega)
    have hne : ¬ (c.toNat : Int) = 10 := fun e => h10 (by apply UInt8.toNat_inj.1; show c.toNat = 10; omega)
    rw [cmtR_step _ _ hl, hr, if_neg hne, if_neg (by omega), hw]
    have := ih (pre ++ [c])
    have e : pre ++ [c] ++ r ++ 10 :: rest = pre ++ (c :: r) ++ 10 :: rest := by simp
    rw [e, List.length_append] at this
    rw [show pre.length + 1 = pre.length + [c].length from rfl, this]
    simp; omega
  | two r k ih =>
    intro pre
    have hl : pre.length < (mk (pre ++ (195 :: 169 :: r) ++ 10 :: rest)).size := by rw [mk_size]; simp
    have hd : (pre ++ (195 :: 169 :: r) ++ 10 :: rest).drop pre.length = 195 :: 169 :: (r ++ 10 :: rest) := by rw [List.append_assoc, List.drop_left]; rfl
    have hdec := rnL_dec (dec_two 233 (by decide) (by decide) (r ++ 10 :: rest))
    have hr : rn (mk (pre ++ (195 :: 169 :: r) ++ 10 :: rest)) pre.length = 233 := by rw [rn_drop, mk_list, hd]; exact hdec.1
    have hw : wd (mk (pre ++ (195 :: 169 :: r) ++ 10 :: rest)) pre.length = 2 := by rw [wd_drop, mk_list, hd]; exact hdec.2
    rw [cmtR_step _ _ hl, hr, if_neg (by decide), if_neg (by decide), hw]
    have := ih (pre ++ [195, 169])
    have e : pre ++ [195, 169] ++ r ++ 10 :: rest = pre ++ (195 :: 169 :: r) ++ 10 :: rest := by simp
    rw [e, List.length_append] at this
    rw [show pre.length + 2 = pre.length + [(195 : UInt8), 169].length from rfl, this]
    simp; omega
theorem scanA_comment (line : Nat) {body : List UInt8} (h : Fine body) (rest : List UInt8) (acc : List Tk) : scanA line (47 :: 47 :: (body ++ 10 :: rest)) acc = scanA line (10 :: rest) acc := by
  have hf : Fine (47 :: 47 :: body) := .asc _ _ (by decide) (by decide) (.asc _ _ (by decide) (by decide) h)
  have hc : cmtL (mk (47 :: 47 :: (body ++ 10 :: rest))) = (body.length + 2, true) := by
    have := cmt_fine rest hf []
    unfold cmtL
    rw [List.nil_append] at this
    refine this.trans ?_
    simp
  have hr : rnL (47 :: 47 :: (body ++ 10 :: rest)) = 47 := rnL_cons 47 _ (by decide)
  have hp : pieceQ (mk (47 :: 47 :: (body ++ 10 :: rest))) 47 = some ⟨body.length + 2, 0, ⟨#[]⟩, 0⟩ := by
    rw [pieceQ_cons]
    unfold pieceP
    have hs : slashes (mk (47 :: 47 :: (body ++ 10 :: rest))) = true := rfl
    rw [hs, hc]; rfl
  rw [scanA_step _ _ _ (by simp), hr, hp]
  have hd : (47 :: 47 :: (body ++ 10 :: rest)).drop (body.length + 2) = 10 :: rest := by
    rw [List.drop_succ_cons, List.drop_succ_cons, List.drop_left]
  show scanA line ((47 :: 47 :: (body ++ 10 :: rest)).drop (body.length + 2)) acc = _
  rw [hd]
/-- A text between words. -/
structure BlankT (b : List UInt8) : Prop where
  sep : ∀ rest, Sep (b ++ rest)
  len : b.length ≤ 11
  scan : ∀ line rest acc, scanA line (b ++ rest) acc = scanA (line + b.count 10) rest acc
theorem sep_of (a : UInt8) (r : List UInt8) (h : a = 32 ∨ a = 10 ∨ a = 9) : Sep (a :: r) := .inr ⟨a, r, rfl, h⟩
def blankTs : List (List UInt8) := [[32], [32, 32], [10], [32, 9, 13, 32], [10, 10], [32, 47, 47, 32, 120, 32, 61, 32, 49, 59, 10], [32, 47, 47, 10], [32, 47, 47, 195, 169, 32, 39, 97, 10, 32]]
theorem fine_all : ∀ l : List UInt8, (l.all fun c => decide (c.toNat < 128) && c != 10) = true → Fine l
  | [], _ => .nil
  | c :: r, h => by
    rw [List.all_cons, Bool.and_eq_true, Bool.and_eq_true, decide_eq_true_iff] at h
    exact .asc c r h.1.1 (by have := h.1.2; intro e; subst e; exact absurd this (by decide)) (fine_all r h.2)
theorem blank_1 : BlankT [32] := ⟨fun rest => sep_of _ _ (.inl rfl), by decide, fun line rest acc => scanA_blank _ _ _ _ (.inl rfl)⟩
theorem blank_2 : BlankT [32, 32] := ⟨fun rest => sep_of _ _ (.inl rfl), by decide, fun line rest acc => by
  show scanA line (32 :: 32 :: rest) acc = _
  rw [scanA_blank _ _ _ _ (.inl rfl), scanA_blank _ _ _ _ (.inl rfl)]; rfl⟩
theorem blank_3 : BlankT [10] := ⟨fun rest => sep_of _ _ (.inr (.inl rfl)), by decide, fun line rest acc => scanA_feed _ _ _⟩
theorem blank_4 : BlankT [32, 9, 13, 32] := ⟨fun rest => sep_of _ _ (.inl rfl), by decide, fun line rest acc => by
  show scanA line (32 :: 9 :: 13 :: 32 :: rest) acc = _
  rw [scanA_blank _ _ _ _ (.inl rfl), scanA_blank _ _ _ _ (.inr (.inl rfl)), scanA_blank _ _ _ _ (.inr (.inr rfl)), scanA_blank _ _ _ _ (.inl rfl)]; rfl⟩
theorem blank_5 : BlankT [10, 10] := ⟨fun rest => sep_of _ _ (.inr (.inl rfl)), by decide, fun line rest acc => by
  show scanA line (10 :: 10 :: rest) acc = _
  rw [scanA_feed, scanA_feed]; rfl⟩
theorem blank_6 : BlankT [32, 47, 47, 32, 120, 32, 61, 32, 49, 59, 10] := ⟨fun rest => sep_of _ _ (.inl rfl), by decide, fun line rest acc => by
  have e : [32, 47, 47, 32, 120, 32, 61, 32, 49, 59, 10] ++ rest = 32 :: 47 :: 47 :: ([32, 120, 32, 61, 32, 49, 59] ++ 10 :: rest) := rfl
  rw [e, scanA_blank _ _ _ _ (.inl rfl), scanA_comment _ (fine_all _ (by decide)), scanA_feed]; rfl⟩
theorem blank_7 : BlankT [32, 47, 47, 10] := ⟨fun rest => sep_of _ _ (.inl rfl), by decide, fun line rest acc => by
  have e : [32, 47, 47, 10] ++ rest = 32 :: 47 :: 47 :: ([] ++ 10 :: rest) := rfl
  rw [e, scanA_blank _ _ _ _ (.inl rfl), scanA_comment _ .nil, scanA_feed]; rfl⟩
theorem blank_8 : BlankT [32, 47, 47, 195, 169, 32, 39, 97, 10, 32] := ⟨fun rest => sep_of _ _ (.inl rfl), by decide, fun line rest acc => by
  have e : [32, 47, 47, 195, 169, 32, 39, 97, 10, 32] ++ rest = 32 :: 47 :: 47 :: ([195, 169, 32, 39, 97] ++ 10 :: 32 :: rest) := rfl
  rw [e, scanA_blank _ _ _ _ (.inl rfl), scanA_comment _ (.two _ (fine_all _ (by decide))), scanA_feed, scanA_blank _ _ _ _ (.inl rfl)]; rfl⟩
theorem blank_9 : BlankT [9, 13] := ⟨fun rest => sep_of _ _ (.inr (.inr rfl)), by decide, fun line rest acc => by
  show scanA line (9 :: 13 :: rest) acc = _
  rw [scanA_blank _ _ _ _ (.inr (.inl rfl)), scanA_blank _ _ _ _ (.inr (.inr rfl))]; rfl⟩
theorem blank_tok {b : List UInt8} (h : b ∈ blankTs) : BlankT b := by
  unfold blankTs at h
  simp only [List.mem_cons, List.not_mem_nil, or_false] at h
  rcases h with rfl | rfl | rfl | rfl | rfl | rfl | rfl | rfl
  · exact blank_1
  · exact blank_2
  · exact blank_3
  · exact blank_4
  · exact blank_5
  · exact blank_6
  · exact blank_7
  · exact blank_8
end Go.Proofs.YtohffidbibichaaDoor
