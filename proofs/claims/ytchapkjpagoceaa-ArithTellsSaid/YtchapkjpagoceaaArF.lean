/- The operators, whichever they are. -/
import Derived.Test.YtchapkjpagoceaaRows
import Derived.WalkKit
import Derived.ProofKit
import Derived.OpenShut
import Derived.WalkLawsBesides
import Derived.WalkSpells
import Derived.Outline
import Derived.Handy
import Derived.Lib.Hide
import Derived.Laws.EntriesVeiled
import Derived.Test.YtchapkjpagoceaaArE
namespace Go.Proofs.Ytchapkjpagoceaa
open Go.ChangeShapes Go.WideShapes Go.ChangeAt Go.RowKit
theorem sixteen {k : Int} (h1 : 1 ≤ k) (h2 : k ≤ 16) : k = 1 ∨ k = 2 ∨ k = 3 ∨ k = 4 ∨ k = 5 ∨ k = 6 ∨ k = 7 ∨ k = 8 ∨ k = 9 ∨ k = 10 ∨ k = 11 ∨ k = 12 ∨ k = 13 ∨ k = 14 ∨ k = 15 ∨ k = 16 := by omega
theorem nineteen {k : Int} (h1 : 1 ≤ k) (h2 : k ≤ 19) : k = 1 ∨ k = 2 ∨ k = 3 ∨ k = 4 ∨ k = 5 ∨ k = 6 ∨ k = 7 ∨ k = 8 ∨ k = 9 ∨ k = 10 ∨ k = 11 ∨ k = 12 ∨ k = 13 ∨ k = 14 ∨ k = 15 ∨ k = 16 ∨ k = 17 ∨ k = 18 ∨ k = 19 := by omega
theorem twoV_no (op a b : Int) (h : op < 1 ∨ 16 < op) : twoV op a b = 0 := by
  unfold twoV; repeat rw [if_neg (by omega)]
theorem twoB_no (op b : Int) (h : op < 1 ∨ 16 < op) : twoB op b = false := by
  unfold twoB; rw [decide_eq_false (by omega)]; rfl
theorem oneV_no (op a : Int) (h : op < 17 ∨ 19 < op) : oneV op a = 0 := by
  unfold oneV; repeat rw [if_neg (by omega)]
theorem oneB_no (op : Int) (h : op < 17 ∨ 19 < op) : oneB op = false := by
  unfold oneB; rw [decide_eq_false (by omega)]
def signL (k : Int) : ByteArray := if k = 1 then ⟨#[43]⟩ else if k = 2 then ⟨#[45]⟩ else if k = 3 then ⟨#[42]⟩ else if k = 4 then ⟨#[47]⟩ else if k = 5 then ⟨#[37]⟩ else if k = 6 then ⟨#[38]⟩ else if k = 7 then ⟨#[124]⟩ else if k = 8 then ⟨#[94]⟩ else if k = 9 then ⟨#[60, 60]⟩ else if k = 10 then ⟨#[62, 62]⟩ else if k = 11 then ⟨#[60]⟩ else if k = 12 then ⟨#[60, 61]⟩ else if k = 13 then ⟨#[62]⟩ else if k = 14 then ⟨#[62, 61]⟩ else if k = 15 then ⟨#[61, 61]⟩ else if k = 16 then ⟨#[33, 61]⟩ else if k = 17 then ⟨#[45]⟩ else if k = 18 then ⟨#[33]⟩ else if k = 19 then ⟨#[126]⟩ else ⟨#[]⟩
def levelL (k : Int) : Int := if k = 1 then 7 else if k = 2 then 7 else if k = 3 then 8 else if k = 4 then 8 else if k = 5 then 8 else if k = 6 then 3 else if k = 7 then 1 else if k = 8 then 2 else if k = 9 then 6 else if k = 10 then 6 else if k = 11 then 5 else if k = 12 then 5 else if k = 13 then 5 else if k = 14 then 5 else if k = 15 then 4 else if k = 16 then 4 else 0
theorem signL_no (op : Int) (h : op < 1 ∨ 19 < op) : signL op = ⟨#[]⟩ := by
  unfold signL; repeat rw [if_neg (by omega)]
theorem levelL_no (op : Int) (h : op < 1 ∨ 16 < op) : levelL op = 0 := by
  unfold levelL; repeat rw [if_neg (by omega)]
def signB (k : Int) : Bool := decide (1 ≤ k ∧ k ≤ 19)
theorem signB_no (op : Int) (h : op < 1 ∨ 19 < op) : signB op = false := by
  unfold signB; rw [decide_eq_false (by omega)]
theorem two_any (op a b : Int) (w : World) :
    Calls Try.prog 15 #[.int .i64 op, .int .i64 a, .int .i64 b] w fun e w' => e = .returned (.tuple #[.int .i64 (twoV op a b), .bool (twoB op b)]) ∧ Below w.heap.size w w' := by
  by_cases h : op < 1 ∨ 16 < op
  · rw [twoV_no op a b h, twoB_no op b h]; exact two_no op a b w h
  · rcases sixteen (k := op) (by omega) (by omega) with rfl | rfl | rfl | rfl | rfl | rfl | rfl | rfl | rfl | rfl | rfl | rfl | rfl | rfl | rfl | rfl
    · exact two_1 a b w
    · exact two_2 a b w
    · exact two_3 a b w
    · by_cases hb : b = 0
      · subst hb; exact two_4_no a w
      · have e1 : twoV 4 a b = wrap64 (a.tdiv b) := by show (if b = 0 then 0 else _) = _; rw [if_neg hb]
        have e2 : twoB 4 b = true := by unfold twoB; simp [hb]
        rw [e1, e2]; exact two_4 a b w hb
    · by_cases hb : b = 0
      · subst hb; exact two_5_no a w
      · have e1 : twoV 5 a b = a.tmod b := by show (if b = 0 then 0 else _) = _; rw [if_neg hb]
        have e2 : twoB 5 b = true := by unfold twoB; simp [hb]
        rw [e1, e2]; exact two_5 a b w hb
    · exact two_6 a b w
    · exact two_7 a b w
    · exact two_8 a b w
    · exact two_9 a b w
    · exact two_10 a b w
    · exact two_11 a b w
    · exact two_12 a b w
    · exact two_13 a b w
    · exact two_14 a b w
    · exact two_15 a b w
    · exact two_16 a b w
theorem one_any (op a : Int) (w : World) :
    Calls Try.prog 23 #[.int .i64 op, .int .i64 a] w fun e w' => e = .returned (.tuple #[.int .i64 (oneV op a), .bool (oneB op)]) ∧ Below w.heap.size w w' := by
  by_cases h : op < 17 ∨ 19 < op
  · rw [oneV_no op a h, oneB_no op h]; exact one_no op a w h
  · rcases (show op = 17 ∨ op = 18 ∨ op = 19 by omega) with rfl | rfl | rfl
    · exact one_17 a w
    · exact one_18 a w
    · exact one_19 a w
theorem sign_any (op : Int) (w : World) :
    Calls Try.prog 25 #[.int .i64 op] w fun e w' => e = .returned (.tuple #[.string (signL op), .bool (signB op)]) ∧ Below w.heap.size w w' := by
  by_cases h : op < 1 ∨ 19 < op
  · rw [signL_no op h, signB_no op h]; exact sign_no op w h
  · rcases nineteen (k := op) (by omega) (by omega) with rfl | rfl | rfl | rfl | rfl | rfl | rfl | rfl | rfl | rfl | rfl | rfl | rfl | rfl | rfl | rfl | rfl | rfl | rfl
    · exact sign_1 w
    · exact sign_2 w
    · exact sign_3 w
    · exact sign_4 w
    · exact sign_5 w
    · exact sign_6 w
    · exact sign_7 w
    · exact sign_8 w
    · exact sign_9 w
    · exact sign_10 w
    · exact sign_11 w
    · exact sign_12 w
    · exact sign_13 w
    · exact sign_14 w
    · exact sign_15 w
    · exact sign_16 w
    · exact sign_17 w
    · exact sign_18 w
    · exact sign_19 w
theorem level_any (op : Int) (w : World) :
    Calls Try.prog 27 #[.int .i64 op] w fun e w' => e = .returned (.int .i64 (levelL op)) ∧ Below w.heap.size w w' := by
  by_cases h : op < 1 ∨ 16 < op
  · rw [levelL_no op h]; exact level_no op w h
  · rcases sixteen (k := op) (by omega) (by omega) with rfl | rfl | rfl | rfl | rfl | rfl | rfl | rfl | rfl | rfl | rfl | rfl | rfl | rfl | rfl | rfl
    · exact level_1 w
    · exact level_2 w
    · exact level_3 w
    · exact level_4 w
    · exact level_5 w
    · exact level_6 w
    · exact level_7 w
    · exact level_8 w
    · exact level_9 w
    · exact level_10 w
    · exact level_11 w
    · exact level_12 w
    · exact level_13 w
    · exact level_14 w
    · exact level_15 w
    · exact level_16 w
end Go.Proofs.Ytchapkjpagoceaa
