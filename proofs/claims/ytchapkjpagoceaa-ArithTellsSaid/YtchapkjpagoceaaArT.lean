/- The document's own answers, whichever operator. -/
import Derived.Test.YtchapkjpagoceaaRows
import Derived.WalkKit
import Derived.ProofKit
import Derived.OpenShut
import Derived.WalkLawsBesides
import Derived.WalkSpells
import Derived.Outline
import Derived.Handy
import Derived.Lib.Hide
import Derived.Laws.EntriesVeiled
import Derived.Test.YtchapkjpagoceaaArR
import Derived.Test.YtchapkjpagoceaaArS
namespace Go.Proofs.Ytchapkjpagoceaa
open Go.ChangeShapes Go.WideShapes Go.ChangeAt Go.RowKit
theorem rtwo_any (op a b : Int) (w : World) :
    Calls Try.prog 16 #[.int .i64 op, .int .i64 a, .int .i64 b] w fun e w' => e = .returned (.tuple #[.int .i64 (twoV op a b), .bool (twoB op b)]) ∧ Below w.heap.size w w' := by
  by_cases h : op < 1 ∨ 16 < op
  · rw [twoV_no op a b h, twoB_no op b h]; exact rtwo_no op a b w h
  · rcases sixteen (k := op) (by omega) (by omega) with rfl | rfl | rfl | rfl | rfl | rfl | rfl | rfl | rfl | rfl | rfl | rfl | rfl | rfl | rfl | rfl
    · exact rtwo_1 a b w
    · exact rtwo_2 a b w
    · exact rtwo_3 a b w
    · by_cases hb : b = 0
      · subst hb; exact rtwo_4_no a w
      · have e1 : twoV 4 a b = wrap64 (a.tdiv b) := by show (if b = 0 then 0 else _) = _; rw [if_neg hb]
        have e2 : twoB 4 b = true := by unfold twoB; simp [hb]
        rw [e1, e2]; exact rtwo_4 a b w hb
    · by_cases hb : b = 0
      · subst hb; exact rtwo_5_no a w
      · have e1 : twoV 5 a b = a.tmod b := by show (if b = 0 then 0 else _) = _; rw [if_neg hb]
        have e2 : twoB 5 b = true := by unfold twoB; simp [hb]
        rw [e1, e2]; exact rtwo_5 a b w hb
    · exact rtwo_6 a b w
    · exact rtwo_7 a b w
    · exact rtwo_8 a b w
    · exact rtwo_9 a b w
    · exact rtwo_10 a b w
    · exact rtwo_11 a b w
    · exact rtwo_12 a b w
    · exact rtwo_13 a b w
    · exact rtwo_14 a b w
    · exact rtwo_15 a b w
    · exact rtwo_16 a b w
theorem rone_any (op a : Int) (w : World) :
    Calls Try.prog 24 #[.int .i64 op, .int .i64 a] w fun e w' => e = .returned (.tuple #[.int .i64 (oneV op a), .bool (oneB op)]) ∧ Below w.heap.size w w' := by
  by_cases h : op < 17 ∨ 19 < op
  · rw [oneV_no op a h, oneB_no op h]; exact rone_no op a w h
  · rcases (show op = 17 ∨ op = 18 ∨ op = 19 by omega) with rfl | rfl | rfl
    · exact rone_17 a w
    · exact rone_18 a w
    · exact rone_19 a w
theorem rsign_any (op : Int) (w : World) :
    Calls Try.prog 26 #[.int .i64 op] w fun e w' => e = .returned (.tuple #[.string (signL op), .bool (signB op)]) ∧ Below w.heap.size w w' := by
  by_cases h : op < 1 ∨ 19 < op
  · rw [signL_no op h, signB_no op h]; exact rsign_no op w h
  · rcases nineteen (k := op) (by omega) (by omega) with rfl | rfl | rfl | rfl | rfl | rfl | rfl | rfl | rfl | rfl | rfl | rfl | rfl | rfl | rfl | rfl | rfl | rfl | rfl
    · exact rsign_1 w
    · exact rsign_2 w
    · exact rsign_3 w
    · exact rsign_4 w
    · exact rsign_5 w
    · exact rsign_6 w
    · exact rsign_7 w
    · exact rsign_8 w
    · exact rsign_9 w
    · exact rsign_10 w
    · exact rsign_11 w
    · exact rsign_12 w
    · exact rsign_13 w
    · exact rsign_14 w
    · exact rsign_15 w
    · exact rsign_16 w
    · exact rsign_17 w
    · exact rsign_18 w
    · exact rsign_19 w
theorem rlevel_any (op : Int) (w : World) :
    Calls Try.prog 28 #[.int .i64 op] w fun e w' => e = .returned (.int .i64 (levelL op)) ∧ Below w.heap.size w w' := by
  by_cases h : op < 1 ∨ 16 < op
  · rw [levelL_no op h]; exact rlevel_no op w h
  · rcases sixteen (k := op) (by omega) (by omega) with rfl | rfl | rfl | rfl | rfl | rfl | rfl | rfl | rfl | rfl | rfl | rfl | rfl | rfl | rfl | rfl
    · exact rlevel_1 w
    · exact rlevel_2 w
    · exact rlevel_3 w
    · exact rlevel_4 w
    · exact rlevel_5 w
    · exact rlevel_6 w
    · exact rlevel_7 w
    · exact rlevel_8 w
    · exact rlevel_9 w
    · exact rlevel_10 w
    · exact rlevel_11 w
    · exact rlevel_12 w
    · exact rlevel_13 w
    · exact rlevel_14 w
    · exact rlevel_15 w
    · exact rlevel_16 w
end Go.Proofs.Ytchapkjpagoceaa
