/- blocks.branches, turns, landings, leads, beginnings. -/
import Derived.Test.YtnfoplefaibmhaaGreatDoorRows
import Derived.WalkKit
import Derived.ProofKit
import Derived.OpenShut
import Derived.WalkLawsBesides
import Derived.WalkSpells
import Derived.Outline
import Derived.Handy
import Derived.Lib.Hide
import Derived.Lib.OthersKept
import Derived.KernelRfl
import Derived.Carry
import Derived.OwnWalk
import Derived.RegionTactic
import Derived.BigRegion
import Derived.BigQuiet
import Derived.Deep.QuietTactic
import Derived.Test.YtnfoplefaibmhaaGreatDoorBkM
import Derived.Test.YtnfoplefaibmhaaGreatDoorBkP
namespace Go.Proofs.YtnfoplefaibmhaaGreatDoor
open Go.ChangeShapes Go.WideShapes Go.ChangeAt Go.RowKit
set_option linter.unusedVariables false
theorem branches_any (op : Int) (w : World) : Calls Tryz.prog 29 #[.int .i64 op] w fun e w' => e = .returned (.bool (branB op)) ∧ w' = w := by
  by_cases h1 : op = 21
  · subst h1
    go_enter Tryz.func29, Tryz.ntmps29
    go_wp2_with fail
    go_ret
    exact ⟨rfl, rfl⟩
  by_cases h2 : op = 22
  · subst h2
    go_enter Tryz.func29, Tryz.ntmps29
    go_wp2_with fail
    go_ret
    exact ⟨rfl, rfl⟩
  by_cases h3 : op = 23
  · subst h3
    go_enter Tryz.func29, Tryz.ntmps29
    go_wp2_with fail
    go_ret
    exact ⟨rfl, rfl⟩
  have b1 : (op == 21) = false := beq_eq_false_iff_ne.2 h1
  have b2 : (op == 22) = false := beq_eq_false_iff_ne.2 h2
  have b3 : (op == 23) = false := beq_eq_false_iff_ne.2 h3
  have e : branB op = (op == 24) := by
    unfold branB
    by_cases h4 : op = 24
    · subst h4; rfl
    · rw [beq_eq_false_iff_ne.2 h4, decide_eq_false_iff_not]; omega
  rw [e]
  clear h1 h2 h3 e
  go_enter Tryz.func29, Tryz.ntmps29
  go_wp2_with fail
  go_ret
  exact ⟨rfl, rfl⟩
end Go.Proofs.YtnfoplefaibmhaaGreatDoor
