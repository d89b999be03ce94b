/- Codes compared. -/
import Derived.Test.YtnfoplefaibmhaaGreatDoorRows
import Derived.WalkKit
import Derived.ProofKit
import Derived.OpenShut
import Derived.WalkLawsBesides
import Derived.WalkSpells
import Derived.Outline
import Derived.Handy
import Derived.Lib.Hide
import Derived.Lib.OthersKept
import Derived.KernelRfl
import Derived.Carry
import Derived.Test.YtnfoplefaibmhaaGreatDoorInD
import Derived.Test.YtnfoplefaibmhaaGreatDoorAs0
namespace Go.Proofs.YtnfoplefaibmhaaGreatDoor
open Go.ChangeShapes Go.WideShapes Go.ChangeAt Go.RowKit
set_option linter.unusedVariables false
def slotN (v : Value) : Nat := match v with | .int _ x => x.toNat | _ => 0
theorem slotN_int (k : Nat) : slotN (.int .i64 (k : Int)) = k := by simp [slotN]
/-- A value is code: its arrays' row, its lines' row. -/
def CdAt (w : World) (v : Value) (c : Cd) : Prop := ∃ va vl, v = .agg #[va, vl] ∧ ArsAt w va c.arrays ∧ LnsAt w vl c.lines ∧ c.arrays.length ≤ 140737488355328 ∧ c.lines.length ≤ 140737488355328
theorem CdAt.ext {w w' : World} {v : Value} {c : Cd} (h : CdAt w v c) (g : Below w.heap.size w w') : CdAt w' v c := by
  obtain ⟨va, vl, e, h1, h2, h3, h4⟩ := h
  exact ⟨va, vl, e, h1.ext g, h2.ext g, h3, h4⟩
theorem two_cells {w : World} {b : Nat} {v0 v1 : Value} {t : TypeId} (h : w.heap[b]? = some (.cells #[v0, v1] t (0, 0))) : w.cell? ⟨b, 0, none⟩ = some v0 ∧ w.cell? ⟨b, 1, none⟩ = some v1 := by
  simp [World.cell?, h]
theorem cd_eq (c d : Cd) : decide (c = d) = (decide (c.arrays = d.arrays) && decide (c.lines = d.lines)) := by
  obtain ⟨a, b⟩ := c
  obtain ⟨a', b'⟩ := d
  rw [← Bool.decide_and]
  simp only [Cd.mk.injEq, and_comm]
end Go.Proofs.YtnfoplefaibmhaaGreatDoor
