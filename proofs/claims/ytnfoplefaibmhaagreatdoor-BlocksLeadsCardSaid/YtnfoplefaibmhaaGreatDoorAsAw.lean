/- The chapter's example, walked. -/
import Derived.Test.YtnfoplefaibmhaaGreatDoorRows
import Derived.WalkKit
import Derived.ProofKit
import Derived.OpenShut
import Derived.WalkLawsBesides
import Derived.WalkSpells
import Derived.Outline
import Derived.Handy
import Derived.Lib.Hide
import Derived.Lib.OthersKept
import Derived.KernelRfl
import Derived.Carry
import Derived.Test.YtnfoplefaibmhaaGreatDoorAsO
import Derived.Test.YtnfoplefaibmhaaGreatDoorAsZ
namespace Go.Proofs.YtnfoplefaibmhaaGreatDoor
open Go.ChangeShapes Go.WideShapes Go.ChangeAt Go.RowKit
set_option linter.unusedVariables false
theorem cd_shape {w : World} {v : Value} {c : Cd} (h : CdAt w v c) : ∃ pa ca pl cl, v = .agg #[.slice pa c.arrays.length ca, .slice pl c.lines.length cl] := by
  obtain ⟨va, vl, rfl, ⟨_, pa, ca, rfl, _⟩, ⟨_, pl, cl, rfl, _⟩, _⟩ := h
  exact ⟨_, _, _, _, rfl⟩
theorem FlatRes.shape {B : Nat} {c : Cd} {e : Ending} {w : World} (h : FlatRes B c e w) : ∃ p1 c1 p2 c2, e = .returned (.tuple #[.slice p1 (flatI c.lines).length c1, .slice p2 (flatI c.lines).length c2]) ∧ w.ownsRow B 36 6 (.slice p1 (flatI c.lines).length c1) (flatI c.lines).length ((flatI c.lines).flatMap cellsI) ∧ w.ownsRow B 3 1 (.slice p2 (flatI c.lines).length c2) (flatI c.lines).length (((flatI c.lines).map (toL c)).flatMap cellsN) := by
  obtain ⟨v1, v2, n1, n2, rfl, h1, h2⟩ := h
  obtain ⟨e1, p1, c1, rfl, _⟩ := row_get lenI (by decide) h1
  obtain ⟨e2, p2, c2, rfl, _⟩ := row_get lenN (by decide) h2
  rw [List.length_map] at e2 h2
  subst e1 e2
  exact ⟨p1, c1, p2, c2, by rw [List.length_map], h1, h2⟩
theorem cell_alloc0 {w : World} {p : Addr} {v : Value} (h : w.cell? p = some v) (o : Obj) : (w.alloc o).cell? p = some v := ((ext_alloc (Below.refl w.heap.size w) o).cell (cell_lt h)).trans h
end Go.Proofs.YtnfoplefaibmhaaGreatDoor
