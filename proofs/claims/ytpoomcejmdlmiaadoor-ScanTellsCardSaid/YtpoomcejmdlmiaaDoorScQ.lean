/- The walk of ScanNumbers: the call answers true and leaves what was there as it was. -/
import Derived.Test.YtpoomcejmdlmiaaDoorRows
import Derived.WalkKit
import Derived.ProofKit
import Derived.OpenShut
import Derived.WalkLawsBesides
import Derived.WalkSpells
import Derived.Outline
import Derived.Handy
import Derived.Lib.Hide
import Derived.Lib.OthersKept
import Derived.KernelRfl
import Derived.RegionTactic
import Derived.BigRegion
import Derived.Deep.RegionHeld3
import Derived.Laws.Runes
import Derived.Test.YtpoomcejmdlmiaaDoorScO
import Derived.Test.YtpoomcejmdlmiaaDoorScP
namespace Go.Proofs.YtpoomcejmdlmiaaDoor
open Go.ChangeShapes Go.WideShapes Go.ChangeAt Go.RowKit
set_option linter.unusedVariables false
theorem pickN_nat (c : Int) (n : Nat) (h : 0 < n) : ∃ q : Nat, pickN c n = (q : Int) ∧ q < n := by
  have h1 := pickN_lo c n (by omega)
  have h2 := pickN_hi c n (by omega)
  exact ⟨(pickN c n).toNat, by omega, by omega⟩
theorem RowAt.first {w : World} {v : Value} {t : Tk} {L : List Tk} (h : RowAt w v (t :: L)) : ∃ b cap, v = .slice (some ⟨b, 0, none⟩) (L.length + 1) cap ∧ b < w.heap.size ∧
    w.cell? ⟨b, 0, none⟩ = some (.int .i64 t.kind) ∧ w.cell? ⟨b, 1, none⟩ = some (.string t.text) ∧ w.cell? ⟨b, 2, none⟩ = some (.int .i64 t.n) ∧ w.cell? ⟨b, 3, none⟩ = some (.int .i64 t.line) := by
  rcases h with ⟨_, h⟩ | ⟨b, cap, h1, h2, h3⟩
  · cases h
  · have := h3 0 (by simp)
    simp only [Nat.zero_mul, Nat.zero_add] at this
    exact ⟨b, cap, h1, h2, this⟩
end Go.Proofs.YtpoomcejmdlmiaaDoor
