/- The law's own comparison of rows of numbers. -/
import Derived.Test.YtdfiaefdbalcoaaDoorRows
import Derived.WalkKit
import Derived.ProofKit
import Derived.OpenShut
import Derived.WalkLawsBesides
import Derived.WalkSpells
import Derived.Outline
import Derived.Handy
import Derived.Lib.Hide
import Derived.Lib.OthersKept
import Derived.KernelRfl
import Derived.RegionTactic
import Derived.BigRegion
import Derived.BigQuiet
import Derived.Carry
import Derived.Test.YtdfiaefdbalcoaaDoorInP
import Derived.Test.YtdfiaefdbalcoaaDoorInTr1
namespace Go.Proofs.YtdfiaefdbalcoaaDoor
open Go.ChangeShapes Go.WideShapes Go.ChangeAt Go.RowKit
set_option linter.unusedVariables false
set_option maxRecDepth 100000 in
theorem ints_none (v1 v2 : Value) (w : World) (h1 : IntsAt w v1 []) (h2 : IntsAt w v2 []) : Calls Tryd.prog 15 #[v1, v2] w fun e w' => e = .returned (.bool true) ∧ Below w.heap.size w w' := by
  obtain ⟨a1, c1, rfl⟩ := ints_nil h1
  obtain ⟨a2, c2, rfl⟩ := ints_nil h2
  clear h1 h2
  go_enter Tryd.func15, Tryd.ntmps15
  go_wp2_with fail
  go_loopw [5] (fun iv wr => iv = .int .i64 0 ∧ w = wr) (fun iv wr => 0)
  case atStart => exact ⟨rfl, rfl⟩
  case round =>
    obtain ⟨rfl, rfl⟩ := hrel
    go_wp2_with fail
    go_ret
    exact ⟨rfl, Below.refl _ _⟩
set_option maxRecDepth 100000 in
set_option maxHeartbeats 4000000 in
theorem ints_some (b1 b2 : Nat) (c1 c2 : Nat) (l : List Int) (hl : l.length ≤ 1000) (w : World) (h1 : ∀ i (h : i < l.length), w.cell? ⟨b1, i, none⟩ = some (.int .i64 (l[i]'h))) (h2 : ∀ i (h : i < l.length), w.cell? ⟨b2, i, none⟩ = some (.int .i64 (l[i]'h))) :
    Calls Tryd.prog 15 #[.slice (some ⟨b1, 0, none⟩) l.length c1, .slice (some ⟨b2, 0, none⟩) l.length c2] w fun e w' => e = .returned (.bool true) ∧ Below w.heap.size w w' := by
  have H1 := Lib.hid h1
  have H2 := Lib.hid h2
  clear h1 h2
  go_enter Tryd.func15, Tryd.ntmps15
  go_wp2_with fail
  go_loopw [5] (fun iv wr => ∃ j : Nat, iv = .int .i64 j ∧ j ≤ l.length ∧ Below w.heap.size w wr) (fun iv wr => l.length - ivN iv)
  case atStart => exact ⟨0, rfl, Nat.zero_le _, Below.refl _ _⟩
  case round =>
    obtain ⟨j, rfl, hj, hbl⟩ := hrel
    have HBL := Lib.hid hbl
    by_cases h : j < l.length
    · have k1 : wr.cell? ⟨b1, j, none⟩ = some (.int .i64 (l[j]'h)) := (hbl.cell (cell_lt (H1.out j h))).trans (H1.out j h)
      have k2 : wr.cell? ⟨b2, j, none⟩ = some (.int .i64 (l[j]'h)) := (hbl.cell (cell_lt (H2.out j h))).trans (H2.out j h)
      clear hbl
      generalize l[j]'h = z at *
      go_wp2_with fail
      go_quiet (fail)
      go_wp2_with fail
      go_roundw
      case rel => exact ⟨j + 1, rfl, by omega, ext_drewN HBL.out _⟩
      case measure => rw [ivN_int, show ((j : Int) + 1) = ((j + 1 : Nat) : Int) from rfl, ivN_int]; omega
    · obtain rfl : j = l.length := by omega
      clear hbl
      go_wp2_with fail
      go_ret
      exact ⟨rfl, HBL.out⟩
theorem ints_any (v1 v2 : Value) (l : List Int) (hl : l.length ≤ 1000) (w : World) (h1 : IntsAt w v1 l) (h2 : IntsAt w v2 l) : Calls Tryd.prog 15 #[v1, v2] w fun e w' => e = .returned (.bool true) ∧ Below w.heap.size w w' := by
  by_cases h0 : l = []
  · subst h0; exact ints_none v1 v2 w h1 h2
  · rcases h1 with ⟨_, h⟩ | ⟨b1, c1, rfl, _, h1⟩
    · exact absurd h h0
    rcases h2 with ⟨_, h⟩ | ⟨b2, c2, rfl, _, h2⟩
    · exact absurd h h0
    exact ints_some b1 b2 c1 c2 l hl w h1 h2
end Go.Proofs.YtdfiaefdbalcoaaDoor
