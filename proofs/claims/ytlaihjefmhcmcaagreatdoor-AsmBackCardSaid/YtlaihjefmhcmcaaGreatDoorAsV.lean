/- Codes compared. -/
import Derived.Test.YtlaihjefmhcmcaaGreatDoorRows
import Derived.WalkKit
import Derived.ProofKit
import Derived.OpenShut
import Derived.WalkLawsBesides
import Derived.WalkSpells
import Derived.Outline
import Derived.Handy
import Derived.Lib.Hide
import Derived.Lib.OthersKept
import Derived.KernelRfl
import Derived.Carry
import Derived.Test.YtlaihjefmhcmcaaGreatDoorInD
import Derived.Test.YtlaihjefmhcmcaaGreatDoorAsU
namespace Go.Proofs.YtlaihjefmhcmcaaGreatDoor
open Go.ChangeShapes Go.WideShapes Go.ChangeAt Go.RowKit
set_option linter.unusedVariables false
/-- A value is code: its arrays' row, its lines' row. -/
def CdAt (w : World) (v : Value) (c : Cd) : Prop := ∃ va vl, v = .agg #[va, vl] ∧ ArsAt w va c.arrays ∧ LnsAt w vl c.lines ∧ c.arrays.length ≤ 140737488355328 ∧ c.lines.length ≤ 140737488355328
theorem CdAt.ext {w w' : World} {v : Value} {c : Cd} (h : CdAt w v c) (g : Below w.heap.size w w') : CdAt w' v c := by
  obtain ⟨va, vl, e, h1, h2, h3, h4⟩ := h
  exact ⟨va, vl, e, h1.ext g, h2.ext g, h3, h4⟩
theorem two_cells {w : World} {b : Nat} {v0 v1 : Value} {t : TypeId} (h : w.heap[b]? = some (.cells #[v0, v1] t (0, 0))) : w.cell? ⟨b, 0, none⟩ = some v0 ∧ w.cell? ⟨b, 1, none⟩ = some v1 := by
  simp [World.cell?, h]
theorem cd_eq (c d : Cd) : decide (c = d) = (decide (c.arrays = d.arrays) && decide (c.lines = d.lines)) := by
  obtain ⟨a, b⟩ := c
  obtain ⟨a', b'⟩ := d
  rw [← Bool.decide_and]
  simp only [Cd.mk.injEq, and_comm]
set_option maxRecDepth 100000 in
theorem same_any (v1 v2 : Value) (c d : Cd) (w : World) (h1 : CdAt w v1 c) (h2 : CdAt w v2 d) : Calls Tryz.prog 9 #[v1, v2] w fun e w' => e = .returned (.bool (decide (c = d))) ∧ Below w.heap.size w w' := by
  obtain ⟨a1, l1, rfl, ha1, hl1, ba1, bl1⟩ := h1
  obtain ⟨a2, l2, rfl, ha2, hl2, ba2, bl2⟩ := h2
  have HA := Lib.hid (fun w' (g : Below w.heap.size w w') => eq_arrs_any a1 a2 c.arrays d.arrays w' (ha1.ext g) (ha2.ext g) ba1 ba2)
  have HL := Lib.hid (fun w' (g : Below w.heap.size w w') => eq_lines_any l1 l2 c.lines d.lines w' (hl1.ext g) (hl2.ext g) bl1 bl2)
  have HC := Lib.hid (cd_eq c d)
  clear ha1 ha2 hl1 hl2 ba1 ba2 bl1 bl2
  generalize decide (c.lines = d.lines) = bl at *
  cases hb : decide (c.arrays = d.arrays)
  all_goals
    rw [hb] at HA HC
    clear hb
    go_enter Tryz.func9, Tryz.ntmps9
    go_wp2_with fail
    refine (HA.out _ (ext_alloc (ext_alloc (Below.refl _ _) _) _)).mono ?_; rintro e w1 ⟨rfl, g1⟩
    have x1 := (g1.block w.heap.size (by simp; omega)).trans ((Lib.alloc_old _ _ _ (by simp)).trans (heap_new w (.cells #[a1, l1] 27)))
    have x2 := (g1.block (w.heap.size + 1) (by simp)).trans (heap_new' (w.alloc (.cells #[a1, l1] 27)) (.cells #[a2, l2] 27) _ (by simp))
    obtain ⟨c0, c1⟩ := two_cells x1
    obtain ⟨d0, d1⟩ := two_cells x2
    have G1 := Lib.hid (ext_trans (ext_alloc (ext_alloc (Below.refl w.heap.size w) (.cells #[a1, l1] 27)) (.cells #[a2, l2] 27)) g1)
    clear x1 x2 g1
    go_wp2_with fail
  · go_ret
    exact ⟨by rw [HC.out]; rfl, G1.out⟩
  · refine (HL.out _ G1.out).mono ?_; rintro e w2 ⟨rfl, g2⟩
    go_wp2_with fail
    go_ret
    exact ⟨by rw [HC.out, Bool.true_and]; rfl, ext_trans G1.out g2⟩
end Go.Proofs.YtlaihjefmhcmcaaGreatDoor
