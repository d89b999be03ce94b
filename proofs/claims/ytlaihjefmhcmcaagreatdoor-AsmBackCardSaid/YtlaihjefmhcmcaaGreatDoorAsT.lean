/- Rows of lines compared, whatever rows. -/
import Derived.Test.YtlaihjefmhcmcaaGreatDoorRows
import Derived.WalkKit
import Derived.ProofKit
import Derived.OpenShut
import Derived.WalkLawsBesides
import Derived.WalkSpells
import Derived.Outline
import Derived.Handy
import Derived.Lib.Hide
import Derived.Lib.OthersKept
import Derived.KernelRfl
import Derived.Carry
import Derived.Test.YtlaihjefmhcmcaaGreatDoorAsS
namespace Go.Proofs.YtlaihjefmhcmcaaGreatDoor
open Go.ChangeShapes Go.WideShapes Go.ChangeAt Go.RowKit
set_option linter.unusedVariables false
theorem lns_addr {w : World} {v : Value} {L : List Ln} (h : LnsAt w v L) (h0 : 0 < L.length) : ∃ a cap, v = .slice (some a) L.length cap ∧ ∀ i (h : i < L.length), LnAt w (a.add (i * 7)) (L[i]'h) := by
  obtain ⟨_, p, cap, e, h3⟩ := h
  obtain ⟨a, rfl, _⟩ := h3 0 h0
  refine ⟨a, cap, e, fun i hi => ?_⟩
  obtain ⟨a', e', k⟩ := h3 i hi
  have : a = a' := by injection e'
  subst this; exact k
set_option maxRecDepth 100000 in
theorem eq_lines_any (v1 v2 : Value) (L M : List Ln) (w : World) (h1 : LnsAt w v1 L) (h2 : LnsAt w v2 M) (hb : L.length ≤ 140737488355328) (hb2 : M.length ≤ 140737488355328) :
    Calls Tryz.prog 25 #[v1, v2] w fun e w' => e = .returned (.bool (decide (L = M))) ∧ Below w.heap.size w w' := by
  by_cases hl : L.length = M.length
  · by_cases h0 : 0 < L.length
    · obtain ⟨a, c1, rfl, k1⟩ := lns_addr h1 h0
      obtain ⟨b, c2, rfl, k2⟩ := lns_addr h2 (by omega)
      exact eq_lines L M a b c1 c2 w hl hb k1 k2
    · obtain rfl : L = [] := List.length_eq_zero_iff.1 (by omega)
      obtain rfl : M = [] := List.length_eq_zero_iff.1 (by simpa using hl.symm)
      obtain ⟨_, p1, c1, rfl, _⟩ := h1
      obtain ⟨_, p2, c2, rfl, _⟩ := h2
      clear hl h0 hb hb2
      go_enter Tryz.func25, Tryz.ntmps25
      go_wp2_with fail
      go_loopw [13] (fun iv wr => iv = .int .i64 0 ∧ w = wr) (fun iv wr => 0)
      case atStart => exact ⟨rfl, rfl⟩
      case round =>
        obtain ⟨rfl, rfl⟩ := hrel
        go_wp2_with fail
        go_ret
        exact ⟨rfl, Below.refl _ _⟩
  · have HF : Hid (decide (L = M) = false) := Lib.hid (decide_eq_false (fun h => hl (by rw [h])))
    obtain ⟨_, p1, c1, rfl, _⟩ := h1
    obtain ⟨_, p2, c2, rfl, _⟩ := h2
    have b1 : ((L.length : Int) == (M.length : Int)) = false := beq_eq_false_iff_ne.2 (by omega)
    have b2 : ((L.length : Int) != (M.length : Int)) = true := bne_iff_ne.2 (by omega)
    have b3 : (L.length == M.length) = false := beq_eq_false_iff_ne.2 hl
    clear hl
    go_enter Tryz.func25, Tryz.ntmps25
    go_wp2_with fail
    all_goals first
      | (go_ret; exact ⟨by rw [HF.out]; rfl, Below.refl _ _⟩)
      | (exfalso; simp_all; done)
end Go.Proofs.YtlaihjefmhcmcaaGreatDoor
