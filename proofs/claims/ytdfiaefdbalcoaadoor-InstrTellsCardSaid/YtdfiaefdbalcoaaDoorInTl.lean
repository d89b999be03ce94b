/- The document's own answer: labels. -/
import Derived.Test.YtdfiaefdbalcoaaDoorRows
import Derived.WalkKit
import Derived.ProofKit
import Derived.OpenShut
import Derived.WalkLawsBesides
import Derived.WalkSpells
import Derived.Outline
import Derived.Handy
import Derived.Lib.Hide
import Derived.Lib.OthersKept
import Derived.KernelRfl
import Derived.Test.YtdfiaefdbalcoaaDoorInTp
import Derived.Test.YtdfiaefdbalcoaaDoorInD
namespace Go.Proofs.YtdfiaefdbalcoaaDoor
open Go.ChangeShapes Go.WideShapes Go.ChangeAt Go.RowKit
set_option linter.unusedVariables false
theorem all_drop (p : UInt8 → Bool) (l : List UInt8) (j : Nat) (h : j < l.length) : (l.drop j).all p = (p (l[j]'h) && (l.drop (j + 1)).all p) := by
  rw [List.drop_eq_getElem_cons h]; rfl
theorem inLab_cases (c : UInt8) : (inLabB c = false ∧ ((c.toNat : Int) < 46 ∨ (c.toNat : Int) = 47 ∨ (57 < (c.toNat : Int) ∧ (c.toNat : Int) < 65) ∨ (90 < (c.toNat : Int) ∧ (c.toNat : Int) < 95) ∨ (c.toNat : Int) = 96 ∨ 122 < (c.toNat : Int))) ∨
    (inLabB c = true ∧ ((c.toNat : Int) = 46 ∨ (48 ≤ (c.toNat : Int) ∧ (c.toNat : Int) ≤ 57) ∨ (65 ≤ (c.toNat : Int) ∧ (c.toNat : Int) ≤ 90) ∨ (c.toNat : Int) = 95 ∨ (97 ≤ (c.toNat : Int) ∧ (c.toNat : Int) ≤ 122))) := by
  unfold inLabB
  simp only [decide_eq_true_iff, decide_eq_false_iff_not]
  omega
set_option maxRecDepth 100000 in
set_option maxHeartbeats 8000000 in
theorem rlabel_any (l : List UInt8) (w : World) (hl : l.length ≤ 140737488355328) : Calls Tryd.prog 24 #[.string (mk l)] w fun e w' => e = .returned (.bool (labelB l)) ∧ w = w' := by
  have hsz : (mk l).size = l.length := rfl
  by_cases h1 : 1 ≤ l.length
  case neg =>
    have HR : Hid (labelB l = false) := Lib.hid (by unfold labelB; rw [decide_eq_false (fun h => h1 h.1)]; simp)
    obtain rfl : l = [] := List.length_eq_zero_iff.1 (by omega)
    go_enter Tryd.func24, Tryd.ntmps24
    go_wp2_with fail
    go_ret
    exact ⟨by rw [HR.out]; rfl, rfl⟩
  by_cases h2 : l.length ≤ 40
  case neg =>
    have HR : Hid (labelB l = false) := Lib.hid (by unfold labelB; rw [decide_eq_false (fun h => h2 h.2)]; simp)
    have h3 : 40 < (l.length : Int) := by omega
    have h4 : 1 ≤ (l.length : Int) := by omega
    go_enter Tryd.func24, Tryd.ntmps24
    go_wp2_with fail
    go_ret
    exact ⟨by rw [HR.out]; rfl, rfl⟩
  have hp0 : 0 < (mk l).size := by rw [hsz]; omega
  have hg : ((mk l)[0]'hp0).toNat = (l.getD 0 0).toNat := by
    cases l with
    | nil => simp at h1
    | cons x r => rfl
  have hLB : Hid (labelB l = (!digitB (l.getD 0 0) && l.all inLabB)) := Lib.hid (by unfold labelB; rw [decide_eq_true ⟨h1, h2⟩]; simp)
  have hdc : (digitB (l.getD 0 0) = true ∧ 48 ≤ ((l.getD 0 0).toNat : Int) ∧ ((l.getD 0 0).toNat : Int) ≤ 57) ∨ (digitB (l.getD 0 0) = false ∧ (((l.getD 0 0).toNat : Int) < 48 ∨ 57 < ((l.getD 0 0).toNat : Int))) := by
    unfold digitB; simp only [decide_eq_true_iff, decide_eq_false_iff_not]; omega
  rw [← hg] at hdc
  generalize l.getD 0 0 = c0 at *
  clear hg
  have h1' : 1 ≤ (l.length : Int) := by omega
  have h2' : (l.length : Int) ≤ 40 := by omega
  rcases hdc with ⟨hd, k1, k2⟩ | ⟨hd, hk⟩
  · have HR : Hid (labelB l = false) := Lib.hid (by rw [hLB.out, hd]; rfl)
    clear hd
    go_enter Tryd.func24, Tryd.ntmps24
    go_wp2_with fail
    go_ret
    exact ⟨by rw [HR.out]; rfl, rfl⟩
  · have HR : Hid (labelB l = l.all inLabB) := Lib.hid (by rw [hLB.out, hd]; rfl)
    clear hd hLB
    rcases hk with hk | hk
    all_goals
      go_enter Tryd.func24, Tryd.ntmps24
      go_wp2_with fail
      go_loopw [3] (fun i wr => ∃ j : Nat, i = .int .i64 j ∧ j ≤ l.length ∧ l.all inLabB = (l.drop j).all inLabB ∧ w = wr) (fun i wr => l.length - (match i with | .int _ x => x.toNat | _ => 0))
      case atStart => exact ⟨0, rfl, Nat.zero_le _, by rw [List.drop_zero], rfl⟩
      case round =>
        obtain ⟨j, rfl, hj, hs, rfl⟩ := hrel
        have HS := Lib.hid hs; clear hs hk
        by_cases h : j < l.length
        · have h' : j < (mk l).size := h
          have hgj : ((mk l)[j]'h').toNat = (l[j]'h).toNat := rfl
          have hst := Lib.hid (all_drop inLabB l j h)
          have hcs := inLab_cases (l[j]'h)
          rw [← hgj] at hcs
          generalize l[j]'h = c at *
          clear hgj
          rcases hcs with ⟨hc, hk⟩ | ⟨hc, hk⟩
          · have HF : Hid (labelB l = false) := Lib.hid (by rw [HR.out, HS.out, hst.out, hc]; rfl)
            clear hc
            rcases hk with hk | hk | ⟨hk, hk'⟩ | ⟨hk, hk'⟩ | hk | hk
            all_goals
              go_wp2_with fail
              all_goals first
                | (go_ret; exact ⟨by rw [HF.out]; rfl, rfl⟩)
                | (rename_i hx; exfalso; simp only [Bool.not_eq_false', beq_iff_eq, decide_eq_true_iff] at hx; omega)
          · have HT : Hid (l.all inLabB = (l.drop (j + 1)).all inLabB) := Lib.hid (by rw [HS.out, hst.out, hc]; rfl)
            clear hc
            rcases hk with hk | ⟨hk, hk'⟩ | ⟨hk, hk'⟩ | hk | ⟨hk, hk'⟩
            all_goals
              go_wp2_with fail
              all_goals first
                | (go_roundw
                   case rel => exact ⟨j + 1, rfl, by omega, HT.out, trivial⟩
                   case measure => simp; omega)
                | (rename_i hx; exfalso; simp only [Bool.not_eq_false', beq_iff_eq, decide_eq_true_iff] at hx; omega)
        · obtain rfl : j = l.length := by omega
          have HT : Hid (labelB l = true) := Lib.hid (by rw [HR.out, HS.out, List.drop_length]; rfl)
          go_wp2_with fail
          go_ret
          exact ⟨by rw [HT.out]; rfl, rfl⟩
end Go.Proofs.YtdfiaefdbalcoaaDoor
