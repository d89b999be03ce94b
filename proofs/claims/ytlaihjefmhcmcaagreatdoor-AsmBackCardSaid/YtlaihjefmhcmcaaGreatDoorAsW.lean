/- asm.labelLines: the first line of each label. -/
import Derived.Test.YtlaihjefmhcmcaaGreatDoorRows
import Derived.WalkKit
import Derived.ProofKit
import Derived.OpenShut
import Derived.WalkLawsBesides
import Derived.WalkSpells
import Derived.Outline
import Derived.Handy
import Derived.Lib.Hide
import Derived.Lib.OthersKept
import Derived.KernelRfl
import Derived.Carry
import Derived.Test.YtlaihjefmhcmcaaGreatDoorAs1
import Derived.Test.YtlaihjefmhcmcaaGreatDoorAsV
namespace Go.Proofs.YtlaihjefmhcmcaaGreatDoor
open Go.ChangeShapes Go.WideShapes Go.ChangeAt Go.RowKit
set_option linter.unusedVariables false
theorem ln_at {w : World} {a : Addr} {l : Ln} (h : LnAt w a l) : w.cell? a = some (.string (mk l.label)) ∧ w.cell? ⟨a.block, a.off + 1, none⟩ = some (.int .i64 l.ins.op) ∧ w.cell? ⟨a.block, a.off + 2, none⟩ = some (.int .i64 l.ins.d) ∧ w.cell? ⟨a.block, a.off + 3, none⟩ = some (.int .i64 l.ins.a) ∧ w.cell? ⟨a.block, a.off + 4, none⟩ = some (.int .i64 l.ins.b) ∧ w.cell? ⟨a.block, a.off + 5, none⟩ = some (.int .i64 l.ins.n) ∧ w.cell? ⟨a.block, a.off + 6, none⟩ = some (.string (mk l.ins.name)) := h
def LabRes (B : Nat) (L : List Ln) (e : Ending) (w : World) : Prop := ∃ b, e = .returned (.map (some b)) ∧ IMap w b L.length (fun n => firstLab n L 0) ∧ B ≤ b
def LabFit (L : List Ln) : Prop := ∀ l ∈ L, l.label.length ≤ 140737488355328 ∧ l.ins.name.length ≤ 140737488355328
set_option maxRecDepth 100000 in
theorem labels_any (v : Value) (c : Cd) (w : World) (h : CdAt w v c) (hf : LabFit c.lines) : Calls Tryz.prog 46 #[v] w fun e w' => LabRes w.heap.size c.lines e w' ∧ Below w.heap.size w w' := by
  obtain ⟨va, vl, rfl, ha, ⟨hn, p, cap, rfl, hc⟩, _, hlen⟩ := h
  have HC := Lib.hid hc
  have HF := Lib.hid hf
  have hmm := @run_makeMap Tryz.prog
  clear ha hc hf
  generalize c.lines = L at *
  go_enter Tryz.func46, Tryz.ntmps46
  go_wp2_with fail
  go_loopw [12] (fun iv wr => ∃ j : Nat, iv = .int .i64 j ∧ j ≤ L.length ∧ Below w.heap.size w wr ∧ IMap wr (w.heap.size + 1) j (labF L j)) (fun iv wr => L.length - slotN iv)
  case atStart =>
    refine ⟨0, rfl, Nat.zero_le _, ext_alloc (ext_alloc (Below.refl _ _) _) _, ?_⟩
    have := (imap_made (w.alloc (.cells #[va, .slice p L.length cap] 27))).to (labF_zero L)
    simpa using this
  case round =>
    obtain ⟨j, rfl, hj, hbl, hm⟩ := hrel
    by_cases h : j < L.length
    · obtain ⟨a, rfl, k⟩ := HC.out j h
      obtain ⟨k0, k1, k2, k3, k4, k5, k6⟩ := ln_at (k.ext hbl)
      have HM := Lib.hid hm
      have HB := Lib.hid hbl
      have hs2 : w.heap.size + 1 < wr.heap.size := hm.lt
      have hlb : (L[j]'h).label.length ≤ maxLen := by have := (HF.out _ (List.getElem_mem h)).1; unfold maxLen; omega
      have HS := Lib.hid (labF_skip L j h)
      have HH := Lib.hid (labF_had L j h)
      have HP := Lib.hid (labF_put L j h)
      clear k hm hbl
      generalize L[j]'h = l at *
      obtain ⟨lab, ⟨lo, ld, la, lb, ln, lm⟩⟩ := l
      simp only at k0 k1 k2 k3 k4 k5 k6 hlb HS HH HP
      have tl : (mk lab).toList = lab := mk_tl _
      have HMA : ∀ o, Hid (IMap (wr.alloc o) (w.heap.size + 1) j (labF L j)) := fun o => Lib.hid (HM.out.ext (ext_alloc (Below.refl _ _) _))
      by_cases h0 : lab = []
      · subst h0
        go_wp2_with (at_lookup; refine wp_look_ok (w.heap.size + 1) j (labF L j) (HMA _).out [] hlb rfl _ _ rfl rfl rfl ?_)
        all_goals
          go_roundw
          case rel => exact ⟨j + 1, by go_num, by omega, ext_alloc HB.out _, ((HMA _).out.mono (Nat.le_succ j)).to (HS.out rfl)⟩
          case measure => simp [slotN]; omega
      · have hie : lab.isEmpty = false := by cases lab <;> simp_all
        cases hf : labF L j lab with
        | some v =>
          have HH2 := Lib.hid (HH.out (by rw [hf]; rfl))
          have e1 : (labF L j lab).getD 0 = v := by rw [hf]; rfl
          have e2 : (labF L j lab).isSome = true := by rw [hf]; rfl
          clear hf h0
          go_wp2_with (at_lookup; refine wp_look_ok (w.heap.size + 1) j (labF L j) (HMA _).out lab hlb rfl _ _ rfl rfl rfl ?_)
          go_roundw
          case rel => exact ⟨j + 1, by go_num, by omega, ext_alloc HB.out _, ((HMA _).out.mono (Nat.le_succ j)).to HH2.out⟩
          case measure => simp [slotN]; omega
        | none =>
          have e1 : (labF L j lab).getD 0 = 0 := by rw [hf]; rfl
          have e2 : (labF L j lab).isSome = false := by rw [hf]; rfl
          have HP2 := Lib.hid (HP.out h0 e2)
          clear hf h0
          go_wp2_with (first | (at_lookup; refine wp_look_ok (w.heap.size + 1) j (labF L j) (HMA _).out lab hlb rfl _ _ rfl rfl rfl ?_) | (at_mapUpdate; refine wp_put (w.heap.size + 1) j (labF L j) (HMA _).out (by omega) lab hlb (j : Int) (by unfold I64; omega) rfl _ _ _ rfl rfl rfl rfl ?_; intro w1 hown1 hgrow1))
          go_roundw
          case rel => exact ⟨j + 1, by go_num, by omega, (ext_alloc HB.out _).grown hgrow1 (by simp; omega) (fun k hk => by cases hk; omega), hown1.to HP2.out⟩
          case measure => simp [slotN]; omega
    · have HM := Lib.hid (hm.to (labF_all L j (by omega)))
      go_wp2_with fail
      go_ret
      exact ⟨⟨_, rfl, HM.out.mono hj, by omega⟩, hbl⟩
end Go.Proofs.YtlaihjefmhcmcaaGreatDoor
