/- blocks.beginnings. -/
import Derived.Test.YtnfoplefaibmhaaGreatDoorRows
import Derived.WalkKit
import Derived.ProofKit
import Derived.OpenShut
import Derived.WalkLawsBesides
import Derived.WalkSpells
import Derived.Outline
import Derived.Handy
import Derived.Lib.Hide
import Derived.Lib.OthersKept
import Derived.KernelRfl
import Derived.Carry
import Derived.OwnWalk
import Derived.RegionTactic
import Derived.BigRegion
import Derived.BigQuiet
import Derived.Deep.QuietTactic
import Derived.Test.YtnfoplefaibmhaaGreatDoorBkB
namespace Go.Proofs.YtnfoplefaibmhaaGreatDoor
open Go.ChangeShapes Go.WideShapes Go.ChangeAt Go.RowKit
set_option linter.unusedVariables false
set_option maxHeartbeats 1000000 in
set_option maxRecDepth 100000 in
theorem begs_any (v1 v2 : Value) (L : List In) (T : List Int) (w : World) (h1 : InsAt w v1 L) (h2 : NumsAt w v2 T) (hlen : T.length = L.length) (hL : L.length ≤ 40000) (hb : ∀ t ∈ T, -1 ≤ t ∧ t ≤ (L.length : Int)) :
    Calls Tryz.prog 16 #[v1, v2] w fun e w' => (∃ v', e = .returned v' ∧ w'.ownsRow w.heap.size 3 1 v' (begI L T).length ((begI L T).flatMap cellsN)) ∧ Below w.heap.size w w' := by
  have HTU := Lib.hid (fun op w => turns_any op w)
  have HBG := Lib.hid (begs_mem hlen (fun t ht => (hb t ht).2))
  have HBR := Lib.hid (begI_rising L T)
  obtain ⟨hn, p, cap, rfl, hc⟩ := h1
  obtain ⟨hn2, p2, cap2, rfl, hc2⟩ := h2
  have HC := Lib.hid hc
  have HT := Lib.hid hc2
  have HBD := Lib.hid hb
  have hmm := @run_makeMap Tryz.prog
  clear hc hc2 hb
  go_enter Tryz.func16, Tryz.ntmps16
  go_wp2_with fail
  refine (add_any w.heap.size 0 (fun _ => False) 0 _ (nset_made w) (by omega) ⟨by decide, by decide⟩).mono ?_; rintro e w1 ⟨rfl, hm1, hg1⟩
  have G1 := Lib.hid (below_grown (ext_alloc (Below.refl w.heap.size w) _) hg1 (by simp) (fun k hk => by cases hk; exact Nat.le_refl _))
  have HM1 := Lib.hid (hm1.to (fun k => show (False ∨ k = 0) ↔ Bp L T 0 k by rw [Bp_zero]; simp))
  clear hm1 hg1
  go_wp2_with fail
  go_loopw [13] (fun iv wr => ∃ j : Nat, iv = .int .i64 j ∧ j ≤ L.length ∧ Below w.heap.size w wr ∧ NSet wr w.heap.size (2 * j + 1) (Bp L T j)) (fun iv wr => L.length - slotN iv)
  case atStart => exact ⟨0, rfl, Nat.zero_le _, G1.out, HM1.out⟩
  case round =>
    obtain ⟨j, rfl, hj, hbl, hm⟩ := hrel
    have HB := Lib.hid hbl
    have HM := Lib.hid hm
    have hs : w.heap.size < wr.heap.size := hm.lt
    clear HM1
    by_cases h : j < L.length
    · have hjt : j < T.length := by omega
      obtain ⟨a, rfl, k⟩ := HC.out j h
      obtain ⟨a2, rfl, r0⟩ := HT.out j hjt
      obtain ⟨k0, k1, k2, k3, k4, k5⟩ := k.ext hbl
      have r1 := (hbl.cell (at_lt r0)).trans r0
      have l2 := at_lt r1
      have htb := HBD.out _ (List.getElem_mem hjt)
      have HST := Lib.hid (Bp_step (List.getElem?_eq_getElem h) (List.getElem?_eq_getElem hjt))
      clear k hbl hm r0
      generalize T[j]'hjt = t at *
      generalize L[j]'h = x at *
      obtain ⟨op, d, aa, b, nn, name⟩ := x
      simp only at k0 k1 k2 k3 k4 k5 HST
      have HTU2 := Lib.hid (fun w => HTU.out op w)
      have t64 : I64 t := by unfold I64; omega
      have j64 : I64 ((j : Int) + 1) := by unfold I64; omega
      have HAR : ∀ (b : Bool), Hid (turnsB op = b → ∀ k, Bp L T (j + 1) k ↔ Bp L T j k ∨ (0 ≤ t ∧ k = t) ∨ (b = true ∧ k = (j : Int) + 1)) := fun b => Lib.hid (fun e k => by rw [HST.out k, e])
      clear HST
      cases htn : turnsB op
      all_goals
        have HFX := Lib.hid ((HAR _).out htn)
        rw [htn] at HTU2
        clear htn HAR
      · by_cases hz : 0 ≤ t
        · have hzb : decide (0 ≤ t) = true := decide_eq_true hz
          have HZ : Hid ((0 ≤ t) = True) := Lib.hid (eq_true hz)
          go_wp2_with fail
          refine (add_any w.heap.size (2 * j + 1) (Bp L T j) t _ (HM.out.ext (ext_alloc (Below.refl _ _) _)) (by omega) t64).mono ?_; rintro e w2 ⟨rfl, hm2, hg2⟩
          have HX := (hg2.block wr.heap.size (by simp) (fun e => by injection e with e; omega)).trans (heap_new wr _)
          have c0 := (cell_row HX 0).trans rfl
          have HM2 := Lib.hid hm2
          have G2 := Lib.hid (below_grown (ext_alloc HB.out _) hg2 (by simp; omega) (fun k hk => by cases hk; exact Nat.le_refl _))
          have hs2 : wr.heap.size < w2.heap.size := (Array.getElem?_eq_some_iff.1 HX).1
          clear hm2 hg2 HX k0 k1 k2 k3 k4 k5 r1
          go_wp2_with fail
          refine (HTU2.out _).mono ?_; rintro e w3 ⟨rfl, rfl⟩
          go_wp2_with fail
          go_roundw
          case rel => exact ⟨j + 1, by go_num, by omega, G2.out, (HM2.out.mono (by omega)).to (fun k => by rw [HFX.out k]; simp [HZ.out])⟩
          case measure => simp [slotN]; omega
        · have hzb : decide (0 ≤ t) = false := decide_eq_false hz
          have HZ : Hid ((0 ≤ t) = False) := Lib.hid (eq_false hz)
          go_wp2_with fail
          refine (HTU2.out _).mono ?_; rintro e w3 ⟨rfl, rfl⟩
          go_wp2_with fail
          go_roundw
          case rel => exact ⟨j + 1, by go_num, by omega, (ext_alloc HB.out _), ((HM.out.ext (ext_alloc (Below.refl _ _) _)).mono (by omega)).to (fun k => by rw [HFX.out k]; simp [HZ.out])⟩
          case measure => simp [slotN]; omega
      · by_cases hz : 0 ≤ t
        · have hzb : decide (0 ≤ t) = true := decide_eq_true hz
          have HZ : Hid ((0 ≤ t) = True) := Lib.hid (eq_true hz)
          go_wp2_with fail
          refine (add_any w.heap.size (2 * j + 1) (Bp L T j) t _ (HM.out.ext (ext_alloc (Below.refl _ _) _)) (by omega) t64).mono ?_; rintro e w2 ⟨rfl, hm2, hg2⟩
          have HX := (hg2.block wr.heap.size (by simp) (fun e => by injection e with e; omega)).trans (heap_new wr _)
          have c0 := (cell_row HX 0).trans rfl
          have HM2 := Lib.hid hm2
          have G2 := Lib.hid (below_grown (ext_alloc HB.out _) hg2 (by simp; omega) (fun k hk => by cases hk; exact Nat.le_refl _))
          have hs2 : wr.heap.size < w2.heap.size := (Array.getElem?_eq_some_iff.1 HX).1
          clear hm2 hg2 HX k0 k1 k2 k3 k4 k5 r1
          go_wp2_with fail
          refine (HTU2.out _).mono ?_; rintro e w3 ⟨rfl, rfl⟩
          go_wp2_with fail
          refine (add_any w.heap.size (2 * j + 2) _ ((j : Int) + 1) _ HM2.out (by omega) j64).mono ?_; rintro e w4 ⟨rfl, hm4, hg4⟩
          have HM4 := Lib.hid hm4
          have G4 := Lib.hid (below_grown G2.out hg4 (by first | omega | (simp; omega)) (fun k hk => by cases hk; exact Nat.le_refl _))
          clear hm4 hg4
          go_wp2_with fail
          go_roundw
          case rel => exact ⟨j + 1, by go_num, by omega, G4.out, (HM4.out.mono (by omega)).to (fun k => by rw [HFX.out k]; simp [HZ.out, or_assoc])⟩
          case measure => simp [slotN]; omega
        · have hzb : decide (0 ≤ t) = false := decide_eq_false hz
          have HZ : Hid ((0 ≤ t) = False) := Lib.hid (eq_false hz)
          go_wp2_with fail
          refine (HTU2.out _).mono ?_; rintro e w3 ⟨rfl, rfl⟩
          go_wp2_with fail
          refine (add_any w.heap.size (2 * j + 1) _ ((j : Int) + 1) _ (HM.out.ext (ext_alloc (Below.refl _ _) _)) (by omega) j64).mono ?_; rintro e w4 ⟨rfl, hm4, hg4⟩
          have HM4 := Lib.hid hm4
          have G4 := Lib.hid (below_grown (ext_alloc HB.out _) hg4 (by first | omega | (simp; omega)) (fun k hk => by cases hk; exact Nat.le_refl _))
          clear hm4 hg4
          go_wp2_with fail
          go_roundw
          case rel => exact ⟨j + 1, by go_num, by omega, G4.out, (HM4.out.mono (by omega)).to (fun k => by rw [HFX.out k]; simp [HZ.out])⟩
          case measure => simp [slotN]; omega
    · obtain rfl : j = L.length := by omega
      clear hbl hm
      have n64 : I64 (L.length : Int) := by unfold I64; omega
      go_wp2_with (at_delete; refine wpS_del w.heap.size (2 * L.length + 1) (Bp L T L.length) HM.out (L.length : Int) n64 rfl _ _ rfl rfl rfl ?_; intro w2 hm2 hg2)
      have HM2 := Lib.hid hm2
      have G2 := Lib.hid (below_grown HB.out hg2 (by omega) (fun k hk => by cases hk; exact Nat.le_refl _))
      clear hm2 hg2
      go_wp2_with fail
      refine (rising_any w.heap.size (2 * L.length + 1) _ (begI L T) _ HM2.out (by omega) HBR.out (fun k => HBG.out k)).mono ?_; rintro e w3 ⟨v, rfl, hrow, hb3⟩
      have HROW := Lib.hid (own_base hrow (G2.out.size))
      have G3 := Lib.hid (ext_trans G2.out hb3)
      clear hrow hb3
      go_wp2_with fail
      go_ret
      exact ⟨⟨_, rfl, HROW.out⟩, G3.out⟩
end Go.Proofs.YtnfoplefaibmhaaGreatDoor
