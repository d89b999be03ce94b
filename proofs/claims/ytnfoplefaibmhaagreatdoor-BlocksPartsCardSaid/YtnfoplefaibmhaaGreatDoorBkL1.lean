/- BlocksParts, walked. -/
import Derived.Test.YtnfoplefaibmhaaGreatDoorRows
import Derived.WalkKit
import Derived.ProofKit
import Derived.OpenShut
import Derived.WalkLawsBesides
import Derived.WalkSpells
import Derived.Outline
import Derived.Handy
import Derived.Lib.Hide
import Derived.Lib.OthersKept
import Derived.KernelRfl
import Derived.Carry
import Derived.OwnWalk
import Derived.RegionTactic
import Derived.BigRegion
import Derived.BigQuiet
import Derived.Deep.QuietTactic
import Derived.Test.YtnfoplefaibmhaaGreatDoorBkX
import Derived.Test.YtnfoplefaibmhaaGreatDoorBkR
import Derived.Test.YtnfoplefaibmhaaGreatDoorAsB
namespace Go.Proofs.YtnfoplefaibmhaaGreatDoor
open Go.ChangeShapes Go.WideShapes Go.ChangeAt Go.RowKit
set_option linter.unusedVariables false
set_option maxHeartbeats 4000000 in
set_option maxRecDepth 100000 in
theorem parts_any (rv : Value) (raw : List Ln) (w : World) (h : LnsAt w rv raw) (hr : AllRaw raw) (hv : Env w) : Calls Tryz.prog 3 #[rv] w fun e w' => e = .returned (.bool true) ∧ Below w.heap.size w w' := by
  have HRW := Lib.hid h
  have HAW := Lib.hid (awake19_any w hv)
  have HFI := Lib.hid (fun w' (g : Below w.heap.size w w') => lawfit_any rv raw w' (h.ext g) hr)
  have hml := fitC_len raw hr
  have HC : Hid (∀ (w' : World) (B : Nat) (pa pl : Option Addr) (ca cl : Nat), w'.ownsRow B 45 2 (.slice pa 2 ca) 2 (arrsAB.flatMap cellsA) → w'.ownsRow B 48 7 (.slice pl (fitC raw).lines.length cl) (fitC raw).lines.length ((fitC raw).lines.flatMap cellsL) → CdAt w' (.agg #[.slice pa 2 ca, .slice pl (fitC raw).lines.length cl]) (fitC raw)) := Lib.hid (fun w' B pa pl ca cl h1 h2 => fit_code hr h1 h2)
  have HOK : Hid ((faultL (fitC raw)).1 = 0) := Lib.hid (by rw [fitC_ok raw hr])
  have HFT := Lib.hid (fitC_fit raw hr)
  have HG := Lib.hid (code_goes HOK.out)
  obtain ⟨hn, p, cap, rfl, _⟩ := h
  clear hr hv
  generalize fitC raw = c at *
  have hfl : (flatI c.lines).length ≤ 41 := by
    have : (flatI c.lines).length ≤ c.lines.length := by unfold flatI; rw [List.length_map]; exact List.length_filter_le _ _
    omega
  go_enter Tryz.func3, Tryz.ntmps3
  go_wp2_with fail
  refine HAW.out.mono ?_; rintro e w1 ⟨rfl, g1⟩
  have G1 := Lib.hid g1
  clear g1
  go_wp2_with fail
  refine (HFI.out _ G1.out).mono ?_; rintro e w2 ⟨hres, g2⟩
  obtain ⟨pa, ca, pl, cl, rfl, ha, hl⟩ := hres.shape
  have HA := Lib.hid ha
  have HL := Lib.hid hl
  have G2 := Lib.hid (ext_trans G1.out g2)
  clear hres g2 ha hl
  go_wp2_with fail
  have HCD := Lib.hid (HC.out _ _ _ _ _ _ (own_ext HA.out (ext_alloc (Below.refl _ _) (.cells #[.slice pa 2 ca, .slice pl c.lines.length cl] 26))) (own_ext HL.out (ext_alloc (Below.refl _ _) (.cells #[.slice pa 2 ca, .slice pl c.lines.length cl] 26))))
  refine (flat_yes _ c _ HCD.out HFT.out HOK.out).mono ?_; rintro e w3 ⟨hres, g3⟩
  obtain ⟨p1, c1, p2, c2, rfl, h1, h2⟩ := hres.shape
  have H1 := Lib.hid h1
  have H2 := Lib.hid h2
  have HBK := Lib.hid ((g3.block w2.heap.size (by simp)).trans (heap_new w2 _))
  have HFO := Lib.hid (flat_ok (HCD.out.ext g3) HFT.out HOK.out (by omega))
  have G3 := Lib.hid (ext_trans (ext_alloc G2.out _) g3)
  have l3 : w2.heap.size < w3.heap.size := (Array.getElem?_eq_some_iff.1 HBK.out).1
  obtain ⟨c0, c1'⟩ := two_cells HBK.out
  clear hres h1 h2 g3 HCD HL HA HFT HOK HC
  generalize (flatI c.lines).map (toL c) = T at *
  generalize flatI c.lines = L at *
  go_wp2_with fail
  refine (Split_any pa pl 2 ca c.lines.length cl L T _ HFO.out (by omega) HG.out).mono ?_; rintro e w4 ⟨⟨vs, rfl, hrow⟩, g4⟩
  obtain ⟨ps, cs, rfl, hsp⟩ := row_split hrow
  have HSP0 := Lib.hid hsp
  have hnb := nB_le L T
  generalize hnn : nB L T = m at *
  have HM := Lib.hid hnn
  clear hnn hrow hsp
  have HBK := Lib.hid ((g4.block w2.heap.size l3).trans HBK.out)
  have HFO := Lib.hid (FlatOk.ext HFO.out g4)
  have H1 := Lib.hid (own_ext H1.out g4)
  have H2 := Lib.hid (own_ext H2.out g4)
  have G4 := Lib.hid (ext_trans G3.out g4)
  have l4 : w2.heap.size < w4.heap.size := (Array.getElem?_eq_some_iff.1 HBK.out).1
  clear c0 c1'
  obtain ⟨c0, c1'⟩ := two_cells HBK.out
  clear g4
  go_wp2_with fail
  go_loopw [8, 9] (fun av iv wr => ∃ i x : Nat, iv = .int .i64 i ∧ i ≤ m ∧ av = .int .i64 x ∧ x = eN L T i ∧ Below w4.heap.size w4 wr) (fun _ iv wr => m - slotN iv)
  case atStart => exact ⟨0, 0, rfl, Nat.zero_le _, rfl, (eN_zero L T).symm, Below.refl _ _⟩
  case round =>
    obtain ⟨i, x, rfl, hi, rfl, hx, hb⟩ := hrel
    have HB := Lib.hid hb
    by_cases h : i < m
    · obtain ⟨g, rfl, k0, k1⟩ := HSP0.out i h
      have k0 := (hb.cell (at_lt k0)).trans k0
      have k1 := (hb.cell (at_lt k1)).trans k1
      have lg := at_lt k0
      rw [← hx] at k0
      have hin : i < nB L T := by have := HM.out; omega
      have hxy := eN_lt' (L := L) (T := T) (show i < i + 1 by omega) (by omega)
      have hyl := eN_le (L := L) (T := T) (show i + 1 ≤ nB L T by omega)
      have HNT : Hid (∀ (k : Nat) (z : In), x ≤ k → k + 1 < eN L T (i + 1) → L[k]? = some z → turnsB z.op = false) := Lib.hid (fun k z q1 q2 q3 => no_turn hin (by omega) q2 q3)
      have HNI : Hid (∀ t ∈ T, ¬ ((x : Int) < t ∧ t < (eN L T (i + 1) : Int))) := Lib.hid (fun t ht => by rw [hx]; exact no_into hin ht)
      rw [← hx] at hxy
      have HY := Lib.hid (show eN L T (i + 1) = eN L T (i + 1) from rfl)
      clear hb hin
      generalize hye : eN L T (i + 1) = y at *
      have HYE := Lib.hid hye
      clear hye hx HY
      have b1 : ((x : Int) != (x : Int)) = false := by simp
      have b2 : decide ((y : Int) ≤ (x : Int)) = false := decide_eq_false (by omega)
      have b3 : decide ((L.length : Int) < (y : Int)) = false := decide_eq_false (by omega)
      go_wp2_with fail
      obtain ⟨wo, rfl⟩ : ∃ wo : World, wo = wr := ⟨_, rfl⟩
      go_loopw [10] (fun kv wr => ∃ k : Nat, kv = .int .i64 k ∧ x ≤ k ∧ k + 1 ≤ y ∧ Below wo.heap.size wo wr) (fun kv wr => y - slotN kv)
      case atStart => exact ⟨x, rfl, Nat.le_refl _, hxy, Below.refl _ _⟩
      case round =>
        obtain ⟨k, rfl, hk1, hk2, hbk⟩ := hrel
        have HBK2 := Lib.hid hbk
        by_cases hk : k + 1 < y
        · have d1 : decide ((k : Int) < (y : Int) - 1) = true := decide_eq_true (by omega)
          have hkL : k < L.length := by omega
          obtain ⟨z, hz⟩ : ∃ z, L[k]'hkL = z := ⟨_, rfl⟩
          have hnt := HNT.out k z hk1 hk (by rw [List.getElem?_eq_getElem hkL, hz])
          obtain ⟨g1, rfl, lg1, q0, _⟩ := row_in (own_ext H1.out (ext_trans HB.out hbk)) hkL hz
          have hop : ¬ (21 ≤ z.op ∧ z.op ≤ 27) := fun q => by rw [(turnsB_iff _).2 q] at hnt; cases hnt
          clear hnt hz hbk
          generalize z.op = op at *
          by_cases h21 : 21 ≤ op
          · have e1 : decide (21 ≤ op) = true := decide_eq_true h21
            have e2 : decide (op ≤ 27) = false := decide_eq_false (by omega)
            clear hop h21
            go_wp2_with fail
            go_roundw
            case rel => exact ⟨k + 1, by go_num, by omega, by omega, HBK2.out⟩
            case measure => simp [slotN]; omega
          · have e1 : decide (21 ≤ op) = false := decide_eq_false h21
            clear hop h21
            go_wp2_with fail
            go_roundw
            case rel => exact ⟨k + 1, by go_num, by omega, by omega, HBK2.out⟩
            case measure => simp [slotN]; omega
        · have d1 : decide ((k : Int) < (y : Int) - 1) = false := decide_eq_false (by omega)
          clear hbk
          go_wp2_with fail
          obtain ⟨wp, rfl⟩ : ∃ wp : World, wp = wr := ⟨_, rfl⟩
          go_loopw [11] (fun tv wr => ∃ r : Nat, tv = .int .i64 r ∧ r ≤ L.length ∧ Below wp.heap.size wp wr) (fun tv wr => L.length - slotN tv)
          case atStart => exact ⟨0, rfl, Nat.zero_le _, Below.refl _ _⟩
          case round =>
            obtain ⟨r, rfl, hr, hbr⟩ := hrel
            have HBR := Lib.hid hbr
            have hall := ext_trans HB.out (ext_trans HBK2.out hbr)
            by_cases hrl : r < L.length
            · have hrT : r < T.length := by have := HG.out.len; omega
              obtain ⟨t, ht⟩ : ∃ t, T[r]'hrT = t := ⟨_, rfl⟩
              have hni := HNI.out t (by rw [← ht]; exact List.getElem_mem hrT)
              obtain ⟨g2, rfl, lg2, q0⟩ := row_num (own_ext H2.out hall) hrT ht
              have k0 := ((ext_trans HBK2.out hbr).cell (at_lt k0)).trans k0
              have lg := at_lt k0
              clear ht hbr hall
              by_cases hxt : (x : Int) < t
              · have e1 : decide ((x : Int) < t) = true := decide_eq_true hxt
                have e2 : decide (t < (y : Int)) = false := decide_eq_false (fun q => hni ⟨hxt, q⟩)
                clear hni hxt
                go_wp2_with fail
                go_quiet (fail)
                go_wp2_with fail
                go_roundw
                case rel => exact ⟨r + 1, by go_num, by omega, ext_drewN HBR.out _⟩
                case measure => simp [slotN]; omega
              · have e1 : decide ((x : Int) < t) = false := decide_eq_false hxt
                clear hni hxt
                go_wp2_with fail
                go_quiet (fail)
                go_wp2_with fail
                go_roundw
                case rel => exact ⟨r + 1, by go_num, by omega, ext_drewN HBR.out _⟩
                case measure => simp [slotN]; omega
            · clear hbr hall
              go_wp2_with fail
              go_roundw
              case rel => exact ⟨i + 1, y, by go_num, by omega, rfl, HYE.out.symm, ext_trans HB.out (ext_trans HBK2.out HBR.out)⟩
              case measure => simp [slotN]; omega
    · obtain rfl : i = m := by omega
      have hxl : x = L.length := by rw [hx, ← HM.out, eN_last]
      clear hx hb
      subst hxl
      go_wp2_with fail
      go_ret
      exact ⟨rfl, ext_trans G4.out HB.out⟩
end Go.Proofs.YtnfoplefaibmhaaGreatDoor
