/- BlocksLandings, walked. -/
import Derived.Test.YtnfoplefaibmhaaGreatDoorRows
import Derived.WalkKit
import Derived.ProofKit
import Derived.OpenShut
import Derived.WalkLawsBesides
import Derived.WalkSpells
import Derived.Outline
import Derived.Handy
import Derived.Lib.Hide
import Derived.Lib.OthersKept
import Derived.KernelRfl
import Derived.Carry
import Derived.OwnWalk
import Derived.RegionTactic
import Derived.BigRegion
import Derived.BigQuiet
import Derived.Deep.QuietTactic
import Derived.Test.YtnfoplefaibmhaaGreatDoorBkX
import Derived.Test.YtnfoplefaibmhaaGreatDoorBkR
import Derived.Test.YtnfoplefaibmhaaGreatDoorAsB
namespace Go.Proofs.YtnfoplefaibmhaaGreatDoor
open Go.ChangeShapes Go.WideShapes Go.ChangeAt Go.RowKit
set_option linter.unusedVariables false
set_option maxHeartbeats 4000000 in
set_option maxRecDepth 100000 in
theorem landlaw_any (rv : Value) (raw : List Ln) (w : World) (h : LnsAt w rv raw) (hr : AllRaw raw) (hv : Env w) : Calls Tryz.prog 5 #[rv] w fun e w' => e = .returned (.bool true) ∧ Below w.heap.size w w' := by
  have HRW := Lib.hid h
  have HAW := Lib.hid (awake19_any w hv)
  have HFI := Lib.hid (fun w' (g : Below w.heap.size w w') => lawfit_any rv raw w' (h.ext g) hr)
  have hml := fitC_len raw hr
  have HC : Hid (∀ (w' : World) (B : Nat) (pa pl : Option Addr) (ca cl : Nat), w'.ownsRow B 45 2 (.slice pa 2 ca) 2 (arrsAB.flatMap cellsA) → w'.ownsRow B 48 7 (.slice pl (fitC raw).lines.length cl) (fitC raw).lines.length ((fitC raw).lines.flatMap cellsL) → CdAt w' (.agg #[.slice pa 2 ca, .slice pl (fitC raw).lines.length cl]) (fitC raw)) := Lib.hid (fun w' B pa pl ca cl h1 h2 => fit_code hr h1 h2)
  have HOK : Hid ((faultL (fitC raw)).1 = 0) := Lib.hid (by rw [fitC_ok raw hr])
  have HFT := Lib.hid (fitC_fit raw hr)
  have HG := Lib.hid (code_goes HOK.out)
  obtain ⟨hn, p, cap, rfl, _⟩ := h
  clear hr hv
  generalize fitC raw = c at *
  have hfl : (flatI c.lines).length ≤ 41 := by
    have : (flatI c.lines).length ≤ c.lines.length := by unfold flatI; rw [List.length_map]; exact List.length_filter_le _ _
    omega
  go_enter Tryz.func5, Tryz.ntmps5
  go_wp2_with fail
  refine HAW.out.mono ?_; rintro e w1 ⟨rfl, g1⟩
  have G1 := Lib.hid g1
  clear g1
  go_wp2_with fail
  refine (HFI.out _ G1.out).mono ?_; rintro e w2 ⟨hres, g2⟩
  obtain ⟨pa, ca, pl, cl, rfl, ha, hl⟩ := hres.shape
  have HA := Lib.hid ha
  have HL := Lib.hid hl
  have G2 := Lib.hid (ext_trans G1.out g2)
  clear hres g2 ha hl
  go_wp2_with fail
  have HCD := Lib.hid (HC.out _ _ _ _ _ _ (own_ext HA.out (ext_alloc (Below.refl _ _) (.cells #[.slice pa 2 ca, .slice pl c.lines.length cl] 26))) (own_ext HL.out (ext_alloc (Below.refl _ _) (.cells #[.slice pa 2 ca, .slice pl c.lines.length cl] 26))))
  refine (flat_yes _ c _ HCD.out HFT.out HOK.out).mono ?_; rintro e w3 ⟨hres, g3⟩
  obtain ⟨p1, c1, p2, c2, rfl, h1, h2⟩ := hres.shape
  have H1 := Lib.hid h1
  have H2 := Lib.hid h2
  have HBK := Lib.hid ((g3.block w2.heap.size (by simp)).trans (heap_new w2 _))
  have HFO := Lib.hid (flat_ok (HCD.out.ext g3) HFT.out HOK.out (by omega))
  have G3 := Lib.hid (ext_trans (ext_alloc G2.out _) g3)
  have l3 : w2.heap.size < w3.heap.size := (Array.getElem?_eq_some_iff.1 HBK.out).1
  obtain ⟨c0, c1'⟩ := two_cells HBK.out
  clear hres h1 h2 g3 HCD HL HA HFT HOK HC
  generalize (flatI c.lines).map (toL c) = T at *
  generalize flatI c.lines = L at *
  go_wp2_with fail
  refine (Landings_any pa pl 2 ca c.lines.length cl L T _ HFO.out (by omega)).mono ?_; rintro e w4 ⟨⟨vl, rfl, hrow⟩, g4⟩
  obtain ⟨pd, cd, rfl, hld⟩ := row_rown hrow
  have HLD0 := Lib.hid hld
  clear hrow hld
  have HBK := Lib.hid ((g4.block w2.heap.size l3).trans HBK.out)
  have HFO := Lib.hid (FlatOk.ext HFO.out g4)
  have H1 := Lib.hid (own_ext H1.out g4)
  have H2 := Lib.hid (own_ext H2.out g4)
  have G4 := Lib.hid (ext_trans G3.out g4)
  have l4 : w2.heap.size < w4.heap.size := (Array.getElem?_eq_some_iff.1 HBK.out).1
  clear c0 c1'
  obtain ⟨c0, c1'⟩ := two_cells HBK.out
  clear g4
  go_wp2_with fail
  refine (Split_any pa pl 2 ca c.lines.length cl L T _ HFO.out (by omega) HG.out).mono ?_; rintro e w5 ⟨⟨vs, rfl, hrow⟩, g5⟩
  obtain ⟨ps, cs, rfl, hsp⟩ := row_split hrow
  have HSP0 := Lib.hid hsp
  have hnb := nB_le L T
  generalize hnn : nB L T = m at *
  have HM := Lib.hid hnn
  clear hnn hrow hsp
  have HBK := Lib.hid ((g5.block w2.heap.size l4).trans HBK.out)
  have HFO := Lib.hid (FlatOk.ext HFO.out g5)
  have H1 := Lib.hid (own_ext H1.out g5)
  have H2 := Lib.hid (own_ext H2.out g5)
  have G5 := Lib.hid (ext_trans G4.out g5)
  have HLD0 : Hid (∀ k (h : k < (landL L).length), ∃ g, pd = some ⟨g, 0, none⟩ ∧ w5.cell? ⟨g, k, none⟩ = some (.int .i64 ((landL L)[k]'h))) := Lib.hid (fun k hk => by
    obtain ⟨g, e, k0⟩ := HLD0.out k hk
    exact ⟨g, e, (g5.cell (at_lt k0)).trans k0⟩)
  have l5 : w2.heap.size < w5.heap.size := (Array.getElem?_eq_some_iff.1 HBK.out).1
  clear c0 c1'
  obtain ⟨c0, c1'⟩ := two_cells HBK.out
  clear g5
  go_wp2_with fail
  refine (Next_any pa pl 2 ca c.lines.length cl L T _ HFO.out (by omega) HG.out).mono ?_; rintro e w6 ⟨⟨vn, rfl, hnx⟩, g6⟩
  rw [HM.out] at hnx
  obtain ⟨pn, cn, rfl, hnx⟩ := hnx
  have HNX0 := Lib.hid hnx
  clear hnx
  have HBK := Lib.hid ((g6.block w2.heap.size l5).trans HBK.out)
  have HFO := Lib.hid (FlatOk.ext HFO.out g6)
  have H1 := Lib.hid (own_ext H1.out g6)
  have H2 := Lib.hid (own_ext H2.out g6)
  have G6 := Lib.hid (ext_trans G5.out g6)
  have HSP0 : Hid (∀ i, i < m → ∃ g, ps = some ⟨g, 0, none⟩ ∧ w6.cell? ⟨g, i * 2, none⟩ = some (.int .i64 (eN L T i : Nat)) ∧ w6.cell? ⟨g, i * 2 + 1, none⟩ = some (.int .i64 (eN L T (i + 1) : Nat))) := Lib.hid (fun i hi => by
    obtain ⟨g, e, k0, k1⟩ := HSP0.out i hi
    exact ⟨g, e, (g6.cell (at_lt k0)).trans k0, (g6.cell (at_lt k1)).trans k1⟩)
  have HLD0 : Hid (∀ k (h : k < (landL L).length), ∃ g, pd = some ⟨g, 0, none⟩ ∧ w6.cell? ⟨g, k, none⟩ = some (.int .i64 ((landL L)[k]'h))) := Lib.hid (fun k hk => by
    obtain ⟨g, e, k0⟩ := HLD0.out k hk
    exact ⟨g, e, (g6.cell (at_lt k0)).trans k0⟩)
  have l6 : w2.heap.size < w6.heap.size := (Array.getElem?_eq_some_iff.1 HBK.out).1
  clear c0 c1'
  obtain ⟨c0, c1'⟩ := two_cells HBK.out
  clear g6
  go_wp2_with fail
  have hll := landL_len L
  go_loopw [10, 11] (fun kv iv wr => ∃ i q : Nat, iv = .int .i64 i ∧ i ≤ L.length ∧ kv = .int .i64 q ∧ q = (landL (L.take i)).length ∧ Below w6.heap.size w6 wr) (fun _ iv wr => L.length - slotN iv)
  case atStart => exact ⟨0, 0, rfl, Nat.zero_le _, rfl, rfl, Below.refl _ _⟩
  case round =>
    obtain ⟨i, q, rfl, hi, rfl, hq, hb⟩ := hrel
    have HB := Lib.hid hb
    by_cases h : i < L.length
    · obtain ⟨x, hx⟩ : ∃ x, L[i]'h = x := ⟨_, rfl⟩
      obtain ⟨g1, rfl, lg1, q0, _⟩ := row_in (own_ext H1.out hb) h hx
      have HST : Hid ((landL (L.take (i + 1))).length = if x.op = 26 then q + 1 else q) := Lib.hid (by
        rw [List.take_succ_eq_append_getElem h, landL_snoc, hx]
        split
        · rw [List.length_append, hq]; rfl
        · rw [hq])
      by_cases h26 : x.op = 26
      · obtain ⟨hl1, hl2⟩ := landL_at h (by rw [hx]; exact h26)
        rw [if_pos h26] at HST
        have hl3 : q < (landL L).length := by rw [hq]; exact hl1
        have hl4 : (landL L)[q]'hl3 = (i : Int) + 1 := by subst hq; exact hl2
        obtain ⟨g2, rfl, k0⟩ := HLD0.out q hl3
        rw [hl4] at k0
        have k0 := (hb.cell (at_lt k0)).trans k0
        have lg2 := at_lt k0
        rw [h26] at q0
        have b0 : decide (((landL L).length : Int) ≤ (q : Int)) = false := decide_eq_false (by omega)
        have b1 : (((i : Int) + 1) != ((i : Int) + 1)) = false := by simp
        have HQ := Lib.hid hq
        clear hb hx hl1 hl2 hl4 h26 hq
        go_wp2_with fail
        go_roundw
        case rel => exact ⟨i + 1, q + 1, by go_num, by omega, by go_num, HST.out.symm, HB.out⟩
        case measure => simp [slotN]; omega
      · rw [if_neg h26] at HST
        have b0 : (x.op != 26) = true := bne_iff_ne.2 h26
        clear hb hx h26 hq
        generalize x.op = op at *
        go_wp2_with fail
        go_roundw
        case rel => exact ⟨i + 1, q, by go_num, by omega, rfl, HST.out.symm, HB.out⟩
        case measure => simp [slotN]; omega
    · have hqn : q = (landL L).length := by rw [hq, List.take_of_length_le (by omega)]
      have HRL : Hid (∀ i, i < m → ∀ x, L[lastN L T i]? = some x → x.op = 27 → (nextI L T i).length = (landL L).length) := Lib.hid (fun i hi x hx h27 => ret_len HG.out (by have := HM.out; omega) hx h27)
      subst hqn
      clear hb hq
      have b1 : (((landL L).length : Int) != ((landL L).length : Int)) = false := by simp
      have b2 : ((m : Int) != (m : Int)) = false := by simp
      go_wp2_with fail
      obtain ⟨wo, rfl⟩ : ∃ wo : World, wo = wr := ⟨_, rfl⟩
      go_loopw [12] (fun jv wr => ∃ j : Nat, jv = .int .i64 j ∧ j ≤ m ∧ Below wo.heap.size wo wr) (fun jv wr => m - slotN jv)
      case atStart => exact ⟨0, rfl, Nat.zero_le _, Below.refl _ _⟩
      case round =>
        obtain ⟨j, rfl, hj, hbj⟩ := hrel
        have HBJ := Lib.hid hbj
        have hall := ext_trans HB.out hbj
        by_cases hjm : j < m
        · obtain ⟨g, rfl, k0, k1⟩ := HSP0.out j hjm
          have hin : j < nB L T := by have := HM.out; omega
          obtain ⟨r1, r2, r3⟩ := last_lt hin
          have k1 : wr.cell? ⟨g, j * 2 + 1, none⟩ = some (.int .i64 ((lastN L T j : Int) + 1)) := by rw [(hall.cell (at_lt k1)).trans k1, ← r2]; simp
          have lg := at_lt k1
          obtain ⟨x, hx⟩ : ∃ x, L[lastN L T j]'r1 = x := ⟨_, rfl⟩
          obtain ⟨g1, rfl, lg1, q0, _⟩ := row_in (own_ext H1.out hall) r1 hx
          obtain ⟨g3, rfl, u, k3, hu⟩ := HNX0.out j hjm
          obtain ⟨qu, du, rfl, _⟩ := hu
          have k3 := (hall.cell (at_lt k3)).trans k3
          have lg3 := at_lt k3
          have hrl := HRL.out j hjm x (by rw [List.getElem?_eq_getElem r1, hx])
          clear hx hbj hall k0 r2 r3 hin
          generalize lastN L T j = last at *
          by_cases h27 : x.op = 27
          · rw [hrl h27] at k3
            rw [h27] at q0
            clear hrl h27
            go_wp2_with fail
            go_roundw
            case rel => exact ⟨j + 1, by go_num, by omega, HBJ.out⟩
            case measure => simp [slotN]; omega
          · have b3 : (x.op == 27) = false := beq_eq_false_iff_ne.2 h27
            clear hrl h27
            generalize x.op = op at *
            go_wp2_with fail
            go_roundw
            case rel => exact ⟨j + 1, by go_num, by omega, HBJ.out⟩
            case measure => simp [slotN]; omega
        · clear hbj hall
          go_wp2_with fail
          go_ret
          exact ⟨rfl, ext_trans G6.out (ext_trans HB.out HBJ.out)⟩
end Go.Proofs.YtnfoplefaibmhaaGreatDoor
