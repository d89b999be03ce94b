/- BlocksLeads, walked. -/
import Derived.Test.YtnfoplefaibmhaaGreatDoorRows
import Derived.WalkKit
import Derived.ProofKit
import Derived.OpenShut
import Derived.WalkLawsBesides
import Derived.WalkSpells
import Derived.Outline
import Derived.Handy
import Derived.Lib.Hide
import Derived.Lib.OthersKept
import Derived.KernelRfl
import Derived.Carry
import Derived.OwnWalk
import Derived.RegionTactic
import Derived.BigRegion
import Derived.BigQuiet
import Derived.Deep.QuietTactic
import Derived.Deep.RegionHeld3
import Derived.Test.YtnfoplefaibmhaaGreatDoorBkX
import Derived.Test.YtnfoplefaibmhaaGreatDoorBkR
import Derived.Test.YtnfoplefaibmhaaGreatDoorAsB
namespace Go.Proofs.YtnfoplefaibmhaaGreatDoor
open Go.ChangeShapes Go.WideShapes Go.ChangeAt Go.RowKit
set_option linter.unusedVariables false
/-! What the law asks of a block and a place. -/
def toB (L : List In) (T : List Int) (i k : Nat) : Bool := (leadsI L T i).contains (eN L T k : Int)
theorem toB_has {L : List In} {T : List Int} {i k : Nat} (hk : k ≤ nB L T) : (nextI L T i).any (fun e => e == (k : Int)) = toB L T i k := by
  rw [Bool.eq_iff_iff, List.any_eq_true]
  unfold toB
  rw [List.contains_iff_mem]
  constructor
  · rintro ⟨e, h1, h2⟩
    obtain ⟨q, hq, rfl, h3⟩ := nextI_mem.1 h1
    obtain rfl : q = k := by have := beq_iff_eq.1 h2; omega
    exact h3
  · intro h
    exact ⟨_, nextI_mem.2 ⟨k, hk, rfl, h⟩, by simp⟩
theorem to_want {L : List In} {T : List Int} (g : Goes L T) {i k : Nat} (hi : i < nB L T) (hk : k ≤ nB L T) {x : In} {t : Int} (hx : L[lastN L T i]? = some x) (ht : T[lastN L T i]? = some t) :
    toB L T i k = if x.op < 25 ∨ x.op = 28 then (((eN L T k : Int) == t) || ((k : Int) == (i : Int) + 1)) else if x.op = 27 then (landL L).any (fun e => e == (eN L T k : Int)) else ((eN L T k : Int) == t) := by
  obtain ⟨x', t', hx', ht', e⟩ := leads_at g hi
  rw [hx] at hx'
  rw [ht] at ht'
  cases hx'
  cases ht'
  have ho := g.op_ _ _ hx
  have hl := (last_lt hi).2.1
  have hk1 : (eN L T k : Int) = (lastN L T i : Int) + 1 ↔ (k : Int) = (i : Int) + 1 := by
    constructor
    · intro h
      have := eN_inj (L := L) (T := T) (i := k) (j := i + 1) hk (by omega) (by omega)
      omega
    · intro h
      obtain rfl : k = i + 1 := by omega
      omega
  unfold toB
  rw [e]
  unfold leadsX
  by_cases h1 : x.op < 25 ∨ x.op = 28
  · rw [if_pos h1]
    by_cases h2 : branB x.op = true
    · rw [if_pos h2, Bool.eq_iff_iff, List.contains_iff_mem, Bool.or_eq_true, beq_iff_eq, beq_iff_eq, ← hk1]
      simp
    · have h3 : ¬ (21 ≤ x.op ∧ x.op ≤ 26) := fun q => h2 ((branB_iff _).2 (by omega))
      have h4 := g.no_ _ _ _ hx ht h3
      rw [if_neg h2, if_neg (by omega), if_neg (by omega), Bool.eq_iff_iff, List.contains_iff_mem, Bool.or_eq_true, beq_iff_eq, beq_iff_eq, ← hk1]
      simp
      omega
  · rw [if_neg h1, if_neg (show ¬ branB x.op = true from fun q => by have := (branB_iff _).1 q; omega)]
    by_cases h2 : x.op = 27
    · rw [if_neg (by omega), if_pos h2, if_pos h2, Bool.eq_iff_iff, List.contains_iff_mem, List.any_eq_true]
      constructor
      · intro h; exact ⟨_, h, by simp⟩
      · rintro ⟨q, h3, h4⟩
        rw [beq_iff_eq] at h4
        rw [← h4]; exact h3
    · rw [if_pos (by omega), if_neg h2, Bool.eq_iff_iff, List.contains_iff_mem, beq_iff_eq]
      simp
theorem ret_to {L : List In} {T : List Int} (g : Goes L T) {j : Nat} {x : In} {t : Int} (hx : L[j]? = some x) (ht : T[j]? = some t) (h : x.op = 27) : t = -1 := g.no_ _ _ _ hx ht (by omega)
theorem anyk_step {l : List Int} {k : Int} {j : Nat} (h : j < l.length) : (l.take (j + 1)).any (fun e => e == k) = ((l.take j).any (fun e => e == k) || (l[j]'h == k)) := by
  rw [List.take_succ_eq_append_getElem h, List.any_append]
  simp
set_option maxHeartbeats 16000000 in
set_option maxRecDepth 100000 in
theorem leadslaw_any (rv : Value) (raw : List Ln) (w : World) (h : LnsAt w rv raw) (hr : AllRaw raw) (hv : Env w) : Calls Tryz.prog 4 #[rv] w fun e w' => e = .returned (.bool true) ∧ Below w.heap.size w w' := by
  have HRW := Lib.hid h
  have HAW := Lib.hid (awake19_any w hv)
  have HFI := Lib.hid (fun w' (g : Below w.heap.size w w') => lawfit_any rv raw w' (h.ext g) hr)
  have hml := fitC_len raw hr
  have HC : Hid (∀ (w' : World) (B : Nat) (pa pl : Option Addr) (ca cl : Nat), w'.ownsRow B 45 2 (.slice pa 2 ca) 2 (arrsAB.flatMap cellsA) → w'.ownsRow B 48 7 (.slice pl (fitC raw).lines.length cl) (fitC raw).lines.length ((fitC raw).lines.flatMap cellsL) → CdAt w' (.agg #[.slice pa 2 ca, .slice pl (fitC raw).lines.length cl]) (fitC raw)) := Lib.hid (fun w' B pa pl ca cl h1 h2 => fit_code hr h1 h2)
  have HOK : Hid ((faultL (fitC raw)).1 = 0) := Lib.hid (by rw [fitC_ok raw hr])
  have HFT := Lib.hid (fitC_fit raw hr)
  have HG := Lib.hid (code_goes HOK.out)
  obtain ⟨hn, p, cap, rfl, _⟩ := h
  clear hr hv
  generalize fitC raw = c at *
  have hfl : (flatI c.lines).length ≤ 41 := by
    have : (flatI c.lines).length ≤ c.lines.length := by unfold flatI; rw [List.length_map]; exact List.length_filter_le _ _
    omega
  go_enter Tryz.func4, Tryz.ntmps4
  go_wp2_with fail
  refine HAW.out.mono ?_; rintro e w1 ⟨rfl, g1⟩
  have G1 := Lib.hid g1
  clear g1
  go_wp2_with fail
  refine (HFI.out _ G1.out).mono ?_; rintro e w2 ⟨hres, g2⟩
  obtain ⟨pa, ca, pl, cl, rfl, ha, hl⟩ := hres.shape
  have HA := Lib.hid ha
  have HL := Lib.hid hl
  have G2 := Lib.hid (ext_trans G1.out g2)
  clear hres g2 ha hl
  go_wp2_with fail
  have HCD := Lib.hid (HC.out _ _ _ _ _ _ (own_ext HA.out (ext_alloc (Below.refl _ _) (.cells #[.slice pa 2 ca, .slice pl c.lines.length cl] 26))) (own_ext HL.out (ext_alloc (Below.refl _ _) (.cells #[.slice pa 2 ca, .slice pl c.lines.length cl] 26))))
  refine (flat_yes _ c _ HCD.out HFT.out HOK.out).mono ?_; rintro e w3 ⟨hres, g3⟩
  obtain ⟨p1, c1, p2, c2, rfl, h1, h2⟩ := hres.shape
  have H1 := Lib.hid h1
  have H2 := Lib.hid h2
  replace HBK := Lib.hid ((g3.block w2.heap.size (by simp)).trans (heap_new w2 _))
  have HFO := Lib.hid (flat_ok (HCD.out.ext g3) HFT.out HOK.out (by omega))
  have G3 := Lib.hid (ext_trans (ext_alloc G2.out _) g3)
  have l3 : w2.heap.size < w3.heap.size := (Array.getElem?_eq_some_iff.1 HBK.out).1
  obtain ⟨c0, c1'⟩ := two_cells HBK.out
  clear hres h1 h2 g3 HCD HL HA HFT HOK HC
  generalize (flatI c.lines).map (toL c) = T at *
  generalize flatI c.lines = L at *
  go_wp2_with fail
  refine (Split_any pa pl 2 ca c.lines.length cl L T _ HFO.out (by omega) HG.out).mono ?_; rintro e w4 ⟨⟨vs, rfl, hrow⟩, g4⟩
  obtain ⟨ps, cs, rfl, hsp⟩ := row_split hrow
  have HSP0 := Lib.hid hsp
  have hnb := nB_le L T
  generalize hnn : nB L T = m at *
  have HM := Lib.hid hnn
  clear hnn hrow hsp
  replace HBK := Lib.hid ((g4.block w2.heap.size l3).trans HBK.out)
  replace HFO := Lib.hid (FlatOk.ext HFO.out g4)
  replace H1 := Lib.hid (own_ext H1.out g4)
  replace H2 := Lib.hid (own_ext H2.out g4)
  have G4 := Lib.hid (ext_trans G3.out g4)
  have l4 : w2.heap.size < w4.heap.size := (Array.getElem?_eq_some_iff.1 HBK.out).1
  clear c0 c1'
  obtain ⟨c0, c1'⟩ := two_cells HBK.out
  clear g4
  go_wp2_with fail
  refine (Next_any pa pl 2 ca c.lines.length cl L T _ HFO.out (by omega) HG.out).mono ?_; rintro e w5 ⟨⟨vn, rfl, hnx⟩, g5⟩
  rw [HM.out] at hnx
  obtain ⟨pn, cn, rfl, hnx⟩ := hnx
  have HNX0 := Lib.hid hnx
  clear hnx
  replace HBK := Lib.hid ((g5.block w2.heap.size l4).trans HBK.out)
  replace HFO := Lib.hid (FlatOk.ext HFO.out g5)
  replace H1 := Lib.hid (own_ext H1.out g5)
  replace H2 := Lib.hid (own_ext H2.out g5)
  have G5 := Lib.hid (ext_trans G4.out g5)
  replace HSP0 : Hid (∀ i, i < m → ∃ g, ps = some ⟨g, 0, none⟩ ∧ w5.cell? ⟨g, i * 2, none⟩ = some (.int .i64 (eN L T i : Nat)) ∧ w5.cell? ⟨g, i * 2 + 1, none⟩ = some (.int .i64 (eN L T (i + 1) : Nat))) := Lib.hid (fun i hi => by
    obtain ⟨g, e, k0, k1⟩ := HSP0.out i hi
    exact ⟨g, e, (g5.cell (at_lt k0)).trans k0, (g5.cell (at_lt k1)).trans k1⟩)
  have l5 : w2.heap.size < w5.heap.size := (Array.getElem?_eq_some_iff.1 HBK.out).1
  clear c0 c1'
  obtain ⟨c0, c1'⟩ := two_cells HBK.out
  clear g5
  go_wp2_with fail
  refine (Landings_any pa pl 2 ca c.lines.length cl L T _ HFO.out (by omega)).mono ?_; rintro e w6 ⟨⟨vl, rfl, hrow⟩, g6⟩
  obtain ⟨pd, cd, rfl, hld⟩ := row_rown hrow
  have HLD0 := Lib.hid hld
  clear hrow hld
  replace HBK := Lib.hid ((g6.block w2.heap.size l5).trans HBK.out)
  replace HFO := Lib.hid (FlatOk.ext HFO.out g6)
  replace H1 := Lib.hid (own_ext H1.out g6)
  replace H2 := Lib.hid (own_ext H2.out g6)
  have G6 := Lib.hid (ext_trans G5.out g6)
  replace HSP0 : Hid (∀ i, i < m → ∃ g, ps = some ⟨g, 0, none⟩ ∧ w6.cell? ⟨g, i * 2, none⟩ = some (.int .i64 (eN L T i : Nat)) ∧ w6.cell? ⟨g, i * 2 + 1, none⟩ = some (.int .i64 (eN L T (i + 1) : Nat))) := Lib.hid (fun i hi => by
    obtain ⟨g, e, k0, k1⟩ := HSP0.out i hi
    exact ⟨g, e, (g6.cell (at_lt k0)).trans k0, (g6.cell (at_lt k1)).trans k1⟩)
  replace HNX0 : Hid (∀ i, i < m → ∃ g, pn = some ⟨g, 0, none⟩ ∧ ∃ u, w6.cell? ⟨g, i, none⟩ = some u ∧ RowN w6 u (nextI L T i)) := Lib.hid (fun i hi => by
    obtain ⟨g, e, u, k0, k1⟩ := HNX0.out i hi
    exact ⟨g, e, u, (g6.cell (at_lt k0)).trans k0, k1.ext g6⟩)
  have l6 : w2.heap.size < w6.heap.size := (Array.getElem?_eq_some_iff.1 HBK.out).1
  clear c0 c1'
  obtain ⟨c0, c1'⟩ := two_cells HBK.out
  clear g6
  have bm : ((m : Int) != (m : Int)) = false := by simp
  go_wp2_with fail
  go_loopw [10] (fun iv wr => ∃ i : Nat, iv = .int .i64 i ∧ i ≤ m ∧ Below w6.heap.size w6 wr) (fun iv wr => m - slotN iv)
  case atStart => exact ⟨0, rfl, Nat.zero_le _, Below.refl _ _⟩
  case round =>
    obtain ⟨i, rfl, hi, hb⟩ := hrel
    have HB := Lib.hid hb
    by_cases h : i < m
    · obtain ⟨gs, rfl, k0, k1⟩ := HSP0.out i h
      have hin : i < nB L T := by have := HM.out; omega
      obtain ⟨r1, r2, r3⟩ := last_lt hin
      have k1 : wr.cell? ⟨gs, i * 2 + 1, none⟩ = some (.int .i64 ((lastN L T i : Int) + 1)) := by rw [(hb.cell (at_lt k1)).trans k1, ← r2]; simp
      have lgs := at_lt k1
      have r1T : lastN L T i < T.length := by have := HG.out.len; omega
      obtain ⟨x, hx⟩ : ∃ x, L[lastN L T i]'r1 = x := ⟨_, rfl⟩
      obtain ⟨t, ht⟩ : ∃ t, T[lastN L T i]'r1T = t := ⟨_, rfl⟩
      obtain ⟨g1, rfl, lg1, q0, q1, q2, q3, q4, q5⟩ := row_in (own_ext H1.out hb) r1 hx
      obtain ⟨g2, rfl, lg2, r0⟩ := row_num (own_ext H2.out hb) r1T ht
      have hxg : L[lastN L T i]? = some x := by rw [List.getElem?_eq_getElem r1, hx]
      have htg : T[lastN L T i]? = some t := by rw [List.getElem?_eq_getElem r1T, ht]
      have HWN : Hid (∀ k, k ≤ m → (nextI L T i).any (fun e => e == (k : Int)) = if x.op < 25 ∨ x.op = 28 then (((eN L T k : Int) == t) || ((k : Int) == (i : Int) + 1)) else if x.op = 27 then (landL L).any (fun e => e == (eN L T k : Int)) else ((eN L T k : Int) == t)) := Lib.hid (fun k hk => by
        have := HM.out
        rw [toB_has (by omega), to_want HG.out hin (by omega) hxg htg])
      have HT1 : Hid (x.op = 27 → t = -1) := Lib.hid (fun q => ret_to HG.out hxg htg q)
      have hlast : lastN L T i < 41 := by omega
      obtain ⟨gn, rfl, u, kn0, hu⟩ := HNX0.out i h
      obtain ⟨qn, dn, rfl, hu⟩ := hu
      have HU := Lib.hid hu
      have HNB : Hid (∀ e ∈ nextI L T i, 0 ≤ e ∧ e ≤ (m : Int)) := Lib.hid (fun e he => by
        obtain ⟨q, hq, rfl, _⟩ := nextI_mem.1 he
        have := HM.out
        omega)
      have HNR := Lib.hid (nextI_rising L T i)
      have hnl := nextI_len L T i
      rw [HM.out] at hnl
      have KN := Lib.hid kn0
      clear k0 hu hx ht hxg htg hb r2 r3 hin kn0
      generalize nextI L T i = nx at *
      generalize lastN L T i = last at *
      obtain ⟨op, d, aa, b, nn, name⟩ := x
      simp only at q0 q1 q2 q3 q4 q5 HWN HT1
      go_wp2_with fail
      obtain ⟨wo, rfl⟩ : ∃ wo : World, wo = wr := ⟨_, rfl⟩
      clear q0 q1 q2 q3 q4 q5 r0 k1 lgs lg1 lg2
      go_loopw [13] (fun kv wr => ∃ k : Nat, kv = .int .i64 k ∧ k ≤ m + 1 ∧ Below wo.heap.size wo wr ∧ wr.cell? ⟨wo.heap.size, 0, none⟩ = some (.int .i64 op)) (fun kv wr => m + 1 - slotN kv)
      case atStart => exact ⟨0, rfl, Nat.zero_le _, ext_alloc (Below.refl _ _) _, (cell_row (heap_new wo _) 0).trans rfl⟩
      case round =>
        obtain ⟨k, rfl, hk, hbk, xc⟩ := hrel
        have HBK2 := Lib.hid hbk
        have HXC := Lib.hid xc
        have HALL := Lib.hid (ext_trans HB.out hbk)
        have lxc := at_lt xc
        clear hbk
        by_cases hkm : k ≤ m
        · have d1 : decide ((k : Int) ≤ (m : Int)) = true := decide_eq_true (by omega)
          have HW := Lib.hid (HWN.out k hkm)
          have HEL := Lib.hid (eN_last L T)
          go_upto_if 78 with (fail)
          go_cut [14] from 75 to 83 (fun av wc => av = .int .i64 (eN L T k : Nat) ∧ wc = wr)
          case first =>
            by_cases hlt : k < m
            · have d2 : decide ((k : Int) < (m : Int)) = true := decide_eq_true (by omega)
              obtain ⟨g', hg', k2, _⟩ := HSP0.out k hlt
              injection hg' with hg'
              injection hg' with hg' _ _
              subst hg'
              have k2 := (HALL.out.cell (at_lt k2)).trans k2
              have lk2 := at_lt k2
              generalize eN L T k = ek at *
              go_wp2_with fail
              go_meet
              case rel => exact ⟨rfl, rfl⟩
            · have d2 : decide ((k : Int) < (m : Int)) = false := decide_eq_false (by omega)
              have HEK : Hid (eN L T k = L.length) := Lib.hid (by rw [show k = nB L T from by have := HM.out; omega, eN_last])
              go_wp2_with fail
              go_meet
              case rel => exact ⟨by rw [HEK.out], rfl⟩
          case rest =>
            obtain ⟨rfl, hw⟩ := hcut
            have hw := hw.symm
            subst hw
            generalize eN L T k = ek at *
            obtain ⟨W1, hW1⟩ : ∃ W1 : Bool, (if op < 25 ∨ op = 28 then (((ek : Int) == t) || ((k : Int) == (i : Int) + 1)) else ((ek : Int) == t)) = W1 := ⟨_, rfl⟩
            have HW1 := Lib.hid hW1
            clear hW1
            obtain ⟨G, hG⟩ : ∃ G : Bool, decide (op < 25 ∨ op = 28) = G := ⟨_, rfl⟩
            have HGG := Lib.hid hG
            clear hG
            go_upto_region 21 with (fail)
            go_cut [94] from 87 to 93 (fun gv wc => gv = .bool G ∧ wc = wr)
            case first =>
              by_cases h25 : op < 25
              · have b1 : decide (op < 25) = true := decide_eq_true h25
                have HGT : Hid (G = true) := Lib.hid (HGG.out.symm.trans (decide_eq_true (.inl h25)))
                clear h25
                go_wp2_with fail
                go_meet
                case rel => exact ⟨by rw [HGT.out], rfl⟩
              · have b1 : decide (op < 25) = false := decide_eq_false h25
                by_cases h28 : op = 28
                · have b2 : (op == 28) = true := beq_iff_eq.2 h28
                  have HGT : Hid (G = true) := Lib.hid (HGG.out.symm.trans (decide_eq_true (.inr h28)))
                  clear h25 h28
                  go_wp2_with fail
                  go_meet
                  case rel => exact ⟨by rw [HGT.out], rfl⟩
                · have b2 : (op == 28) = false := beq_eq_false_iff_ne.2 h28
                  have HGT : Hid (G = false) := Lib.hid (HGG.out.symm.trans (decide_eq_false (fun q => q.elim h25 h28)))
                  clear h25 h28
                  go_wp2_with fail
                  go_meet
                  case rel => exact ⟨by rw [HGT.out], rfl⟩
            case rest =>
             obtain ⟨rfl, hw⟩ := hcut
             have hw := hw.symm
             subst hw
             go_upto_if 94 with (fail)
             go_cut [15] from 84 to 101 (fun wv wc => wv = .bool W1 ∧ wc = wr)
             case first =>
              cases G
              · rw [if_neg (of_decide_eq_false HGG.out)] at HW1
                go_wp2_with fail
                go_meet
                case rel => exact ⟨by rw [HW1.out], rfl⟩
              · rw [if_pos (of_decide_eq_true HGG.out)] at HW1
                cases hc : ((ek : Int) == t)
                · rw [hc, Bool.false_or] at HW1
                  go_wp2_with fail
                  go_meet
                  case rel => exact ⟨by rw [HW1.out], rfl⟩
                · rw [hc, Bool.true_or] at HW1
                  go_wp2_with fail
                  go_meet
                  case rel => exact ⟨by rw [HW1.out], rfl⟩
             case rest =>
              obtain ⟨rfl, hw⟩ := hcut
              have hw := hw.symm
              subst hw
              go_upto_if 104 with (fail)
              go_cut [15, 16] from 102 to 119 (fun wv _ wc => wv = .bool (nx.any (fun e => e == (k : Int))) ∧ Below wr.heap.size wr wc)
              case first =>
                by_cases h27 : op = 27
                · have ht := HT1.out h27
                  have hll := landL_len L
                  subst h27 ht
                  have HWZ : Hid (W1 = false) := Lib.hid (by
                    rw [← HW1.out, if_neg (by omega)]
                    exact beq_eq_false_iff_ne.2 (by omega))
                  rw [if_neg (by omega), if_pos rfl] at HW
                  obtain rfl : W1 = false := HWZ.out
                  clear HW1 HWZ
                  go_wp2_with fail
                  obtain ⟨w8, rfl⟩ : ∃ w8 : World, w8 = wr := ⟨_, rfl⟩
                  go_loopw [15, 16] (fun bv jv wr => ∃ (j : Nat) (b : Bool), jv = .int .i64 j ∧ j ≤ (landL L).length ∧ bv = .bool b ∧ b = ((landL L).take j).any (fun e => e == (ek : Int)) ∧ Below w8.heap.size w8 wr) (fun _ jv wr => (landL L).length - slotN jv)
                  case atStart => exact ⟨0, false, rfl, Nat.zero_le _, rfl, rfl, Below.refl _ _⟩
                  case round =>
                    obtain ⟨j, b, rfl, hj, rfl, hbq, hbj⟩ := hrel
                    have HBJ8 := Lib.hid hbj
                    have HBQ := Lib.hid hbq
                    have hall := ext_trans HALL.out hbj
                    have x2 := (hbj.cell (at_lt HXC.out)).trans HXC.out
                    have lx2 := at_lt x2
                    clear hbq xc
                    by_cases hjl : j < (landL L).length
                    · obtain ⟨ge, rfl, ke⟩ := HLD0.out j hjl
                      have ke := (hall.cell (at_lt ke)).trans ke
                      have lke := at_lt ke
                      have HST := Lib.hid (anyk_step (k := (ek : Int)) hjl)
                      clear hbj hall
                      generalize (landL L)[j]'hjl = e at *
                      cases b
                      · by_cases he : e = (ek : Int)
                        · have be : (e == (ek : Int)) = true := beq_iff_eq.2 he
                          rw [be, ← HBQ.out] at HST
                          clear he
                          go_wp2_with fail
                          go_roundw
                          case rel => exact ⟨j + 1, true, by go_num, by omega, rfl, HST.out.symm, HBJ8.out⟩
                          case measure => simp [slotN]; omega
                        · have be : (e == (ek : Int)) = false := beq_eq_false_iff_ne.2 he
                          rw [be, ← HBQ.out] at HST
                          clear he
                          go_wp2_with fail
                          go_roundw
                          case rel => exact ⟨j + 1, false, by go_num, by omega, rfl, HST.out.symm, HBJ8.out⟩
                          case measure => simp [slotN]; omega
                      · rw [← HBQ.out, Bool.true_or] at HST
                        go_wp2_with fail
                        go_roundw
                        case rel => exact ⟨j + 1, true, by go_num, by omega, rfl, HST.out.symm, HBJ8.out⟩
                        case measure => simp [slotN]; omega
                    · have HV : Hid (nx.any (fun e => e == (k : Int)) = b) := Lib.hid (by rw [HW.out, HBQ.out, List.take_of_length_le (show (landL L).length ≤ j by omega)])
                      go_wp2_with fail
                      go_meet
                      case rel => exact ⟨by rw [HV.out], HBJ8.out⟩
                · have HV : Hid (nx.any (fun e => e == (k : Int)) = W1) := Lib.hid (by
                    rw [HW.out, ← HW1.out]
                    by_cases q : op < 25 ∨ op = 28
                    · rw [if_pos q, if_pos q]
                    · rw [if_neg q, if_neg q, if_neg h27])
                  have b3 : (op == 27) = false := beq_eq_false_iff_ne.2 h27
                  clear h27
                  go_wp2_with fail
                  go_meet
                  case rel => exact ⟨by rw [HV.out], Below.refl _ _⟩
              case rest =>
                obtain ⟨rfl, hbc⟩ := hcut
                replace HALL := Lib.hid (ext_trans HALL.out hbc)
                have xc2 := (hbc.cell (at_lt HXC.out)).trans HXC.out
                replace HXC := Lib.hid xc2
                replace HBK2 := Lib.hid (ext_trans HBK2.out hbc)
                obtain ⟨B, hB⟩ : ∃ B, nx.any (fun e => e == (k : Int)) = B := ⟨_, rfl⟩
                have HV := Lib.hid hB
                rw [hB]
                have bb : (B != B) = false := by cases B <;> rfl
                clear hB xc lxc hbc HW1
                have xc := xc2
                go_wp2_with fail
                obtain ⟨wq, rfl⟩ : ∃ wq : World, wq = wc := ⟨_, rfl⟩
                go_loopw [17, 18] (fun bv jv wr => ∃ (j : Nat) (b : Bool), jv = .int .i64 j ∧ j ≤ nx.length ∧ bv = .bool b ∧ b = (nx.take j).any (fun e => e == (k : Int)) ∧ Below wq.heap.size wq wr) (fun _ jv wr => nx.length - slotN jv)
                case atStart => exact ⟨0, false, rfl, Nat.zero_le _, rfl, rfl, Below.refl _ _⟩
                case round =>
                  obtain ⟨j, b, rfl, hj, rfl, hbq, hbj⟩ := hrel
                  have HBJ := Lib.hid hbj
                  have HBQ := Lib.hid hbq
                  have hall := ext_trans HALL.out hbj
                  have kn := (hall.cell (at_lt KN.out)).trans KN.out
                  have lkn := at_lt kn
                  clear hbq xc
                  by_cases hjl : j < nx.length
                  · obtain ⟨ge, rfl, ke⟩ := HU.out j hjl
                    have ke := (hall.cell (at_lt ke)).trans ke
                    have lke := at_lt ke
                    have HST := Lib.hid (anyk_step (k := (k : Int)) hjl)
                    clear hbj hall
                    generalize nx[j]'hjl = e at *
                    cases b
                    · by_cases he : e = (k : Int)
                      · have be : (e == (k : Int)) = true := beq_iff_eq.2 he
                        rw [be, ← HBQ.out] at HST
                        clear he
                        go_wp2_with fail
                        go_roundw
                        case rel => exact ⟨j + 1, true, by go_num, by omega, rfl, HST.out.symm, HBJ.out⟩
                        case measure => simp [slotN]; omega
                      · have be : (e == (k : Int)) = false := beq_eq_false_iff_ne.2 he
                        rw [be, ← HBQ.out] at HST
                        clear he
                        go_wp2_with fail
                        go_roundw
                        case rel => exact ⟨j + 1, false, by go_num, by omega, rfl, HST.out.symm, HBJ.out⟩
                        case measure => simp [slotN]; omega
                    · rw [← HBQ.out, Bool.true_or] at HST
                      go_wp2_with fail
                      go_roundw
                      case rel => exact ⟨j + 1, true, by go_num, by omega, rfl, HST.out.symm, HBJ.out⟩
                      case measure => simp [slotN]; omega
                  · have hbl : b = B := by rw [HBQ.out, List.take_of_length_le (by omega)]; exact HV.out
                    have x2 := (hbj.cell (at_lt HXC.out)).trans HXC.out
                    have HX2 := Lib.hid x2
                    clear hbj hall x2
                    subst hbl
                    go_wp2_with fail
                    go_roundw
                    case rel => exact ⟨k + 1, by go_num, by omega, ext_trans HBK2.out HBJ.out, HX2.out⟩
                    case measure => simp [slotN]; omega
        · have d1 : decide ((k : Int) ≤ (m : Int)) = false := decide_eq_false (by omega)
          clear xc lxc HXC
          go_wp2_with fail
          obtain ⟨wq, rfl⟩ : ∃ wq : World, wq = wr := ⟨_, rfl⟩
          go_loopw [19] (fun jv wr => ∃ (j : Nat) (z : Int), jv = .int .i64 z ∧ z = (j : Int) ∧ j ≤ nx.length ∧ Below wq.heap.size wq wr) (fun jv wr => nx.length - slotN jv)
          case atStart => exact ⟨0, 0, rfl, rfl, Nat.zero_le _, Below.refl _ _⟩
          case round =>
            obtain ⟨j, z, rfl, hz, hj, hbj⟩ := hrel
            have HBJ := Lib.hid hbj
            have hall := ext_trans HALL.out hbj
            have kn := (hall.cell (at_lt KN.out)).trans KN.out
            have lkn := at_lt kn
            by_cases hjl : j < nx.length
            · obtain ⟨ge, rfl, ke⟩ := HU.out j hjl
              have ke := (hall.cell (at_lt ke)).trans ke
              have lke := at_lt ke
              have hnb2 := HNB.out _ (List.getElem_mem hjl)
              by_cases hj0 : j = 0
              · subst hj0
                have hz0 : z = 0 := by omega
                subst hz0
                clear hbj hall hz
                generalize nx[0]'hjl = e at *
                have b1 : decide (e < 0) = false := decide_eq_false (by omega)
                have b2 : decide ((m : Int) < e) = false := decide_eq_false (by omega)
                have b5 : decide ((0 : Int) < (nx.length : Int)) = true := decide_eq_true (by omega)
                go_wp2_with fail
                go_quiet (fail)
                go_wp2_with fail
                go_roundw
                case rel => exact ⟨1, 1, by go_num, rfl, by omega, ext_drewN HBJ.out _⟩
                case measure => simp [slotN]; omega
              · obtain ⟨j', rfl⟩ : ∃ j', j = j' + 1 := ⟨j - 1, by omega⟩
                have hz0 : z = (j' : Int) + 1 := by omega
                subst hz0
                clear hz
                obtain ⟨g', hg', kp⟩ := HU.out j' (by omega)
                injection hg' with hg'
                injection hg' with hg' _ _
                subst hg'
                have kp := (hall.cell (at_lt kp)).trans kp
                have hri := List.pairwise_iff_getElem.1 HNR.out j' (j' + 1) (by omega) hjl (by omega)
                clear hbj hall
                generalize nx[j' + 1]'hjl = e at *
                generalize nx[j']'(by omega) = e' at *
                have b1 : decide (e < 0) = false := decide_eq_false (by omega)
                have b2 : decide ((m : Int) < e) = false := decide_eq_false (by omega)
                have b3 : decide (e ≤ e') = false := decide_eq_false (by omega)
                have b4 : decide ((0 : Int) < (j' : Int) + 1) = true := decide_eq_true (by omega)
                have b5 : decide ((j' : Int) + 1 < (nx.length : Int)) = true := decide_eq_true (by omega)
                go_wp2_with fail
                go_quiet (fail)
                go_wp2_with fail
                go_roundw
                case rel => exact ⟨j' + 2, (j' : Int) + 2, by go_num, by omega, by omega, ext_drewN HBJ.out _⟩
                case measure => simp [slotN]; omega
            · clear hall hbj
              go_wp2_with fail
              go_roundw
              case rel => exact ⟨i + 1, by go_num, by omega, ext_trans HALL.out HBJ.out⟩
              case measure => simp [slotN]; omega
    · clear hb
      go_wp2_with fail
      go_ret
      exact ⟨rfl, ext_trans G6.out HB.out⟩
end Go.Proofs.YtnfoplefaibmhaaGreatDoor
