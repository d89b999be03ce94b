/- asm.Flat. -/
import Derived.Test.YtlaihjefmhcmcaaGreatDoorRows
import Derived.WalkKit
import Derived.ProofKit
import Derived.OpenShut
import Derived.WalkLawsBesides
import Derived.WalkSpells
import Derived.Outline
import Derived.Handy
import Derived.Lib.Hide
import Derived.Lib.OthersKept
import Derived.KernelRfl
import Derived.Carry
import Derived.OwnWalk
import Derived.Test.YtlaihjefmhcmcaaGreatDoorAs3
import Derived.Test.YtlaihjefmhcmcaaGreatDoorAsY
import Derived.Test.YtlaihjefmhcmcaaGreatDoorRow
namespace Go.Proofs.YtlaihjefmhcmcaaGreatDoor
open Go.ChangeShapes Go.WideShapes Go.ChangeAt Go.RowKit
set_option linter.unusedVariables false
def FlatRes (B : Nat) (c : Cd) (e : Ending) (w : World) : Prop := ∃ v1 v2 n1 n2, e = .returned (.tuple #[v1, v2]) ∧ w.ownsRow B 46 6 v1 n1 ((flatI c.lines).flatMap cellsI) ∧ w.ownsRow B 3 1 v2 n2 (((flatI c.lines).map (toL c)).flatMap cellsN)
set_option maxRecDepth 100000 in
theorem flat_no (v : Value) (c : Cd) (w : World) (h : CdAt w v c) (hf : CdFit c) (hb : (faultL c).1 ≠ 0) : Calls Tryz.prog 10 #[v] w fun e w' => e = .returned (.tuple #[.slice none 0 0, .slice none 0 0]) ∧ Below w.heap.size w w' := by
  have HC := Lib.hid (fun w' (g : Below w.heap.size w w') => acheck_any v c w' (h.ext g) hf)
  obtain ⟨va, vl, rfl, _, _, _, _⟩ := h
  have hqb : ((faultL c).1 != 0) = true := bne_iff_ne.2 hb
  have hqb2 : ((faultL c).1 == 0) = false := beq_eq_false_iff_ne.2 hb
  clear hb
  generalize (faultL c).1 = e1 at *
  generalize max (faultL c).2 0 = e2 at *
  go_enter Tryz.func10, Tryz.ntmps10
  go_wp2_with fail
  refine (HC.out _ (ext_alloc (Below.refl _ _) _)).mono ?_; rintro e w3 ⟨rfl, g3⟩
  have G3 := Lib.hid (ext_trans (ext_alloc (Below.refl w.heap.size w) _) g3)
  clear g3 HC
  go_wp2_with fail
  go_ret2
  exact ⟨rfl, G3.out⟩
set_option maxHeartbeats 1000000 in
set_option maxRecDepth 100000 in
theorem flat_yes (v : Value) (c : Cd) (w : World) (h : CdAt w v c) (hf : CdFit c) (hb : (faultL c).1 = 0) : Calls Tryz.prog 10 #[v] w fun e w' => FlatRes w.heap.size c e w' ∧ Below w.heap.size w w' := by
  have HCK := Lib.hid (fun w' (g : Below w.heap.size w w') => acheck_any v c w' (h.ext g) hf)
  obtain ⟨va, vl, rfl, _, ⟨hn, p, cap, rfl, hc⟩, _, hlen⟩ := h
  have HC := Lib.hid hc
  have HF := Lib.hid hf
  have HOK := Lib.hid hb
  have h4 := (ok_all hb).1
  have hmm := @run_makeMap Tryz.prog
  rw [hb] at HCK
  clear hc hf hb
  generalize max (faultL c).2 0 = e2 at *
  go_enter Tryz.func10, Tryz.ntmps10
  go_wp2_with fail
  refine (HCK.out _ (ext_alloc (Below.refl _ _) _)).mono ?_; rintro e w1 ⟨rfl, g1⟩
  have G1 := Lib.hid (ext_trans (ext_alloc (Below.refl w.heap.size w) _) g1)
  have HBX := Lib.hid ((g1.block w.heap.size (by simp)).trans (heap_new w _))
  have hs1 : w.heap.size < w1.heap.size := (Array.getElem?_eq_some_iff.1 HBX.out).1
  obtain ⟨c0, c1⟩ := two_cells HBX.out
  clear g1 HCK
  go_wp2_with fail
  go_loopw [6, 26] (fun v iv wr => ∃ (j n : Nat) (F : List UInt8 → Option Int), iv = .int .i64 j ∧ j ≤ c.lines.length ∧ Below w1.heap.size w1 wr ∧ IMap wr w1.heap.size j F ∧ (∀ x, F x = (placesL (c.lines.take j)).1 x) ∧ n = (flatI (c.lines.take j)).length ∧ wr.ownsRow (w1.heap.size + 1) 46 6 v n ((flatI (c.lines.take j)).flatMap cellsI)) (fun _ iv wr => c.lines.length - slotN iv)
  case atStart => exact ⟨0, 0, _, rfl, Nat.zero_le _, ext_alloc (Below.refl _ _) _, imap_made w1, fun _ => rfl, rfl, World.ownsRow_nil _ _ _ _⟩
  case round =>
    obtain ⟨j, n, F, rfl, hj, hbl, hm, hF, hnn, hrow⟩ := hrel
    obtain ⟨hq, p', cap', hv, HRG⟩ := row_get lenI (by decide) hrow
    clear hq
    have HB := Lib.hid hbl
    have HM := Lib.hid hm
    have HFF := Lib.hid hF
    have HR := Lib.hid hrow
    have hs2 : w1.heap.size < wr.heap.size := hm.lt
    by_cases h : j < c.lines.length
    · obtain ⟨a, rfl, k⟩ := HC.out j h
      have hww : Below w.heap.size w wr := ext_trans G1.out hbl
      obtain ⟨k0, k1, k2, k3, k4, k5, k6⟩ := ln_at (k.ext hww)
      have hlb : (c.lines[j]'h).label.length ≤ maxLen := by have := (HF.out.1 _ (List.getElem_mem h)).1; unfold maxLen; omega
      have HST : Hid (placesL (c.lines.take (j + 1)) = stepF (placesL (c.lines.take j)) (c.lines[j]'h)) := Lib.hid (by rw [List.take_succ_eq_append_getElem h, placesL_snoc])
      have HFI : Hid (flatI (c.lines.take (j + 1)) = if (c.lines[j]'h).label = [] then flatI (c.lines.take j) ++ [(c.lines[j]'h).ins] else flatI (c.lines.take j)) := Lib.hid (by rw [List.take_succ_eq_append_getElem h, flatI_snoc])
      have HNM := Lib.hid (placesL_num (c.lines.take j))
      have hmn : n ≤ 40000 := by
        have h1 : (flatI (c.lines.take j)).length ≤ (c.lines.take j).length := by unfold flatI; rw [List.length_map]; exact List.length_filter_le _ _
        rw [List.length_take] at h1
        omega
      have HNN := Lib.hid hnn
      rw [← hnn] at hv HNM
      clear k hbl hm hF hrow hww hnn HRG
      generalize flatI (c.lines.take j) = P at *
      generalize placesL (c.lines.take j) = S at *
      generalize c.lines[j]'h = l at *
      obtain ⟨lab, x⟩ := l
      simp only at k0 k1 k2 k3 k4 k5 k6 hlb HST HFI
      have tl : (mk lab).toList = lab := mk_tl _
      subst hv
      by_cases h0 : lab = []
      · subst h0
        have HS2 : Hid (placesL (c.lines.take (j + 1)) = (S.1, S.2 + 1)) := Lib.hid (by rw [HST.out]; unfold stepF; rw [if_pos rfl])
        have HF2 : Hid (flatI (c.lines.take (j + 1)) = P ++ [x]) := Lib.hid (by rw [HFI.out, if_pos rfl])
        clear HST HFI
        go_wp2_with (at_builtin; refine app_cells Tryz.underlying38 infoI rfl (by decide) (by decide) rfl _ _ rfl (w1.heap.size + 1) _ n (P.flatMap cellsI) rfl (own_ext HR.out (ext_alloc (ext_alloc (Below.refl _ _) _) _)) (wr.heap.size + 1) 1 (cellsI x) rfl rfl (heap_new' _ _ _ (by simp)) (oneI x) (by omega) (by simp; omega) ?_; intro v' w2 hown2 hg2)
        go_roundw
        case rel =>
          refine ⟨j + 1, n + 1, F, by go_num, by omega, below_grown (ext_alloc (ext_alloc HB.out _) _) hg2 (by simp; omega) (fun k hk => ?_), map_kept (HM.out.mono (Nat.le_succ j) |>.ext (ext_alloc (ext_alloc (Below.refl _ _) _) _)) hg2 (own_ne HR.out (by omega)), fun y => by rw [HS2.out]; exact HFF.out y, by rw [HF2.out, List.length_append, ← HNN.out]; rfl, ?_⟩
          · have := (HR.out.lt k hk).1; omega
          · rw [HF2.out, List.flatMap_append]
            simpa using hown2
        case measure => simp [slotN]; omega
      · have hie := ie_ne h0
        have HS2 : Hid (placesL (c.lines.take (j + 1)) = (putF S.1 lab (n : Int), S.2)) := Lib.hid (by rw [HST.out]; unfold stepF; rw [if_neg h0, HNM.out])
        have HF2 : Hid (flatI (c.lines.take (j + 1)) = P) := Lib.hid (by rw [HFI.out, if_neg h0])
        clear HST HFI h0
        go_wp2_with (at_mapUpdate; refine wp_put w1.heap.size j F (HM.out.ext (ext_alloc (Below.refl _ _) _)) (by omega) lab hlb (n : Int) (by unfold I64; omega) rfl _ _ _ rfl rfl rfl rfl ?_; intro w2 hown2 hg2)
        go_roundw
        case rel =>
          refine ⟨j + 1, n, _, by go_num, by omega, below_grown (ext_alloc HB.out _) hg2 (by simp; omega) (fun k hk => by cases hk; omega), hown2, fun y => ?_, by rw [HF2.out]; exact HNN.out, ?_⟩
          · rw [HS2.out]
            show putF F lab (n : Int) y = putF S.1 lab (n : Int) y
            unfold putF
            rw [HFF.out y]
          · rw [HF2.out]
            exact (own_ext HR.out (ext_alloc (Below.refl _ _) _)).kept hg2 (.inr (own_ne HR.out (by omega)))
        case measure => simp [slotN]; omega
    · obtain rfl : j = c.lines.length := by omega
      rw [List.take_length] at hF hnn hrow hv HRG
      have HNN := Lib.hid hnn
      have hmn : n ≤ 40000 := by
        have h1 : (flatI c.lines).length ≤ c.lines.length := by unfold flatI; rw [List.length_map]; exact List.length_filter_le _ _
        omega
      have HTO : Hid (∀ x ∈ flatI c.lines, (if (F x.name).isSome = false ∨ x.op = 17 then (-1 : Int) else (F x.name).getD 0) = toL c x) := Lib.hid (fun x hx => by rw [hF]; exact ok_to HOK.out hx)
      have HNL : Hid (∀ x ∈ flatI c.lines, x.name.length ≤ 140737488355328) := Lib.hid (fun x hx => by
        obtain ⟨i, hi, _, e⟩ := flatI_mem hx
        rw [← e]
        exact (HF.out.1 _ (List.getElem_mem hi)).2)
      have HRW := Lib.hid hrow
      have HRG2 := Lib.hid HRG
      rw [← hnn] at hv
      have HBW := Lib.hid (ext_trans G1.out hbl)
      clear HFF HR hbl hm hF hrow hnn h HB HC HRG
      obtain ⟨wo, rfl⟩ : ∃ wo : World, wo = wr := ⟨_, rfl⟩
      subst hv
      have HFR : Hid (∀ (v1 v2 : Value) (n1 n2 : Nat) (ww : World), ww.ownsRow w.heap.size 46 6 v1 n1 ((flatI c.lines).flatMap cellsI) → ww.ownsRow w.heap.size 3 1 v2 n2 (((flatI c.lines).map (toL c)).flatMap cellsN) → FlatRes w.heap.size c (.returned (.tuple #[v1, v2])) ww) := Lib.hid (fun v1 v2 n1 n2 ww h1 h2 => ⟨v1, v2, n1, n2, rfl, h1, h2⟩)
      generalize flatI c.lines = P at *
      go_wp2_with fail
      go_loopw [10, 46] (fun t iv wr => ∃ (j : Nat), iv = .int .i64 j ∧ j ≤ n ∧ Below wo.heap.size wo wr ∧ wr.ownsRow wo.heap.size 3 1 t j (((P.take j).map (toL c)).flatMap cellsN)) (fun _ iv wr => n - slotN iv)
      case atStart => exact ⟨0, rfl, Nat.zero_le _, Below.refl _ _, by rw [List.take_zero]; exact World.ownsRow_nil _ _ _ _⟩
      case round =>
        obtain ⟨j, rfl, hj, hbl, hrow⟩ := hrel
        obtain ⟨hq, p2, cap2, hv, HRG⟩ := row_get lenN (by decide) hrow
        have hl : ((P.take j).map (toL c)).length = j := by rw [List.length_map, List.length_take, ← HNN.out]; omega
        rw [hl] at hv
        have HB := Lib.hid hbl
        have HR := Lib.hid hrow
        have HM2 := Lib.hid (HM.out.ext hbl)
        have hs3 : wo.heap.size ≤ wr.heap.size := hbl.size
        by_cases h : j < n
        · have hP : j < P.length := by rw [← HNN.out]; exact h
          obtain ⟨g, rfl, hg0, hcell⟩ := HRG2.out j hP
          have hgl : g < wo.heap.size := by have := hcell 0 (by decide); exact at_lt (a := ⟨g, j * 6 + 0, none⟩) this
          have q0 : wr.cell? ⟨g, j * 6, none⟩ = some (.int .i64 (P[j]'hP).op) := (hbl.cell (p := ⟨g, j * 6, none⟩) hgl).trans (hcell 0 (by decide))
          have q1 : wr.cell? ⟨g, j * 6 + 1, none⟩ = some (.int .i64 (P[j]'hP).d) := (hbl.cell (p := ⟨g, j * 6 + 1, none⟩) hgl).trans (hcell 1 (by decide))
          have q2 : wr.cell? ⟨g, j * 6 + 2, none⟩ = some (.int .i64 (P[j]'hP).a) := (hbl.cell (p := ⟨g, j * 6 + 2, none⟩) hgl).trans (hcell 2 (by decide))
          have q3 : wr.cell? ⟨g, j * 6 + 3, none⟩ = some (.int .i64 (P[j]'hP).b) := (hbl.cell (p := ⟨g, j * 6 + 3, none⟩) hgl).trans (hcell 3 (by decide))
          have q4 : wr.cell? ⟨g, j * 6 + 4, none⟩ = some (.int .i64 (P[j]'hP).n) := (hbl.cell (p := ⟨g, j * 6 + 4, none⟩) hgl).trans (hcell 4 (by decide))
          have q5 : wr.cell? ⟨g, j * 6 + 5, none⟩ = some (.string (mk (P[j]'hP).name)) := (hbl.cell (p := ⟨g, j * 6 + 5, none⟩) hgl).trans (hcell 5 (by decide))
          have hnl : (P[j]'hP).name.length ≤ maxLen := by have := HNL.out _ (List.getElem_mem hP); unfold maxLen; omega
          have HT := HTO.out _ (List.getElem_mem hP)
          have HT2 : Hid (∀ k, k = toL c (P[j]'hP) → ((P.take (j + 1)).map (toL c)).flatMap cellsN = ((P.take j).map (toL c)).flatMap cellsN ++ cellsN k) := Lib.hid (fun k hk => by rw [List.take_succ_eq_append_getElem hP, hk, List.map_append, List.flatMap_append]; show _ ++ (cellsN (toL c (P[j]'hP)) ++ []) = _; rw [List.append_nil])
          clear hbl hrow HRG hq hl hcell
          generalize P[j]'hP = x at *
          obtain ⟨op, d, a, b, nn, name⟩ := x
          simp only at q0 q1 q2 q3 q4 q5 hnl HT
          subst hv
          generalize hs : (F name).isSome = s at *
          have hsv := hs
          clear hs
          cases s
          · have HT3 := Lib.hid (HT2.out _ ((if_pos (.inl rfl)).symm.trans HT))
            clear HT HT2
            · go_wp2_with (first | (at_lookup; refine wp_look_ok w1.heap.size c.lines.length F (HM2.out.ext (ext_alloc (Below.refl _ _) _)) name hnl rfl _ _ rfl rfl rfl ?_) | (at_builtin; refine app_cells Tryz.underlying23 infoN rfl (by decide) (by decide) rfl _ _ rfl wo.heap.size _ j (((P.take j).map (toL c)).flatMap cellsN) rfl (own_ext HR.out (ext_alloc (ext_alloc (Below.refl _ _) _) _)) (wr.heap.size + 1) 1 (cellsN (-1)) rfl rfl (heap_new' _ _ _ (by simp)) (oneN _) (by omega) (by simp; omega) ?_; intro v' w2 hown2 hg2))
              go_roundw
              case rel => exact ⟨j + 1, by go_num, by omega, below_grown (ext_alloc (ext_alloc HB.out _) _) hg2 (by simp; omega) (fun k hk => (HR.out.lt k hk).1), by rw [HT3.out]; exact hown2⟩
              case measure => simp [slotN]; omega
          · by_cases h17 : op = 17
            · have HT3 := Lib.hid (HT2.out _ ((if_pos (.inr h17)).symm.trans HT))
              subst h17
              clear HT HT2
              go_wp2_with (first | (at_lookup; refine wp_look_ok w1.heap.size c.lines.length F (HM2.out.ext (ext_alloc (Below.refl _ _) _)) name hnl rfl _ _ rfl rfl rfl ?_) | (at_builtin; refine app_cells Tryz.underlying23 infoN rfl (by decide) (by decide) rfl _ _ rfl wo.heap.size _ j (((P.take j).map (toL c)).flatMap cellsN) rfl (own_ext HR.out (ext_alloc (ext_alloc (Below.refl _ _) _) _)) (wr.heap.size + 1) 1 (cellsN (-1)) rfl rfl (heap_new' _ _ _ (by simp)) (oneN _) (by omega) (by simp; omega) ?_; intro v' w2 hown2 hg2))
              go_roundw
              case rel => exact ⟨j + 1, by go_num, by omega, below_grown (ext_alloc (ext_alloc HB.out _) _) hg2 (by simp; omega) (fun k hk => (HR.out.lt k hk).1), by rw [HT3.out]; exact hown2⟩
              case measure => simp [slotN]; omega
            · have HT3 := Lib.hid (HT2.out _ ((if_neg (fun k => k.elim (fun k => by cases k) h17)).symm.trans HT))
              have h17b : (op == 17) = false := beq_eq_false_iff_ne.2 h17
              clear HT HT2 h17
              go_wp2_with (first | (at_lookup; refine wp_look_ok w1.heap.size c.lines.length F (HM2.out.ext (ext_alloc (Below.refl _ _) _)) name hnl rfl _ _ rfl rfl rfl ?_) | (at_builtin; refine app_cells Tryz.underlying23 infoN rfl (by decide) (by decide) rfl _ _ rfl wo.heap.size _ j (((P.take j).map (toL c)).flatMap cellsN) rfl (own_ext HR.out (ext_alloc (ext_alloc (Below.refl _ _) _) _)) (wr.heap.size + 1) 1 (cellsN ((F name).getD 0)) rfl rfl (heap_new' _ _ _ (by simp)) (oneN _) (by omega) (by simp; omega) ?_; intro v' w2 hown2 hg2))
              go_roundw
              case rel => exact ⟨j + 1, by go_num, by omega, below_grown (ext_alloc (ext_alloc HB.out _) _) hg2 (by simp; omega) (fun k hk => (HR.out.lt k hk).1), by rw [HT3.out]; exact hown2⟩
              case measure => simp [slotN]; omega
        · obtain rfl : j = n := by omega
          have e : P.take j = P := List.take_of_length_le (by rw [← HNN.out]; exact Nat.le_refl _)
          rw [e] at hrow
          have HEND := Lib.hid (HFR.out _ _ _ _ wr (own_base (own_ext HRW.out hbl) (by omega)) (own_base hrow (by omega)))
          have HEB := Lib.hid (ext_trans HBW.out hbl)
          clear hbl hrow HRG hq hl HR HB e
          subst hv
          go_wp2_with fail
          go_ret2
          exact ⟨HEND.out, HEB.out⟩
end Go.Proofs.YtlaihjefmhcmcaaGreatDoor
