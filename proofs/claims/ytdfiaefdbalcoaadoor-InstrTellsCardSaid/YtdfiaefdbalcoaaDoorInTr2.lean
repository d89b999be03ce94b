/- The document's own answer: an instruction read. -/
import Derived.Test.YtdfiaefdbalcoaaDoorRows
import Derived.WalkKit
import Derived.ProofKit
import Derived.OpenShut
import Derived.WalkLawsBesides
import Derived.WalkSpells
import Derived.Outline
import Derived.Handy
import Derived.Lib.Hide
import Derived.Lib.OthersKept
import Derived.KernelRfl
import Derived.Deep.Cut
import Derived.Test.YtdfiaefdbalcoaaDoorInTa
import Derived.Test.YtdfiaefdbalcoaaDoorInTv
import Derived.Test.YtdfiaefdbalcoaaDoorInF
import Derived.Test.YtdfiaefdbalcoaaDoorInTr1
namespace Go.Proofs.YtdfiaefdbalcoaaDoor
open Go.ChangeShapes Go.WideShapes Go.ChangeAt Go.RowKit
set_option linter.unusedVariables false
set_option maxRecDepth 100000 in
set_option maxHeartbeats 16000000 in
theorem rread_end (op : Int) (s : List UInt8) (hl : s.length ≤ 100000) (w : World) (NM H : List UInt8) (hH7 : H.length ≤ 7) (hN5 : NM.length ≤ 5) (HF : Hid (∀ w : World, Calls Tryd.prog 31 #[.int .i64 op] w fun e w' => e = .returned (.tuple #[.string (mk NM), .string (mk H)]) ∧ Below w.heap.size w w'))
    (hx1 : NM.length ≤ s.length) (hx : s.take NM.length = NM) (h0 : H ≠ []) (hr : s.drop NM.length = []) : Calls Tryd.prog 36 #[.int .i64 op, .string (mk s)] w fun e w' => e = .returned (inV (rreadL op NM H s)) ∧ Below w.heap.size w w' := by
  have hss : (mk s).size = s.length := rfl
  have hns : (mk NM).size = NM.length := rfl
  have tn : (mk NM).toList = NM := mk_tl NM
  have hdn : decide (s.length < NM.length) = false := decide_eq_false (by omega)
  have hdi : decide ((s.length : Int) < (NM.length : Int)) = false := decide_eq_false (by omega)
  have hex0 : (mk s).extract 0 NM.length = mk NM := by rw [take_mk, hx]
  have hexd : (mk s).extract NM.length s.length = mk (s.drop NM.length) := drop_mk s NM.length
  have hxe : (NM == NM) = true := beq_self_eq_true _
  have hxn : (NM != NM) = false := by rw [bne, hxe]; rfl
  have HRR : Hid (rreadL op NM H s = (rfoldP H (rest1 H (s.drop NM.length), ⟨op, 0, 0, 0, 0, []⟩)).2) := Lib.hid (by unfold rreadL; rw [if_pos hx])
  have hRL0 : (s.drop NM.length).length ≤ 100000 := by rw [List.length_drop]; omega
  clear hx
  generalize s.drop NM.length = R at *
  have tr : (mk R).toList = R := mk_tl R
  have hrs : (mk R).size = R.length := rfl
  obtain ⟨F, hF⟩ : ∃ F, rfoldP H (rest1 H R, ⟨op, 0, 0, 0, 0, []⟩) = F := ⟨_, rfl⟩
  rw [hF] at HRR
  have HF0 : Hid (rfoldP (H.drop 0) (R, ⟨op, 0, 0, 0, 0, []⟩) = F) := Lib.hid (by rw [← hF, List.drop_zero]; unfold rest1; rw [if_neg (fun h => h.2 hr)])
  have HRL : Hid (R.length ≤ 100000) := Lib.hid hRL0
  have hhe : (H == []) = false := beq_eq_false_iff_ne.2 h0
  have hhn : (H != []) = true := bne_iff_ne.2 h0
  have tH : (mk H).toList = H := mk_tl H
  have hre : (R == []) = true := by rw [hr]; rfl
  have hrn : (R != []) = false := by rw [hr]; rfl
  clear hF h0 hr
  go_enter Tryd.func36, Tryd.ntmps36
  go_wp2_with fail
  refine (HF.out _).mono ?_; rintro e w1 ⟨rfl, g1⟩
  have hbx0 := (g1.block w.heap.size (by simp)).trans (heap_new w (.cells (inC zeroI) 23))
  have hz : w.heap.size < w1.heap.size := (Array.getElem?_eq_some_iff.1 hbx0).1
  have HBL1 := Lib.hid (ext_alloc (ext_trans (ext_alloc (Below.refl w.heap.size w) (.cells (inC zeroI) 23)) g1) (.cells (inC ⟨op, 0, 0, 0, 0, []⟩) 23))
  have HBX1 := Lib.hid ((Lib.alloc_old w1 (.cells (inC ⟨op, 0, 0, 0, 0, []⟩) 23) _ hz).trans hbx0)
  have HRB1 := Lib.hid (heap_new w1 (.cells (inC ⟨op, 0, 0, 0, 0, []⟩) 23))
  clear hbx0 g1
  go_upto_region 3 with (fail)
  obtain ⟨w2, hw2⟩ : ∃ w2, w1.alloc (.cells #[.int .i64 op, .int .i64 0, .int .i64 0, .int .i64 0, .int .i64 0, .string ⟨#[]⟩] 23) = w2 := ⟨_, rfl⟩
  have HBL1 : Hid (Below w.heap.size w w2) := Lib.hid (by rw [← hw2]; exact HBL1.out)
  have HBX1 : Hid (w2.heap[w.heap.size]? = some (.cells (inC zeroI) 23 (0, 0))) := Lib.hid (by rw [← hw2]; exact HBX1.out)
  have HRB1 : Hid (w2.heap[w1.heap.size]? = some (.cells (inC ⟨op, 0, 0, 0, 0, []⟩) 23 (0, 0))) := Lib.hid (by rw [← hw2]; exact HRB1.out)
  rw [hw2]
  clear hw2
  go_wp2_with fail
  have hHs : (mk H).size = H.length := rfl
  go_loopw [1, 8] (fun sv iv wr => ∃ (m : List UInt8) (pos : Nat) (y : In), sv = .string (mk m) ∧ iv = .int .i64 pos ∧ m.length ≤ 100000 ∧ pos ≤ H.length ∧ wr.heap[w1.heap.size]? = some (.cells (inC y) 23 (0, 0)) ∧
      wr.heap[w.heap.size]? = some (.cells (inC zeroI) 23 (0, 0)) ∧ Below w.heap.size w wr ∧ rfoldP (H.drop pos) (m, y) = F) (fun _ iv wr => H.length - ivN iv)
  case atStart => exact ⟨_, 0, ⟨op, 0, 0, 0, 0, []⟩, rfl, rfl, HRL.out, Nat.zero_le _, HRB1.out, HBX1.out, HBL1.out, HF0.out⟩
  case round =>
    obtain ⟨m, pos, y, rfl, rfl, hm, hp, hrb, hbx, hbl, hfo⟩ := hrel
    have HFO := Lib.hid hfo
    have HRB := Lib.hid hrb
    have HBX := Lib.hid hbx
    have HBL := Lib.hid hbl
    have hms : (mk m).size = m.length := rfl
    clear hfo hrb hbx hbl
    by_cases hlt : pos < H.length
    · have h' : pos < (mk H).size := hlt
      have hst := Lib.hid (fun st => rfoldP_drop H pos hlt st)
      have hg : ((mk H)[pos]'h').toNat = (H[pos]'hlt).toNat := rfl
      generalize H[pos]'hlt = c at *
      obtain ⟨⟨d0, d1, d2, d3, d4, d5⟩, f0, f1, f2, f3, f4, f5⟩ := six_at HRB.out
      by_cases h68 : c = 68
      · subst h68
        have hg : ((mk H)[pos]'h').toNat = 68 := hg
        by_cases hm0 : m = []
        · subst hm0
          have HFIN : Hid (rfoldP (H.drop (pos + 1)) ([], { y with d := 0 }) = F) := Lib.hid (by rw [← HFO.out, hst.out, rs_d]; rfl)
          have hms : (mk ([] : List UInt8)).size = 0 := rfl
          have tm0 : (mk ([] : List UInt8)).toList = [] := mk_tl []
          have hex : (mk ([] : List UInt8)).extract 0 0 = mk [] := rfl
          go_wp2_with fail
          go_roundw
          case rel => exact ⟨[], pos + 1, { y with d := 0 }, rfl, rfl, Nat.zero_le _, by omega, (heap_setCell_same _ _ 1 _ _ _ HRB.out).trans rfl, (heap_setCell_other _ _ _ _ (by simp; omega)).trans HBX.out, ext_set HBL.out (by simp; omega) _, HFIN.out⟩
          case measure => rw [ivN_int, show ((pos : Int) + 1) = ((pos + 1 : Nat) : Int) from rfl, ivN_int]; omega
        · have hme : (m == []) = false := beq_eq_false_iff_ne.2 hm0
          have hme2 : (m != []) = true := bne_iff_ne.2 hm0
          have hm1 : 1 ≤ m.length := List.length_pos_iff.2 hm0
          have hrn : rnumL m = ((valueL (m.drop 1)).1, (valueL (m.drop 1)).2 + 1) := by unfold rnumL; rw [if_neg hm0]
          obtain ⟨q, hq1, hq2, hq3, hq4⟩ := cut_len m ((valueL (m.drop 1)).2 + 1)
          have HFIN : Hid (rfoldP (H.drop (pos + 1)) (m.drop ((valueL (m.drop 1)).2 + 1), { y with d := (valueL (m.drop 1)).1 }) = F) := Lib.hid (by rw [← HFO.out, hst.out, rs_d, hrn])
          have HVA := Lib.hid (fun w => rval_any (m.drop 1) w (by rw [List.length_drop]; omega))
          have hvb := (value_i (m.drop 1)).2
          rw [List.length_drop] at hvb
          have hex1 : (mk m).extract 1 m.length = mk (m.drop 1) := drop_mk m 1
          have HDL : Hid ((m.drop ((valueL (m.drop 1)).2 + 1)).length ≤ 100000) := Lib.hid (by rw [List.length_drop]; omega)
          have tm : (mk m).toList = m := mk_tl m
          unfold vaV at HVA
          clear hm0 hrn
          generalize m.drop ((valueL (m.drop 1)).2 + 1) = D at *
          generalize (valueL (m.drop 1)).1 = v at *
          generalize (valueL (m.drop 1)).2 = k2 at *
          generalize m.drop 1 = M1 at *
          have hq1 : min ((k2 : Int) + 1) (m.length : Int) = q := hq1
          go_wp2_with fail
          refine (HVA.out _).mono ?_; rintro e w2 ⟨rfl, rfl⟩
          go_wp2_with fail
          go_roundw
          case rel => exact ⟨D, pos + 1, { y with d := v }, rfl, rfl, HDL.out, by omega, (heap_setCell_same _ _ 1 _ _ _ HRB.out).trans rfl, (heap_setCell_other _ _ _ _ (by simp; omega)).trans HBX.out, ext_set HBL.out (by simp; omega) _, HFIN.out⟩
          case measure => rw [ivN_int, show ((pos : Int) + 1) = ((pos + 1 : Nat) : Int) from rfl, ivN_int]; omega
      by_cases h65 : c = 65
      · subst h65
        have hg : ((mk H)[pos]'h').toNat = 65 := hg
        by_cases hm0 : m = []
        · subst hm0
          have HFIN : Hid (rfoldP (H.drop (pos + 1)) ([], { y with a := 0 }) = F) := Lib.hid (by rw [← HFO.out, hst.out, rs_a]; rfl)
          have hms : (mk ([] : List UInt8)).size = 0 := rfl
          have tm0 : (mk ([] : List UInt8)).toList = [] := mk_tl []
          have hex : (mk ([] : List UInt8)).extract 0 0 = mk [] := rfl
          go_wp2_with fail
          go_roundw
          case rel => exact ⟨[], pos + 1, { y with a := 0 }, rfl, rfl, Nat.zero_le _, by omega, (heap_setCell_same _ _ 2 _ _ _ HRB.out).trans rfl, (heap_setCell_other _ _ _ _ (by simp; omega)).trans HBX.out, ext_set HBL.out (by simp; omega) _, HFIN.out⟩
          case measure => rw [ivN_int, show ((pos : Int) + 1) = ((pos + 1 : Nat) : Int) from rfl, ivN_int]; omega
        · have hme : (m == []) = false := beq_eq_false_iff_ne.2 hm0
          have hme2 : (m != []) = true := bne_iff_ne.2 hm0
          have hm1 : 1 ≤ m.length := List.length_pos_iff.2 hm0
          have hrn : rnumL m = ((valueL (m.drop 1)).1, (valueL (m.drop 1)).2 + 1) := by unfold rnumL; rw [if_neg hm0]
          obtain ⟨q, hq1, hq2, hq3, hq4⟩ := cut_len m ((valueL (m.drop 1)).2 + 1)
          have HFIN : Hid (rfoldP (H.drop (pos + 1)) (m.drop ((valueL (m.drop 1)).2 + 1), { y with a := (valueL (m.drop 1)).1 }) = F) := Lib.hid (by rw [← HFO.out, hst.out, rs_a, hrn])
          have HVA := Lib.hid (fun w => rval_any (m.drop 1) w (by rw [List.length_drop]; omega))
          have hvb := (value_i (m.drop 1)).2
          rw [List.length_drop] at hvb
          have hex1 : (mk m).extract 1 m.length = mk (m.drop 1) := drop_mk m 1
          have HDL : Hid ((m.drop ((valueL (m.drop 1)).2 + 1)).length ≤ 100000) := Lib.hid (by rw [List.length_drop]; omega)
          have tm : (mk m).toList = m := mk_tl m
          unfold vaV at HVA
          clear hm0 hrn
          generalize m.drop ((valueL (m.drop 1)).2 + 1) = D at *
          generalize (valueL (m.drop 1)).1 = v at *
          generalize (valueL (m.drop 1)).2 = k2 at *
          generalize m.drop 1 = M1 at *
          have hq1 : min ((k2 : Int) + 1) (m.length : Int) = q := hq1
          go_wp2_with fail
          refine (HVA.out _).mono ?_; rintro e w2 ⟨rfl, rfl⟩
          go_wp2_with fail
          go_roundw
          case rel => exact ⟨D, pos + 1, { y with a := v }, rfl, rfl, HDL.out, by omega, (heap_setCell_same _ _ 2 _ _ _ HRB.out).trans rfl, (heap_setCell_other _ _ _ _ (by simp; omega)).trans HBX.out, ext_set HBL.out (by simp; omega) _, HFIN.out⟩
          case measure => rw [ivN_int, show ((pos : Int) + 1) = ((pos + 1 : Nat) : Int) from rfl, ivN_int]; omega
      by_cases h66 : c = 66
      · subst h66
        have hg : ((mk H)[pos]'h').toNat = 66 := hg
        by_cases hm0 : m = []
        · subst hm0
          have HFIN : Hid (rfoldP (H.drop (pos + 1)) ([], { y with b := 0 }) = F) := Lib.hid (by rw [← HFO.out, hst.out, rs_b]; rfl)
          have hms : (mk ([] : List UInt8)).size = 0 := rfl
          have tm0 : (mk ([] : List UInt8)).toList = [] := mk_tl []
          have hex : (mk ([] : List UInt8)).extract 0 0 = mk [] := rfl
          go_wp2_with fail
          go_roundw
          case rel => exact ⟨[], pos + 1, { y with b := 0 }, rfl, rfl, Nat.zero_le _, by omega, (heap_setCell_same _ _ 3 _ _ _ HRB.out).trans rfl, (heap_setCell_other _ _ _ _ (by simp; omega)).trans HBX.out, ext_set HBL.out (by simp; omega) _, HFIN.out⟩
          case measure => rw [ivN_int, show ((pos : Int) + 1) = ((pos + 1 : Nat) : Int) from rfl, ivN_int]; omega
        · have hme : (m == []) = false := beq_eq_false_iff_ne.2 hm0
          have hme2 : (m != []) = true := bne_iff_ne.2 hm0
          have hm1 : 1 ≤ m.length := List.length_pos_iff.2 hm0
          have hrn : rnumL m = ((valueL (m.drop 1)).1, (valueL (m.drop 1)).2 + 1) := by unfold rnumL; rw [if_neg hm0]
          obtain ⟨q, hq1, hq2, hq3, hq4⟩ := cut_len m ((valueL (m.drop 1)).2 + 1)
          have HFIN : Hid (rfoldP (H.drop (pos + 1)) (m.drop ((valueL (m.drop 1)).2 + 1), { y with b := (valueL (m.drop 1)).1 }) = F) := Lib.hid (by rw [← HFO.out, hst.out, rs_b, hrn])
          have HVA := Lib.hid (fun w => rval_any (m.drop 1) w (by rw [List.length_drop]; omega))
          have hvb := (value_i (m.drop 1)).2
          rw [List.length_drop] at hvb
          have hex1 : (mk m).extract 1 m.length = mk (m.drop 1) := drop_mk m 1
          have HDL : Hid ((m.drop ((valueL (m.drop 1)).2 + 1)).length ≤ 100000) := Lib.hid (by rw [List.length_drop]; omega)
          have tm : (mk m).toList = m := mk_tl m
          unfold vaV at HVA
          clear hm0 hrn
          generalize m.drop ((valueL (m.drop 1)).2 + 1) = D at *
          generalize (valueL (m.drop 1)).1 = v at *
          generalize (valueL (m.drop 1)).2 = k2 at *
          generalize m.drop 1 = M1 at *
          have hq1 : min ((k2 : Int) + 1) (m.length : Int) = q := hq1
          go_wp2_with fail
          refine (HVA.out _).mono ?_; rintro e w2 ⟨rfl, rfl⟩
          go_wp2_with fail
          go_roundw
          case rel => exact ⟨D, pos + 1, { y with b := v }, rfl, rfl, HDL.out, by omega, (heap_setCell_same _ _ 3 _ _ _ HRB.out).trans rfl, (heap_setCell_other _ _ _ _ (by simp; omega)).trans HBX.out, ext_set HBL.out (by simp; omega) _, HFIN.out⟩
          case measure => rw [ivN_int, show ((pos : Int) + 1) = ((pos + 1 : Nat) : Int) from rfl, ivN_int]; omega
      by_cases h78 : c = 78
      · subst h78
        have hg : ((mk H)[pos]'h').toNat = 78 := hg
        obtain ⟨q, hq1, hq2, hq3, hq4⟩ := cut_len m (valueL m).2
        have HFIN : Hid (rfoldP (H.drop (pos + 1)) (m.drop (valueL m).2, { y with n := (valueL m).1 }) = F) := Lib.hid (by rw [← HFO.out, hst.out, rs_n])
        have HVA := Lib.hid (fun w => rval_any m w hm)
        have hvb := (value_i m).2
        have HDL : Hid ((m.drop (valueL m).2).length ≤ 100000) := Lib.hid (by rw [List.length_drop]; omega)
        unfold vaV at HVA
        generalize m.drop (valueL m).2 = D at *
        generalize (valueL m).1 = v at *
        generalize (valueL m).2 = k2 at *
        go_wp2_with fail
        refine (HVA.out _).mono ?_; rintro e w2 ⟨rfl, rfl⟩
        go_wp2_with fail
        go_roundw
        case rel => exact ⟨D, pos + 1, { y with n := v }, rfl, rfl, HDL.out, by omega, (heap_setCell_same _ _ 4 _ _ _ HRB.out).trans rfl, (heap_setCell_other _ _ _ _ (by simp; omega)).trans HBX.out, ext_set HBL.out (by simp; omega) _, HFIN.out⟩
        case measure => rw [ivN_int, show ((pos : Int) + 1) = ((pos + 1 : Nat) : Int) from rfl, ivN_int]; omega
      by_cases h83 : c = 83
      · subst h83
        have hg : ((mk H)[pos]'h').toNat = 83 := hg
        obtain ⟨q, hq1, hq2, hq3, hq4⟩ := cut_len m (valueL m).2
        have HFIN : Hid (rfoldP (H.drop (pos + 1)) (m.drop (valueL m).2, { y with n := (valueL m).1 }) = F) := Lib.hid (by rw [← HFO.out, hst.out, rs_s])
        have HVA := Lib.hid (fun w => rval_any m w hm)
        have hvb := (value_i m).2
        have HDL : Hid ((m.drop (valueL m).2).length ≤ 100000) := Lib.hid (by rw [List.length_drop]; omega)
        unfold vaV at HVA
        generalize m.drop (valueL m).2 = D at *
        generalize (valueL m).1 = v at *
        generalize (valueL m).2 = k2 at *
        go_wp2_with fail
        refine (HVA.out _).mono ?_; rintro e w2 ⟨rfl, rfl⟩
        go_wp2_with fail
        go_roundw
        case rel => exact ⟨D, pos + 1, { y with n := v }, rfl, rfl, HDL.out, by omega, (heap_setCell_same _ _ 4 _ _ _ HRB.out).trans rfl, (heap_setCell_other _ _ _ _ (by simp; omega)).trans HBX.out, ext_set HBL.out (by simp; omega) _, HFIN.out⟩
        case measure => rw [ivN_int, show ((pos : Int) + 1) = ((pos + 1 : Nat) : Int) from rfl, ivN_int]; omega
      by_cases h76 : c = 76
      · subst h76
        have hg : ((mk H)[pos]'h').toNat = 76 := hg
        have HFIN : Hid (rfoldP (H.drop (pos + 1)) ([], { y with name := m }) = F) := Lib.hid (by rw [← HFO.out, hst.out]; rfl)
        have hmin : min (m.length : Int) (m.length : Int) = m.length := Int.min_self _
        have hexl : (mk m).extract m.length m.length = mk [] := by rw [drop_mk, List.drop_length]
        go_wp2_with fail
        go_roundw
        case rel => exact ⟨[], pos + 1, { y with name := m }, rfl, rfl, Nat.zero_le _, by omega, (heap_setCell_same _ _ 5 _ _ _ HRB.out).trans rfl, (heap_setCell_other _ _ _ _ (by simp; omega)).trans HBX.out, ext_set HBL.out (by simp; omega) _, HFIN.out⟩
        case measure => rw [ivN_int, show ((pos : Int) + 1) = ((pos + 1 : Nat) : Int) from rfl, ivN_int]; omega
      have e68 := byte_ne (k := 68) (by decide) h68
      have e65 := byte_ne (k := 65) (by decide) h65
      have e66 := byte_ne (k := 66) (by decide) h66
      have e78 := byte_ne (k := 78) (by decide) h78
      have e83 := byte_ne (k := 83) (by decide) h83
      have e76 := byte_ne (k := 76) (by decide) h76
      have HSTO : Hid (rstepP (m, y) c = (m.drop 1, y)) := Lib.hid (by unfold rstepP; rw [if_neg h68, if_neg h65, if_neg h66, if_neg h78, if_neg h83, if_neg h76])
      clear h68 h65 h66 h78 h83 h76
      rw [← hg] at e68 e65 e66 e78 e83 e76
      clear hg
      have e68 : ((((mk H)[pos]'h').toNat : Int) == 68) = false := e68
      have e65 : ((((mk H)[pos]'h').toNat : Int) == 65) = false := e65
      have e66 : ((((mk H)[pos]'h').toNat : Int) == 66) = false := e66
      have e78 : ((((mk H)[pos]'h').toNat : Int) == 78) = false := e78
      have e83 : ((((mk H)[pos]'h').toNat : Int) == 83) = false := e83
      have e76 : ((((mk H)[pos]'h').toNat : Int) == 76) = false := e76
      obtain ⟨q, hq1, hq2, hq3, hq4⟩ := cut_len m 1
      have hq1 : min (1 : Int) (m.length : Int) = q := hq1
      have HDL : Hid ((m.drop 1).length ≤ 100000) := Lib.hid (by rw [List.length_drop]; omega)
      generalize m.drop 1 = D at *
      go_wp2_with fail
      go_roundw
      case rel => exact ⟨D, pos + 1, y, rfl, rfl, HDL.out, by omega, HRB.out, HBX.out, HBL.out, by rw [← HFO.out, hst.out, HSTO.out]⟩
      case measure => rw [ivN_int, show ((pos : Int) + 1) = ((pos + 1 : Nat) : Int) from rfl, ivN_int]; omega
    · have HR2 : Hid (rreadL op NM H s = y) := Lib.hid (by
        rw [HRR.out, ← HFO.out, List.drop_eq_nil_of_le (by omega)]; rfl)
      obtain ⟨⟨c0, c1, c2, c3, c4, c5⟩, g0, g1, g2, g3, g4, g5⟩ := six_at HBX.out
      obtain ⟨⟨d0, d1, d2, d3, d4, d5⟩, f0, f1, f2, f3, f4, f5⟩ := six_at HRB.out
      obtain ⟨wf, hwf, hhf, hbf⟩ := six_store HBX.out HBL.out (Nat.le_refl _) y
      have HWF := Lib.hid hwf
      have HHF := Lib.hid hhf
      have HBF := Lib.hid hbf
      clear hwf hhf hbf
      go_wp2_with fail
      refine bodyPost_w HWF.out ?_
      clear c0 c1 c2 c3 c4 c5 g0 g1 g2 g3 g4 g5 d0 d1 d2 d3 d4 d5 f0 f1 f2 f3 f4 f5
      obtain ⟨⟨c0, c1, c2, c3, c4, c5⟩, g0, g1, g2, g3, g4, g5⟩ := six_at HHF.out
      exact bodyPost_ret (v := inV y) (by simp [results, Tryd.results36, go_sem, inV, c0, c1, c2, c3, c4, c5]) rfl ⟨by rw [HR2.out], HBF.out⟩
end Go.Proofs.YtdfiaefdbalcoaaDoor
