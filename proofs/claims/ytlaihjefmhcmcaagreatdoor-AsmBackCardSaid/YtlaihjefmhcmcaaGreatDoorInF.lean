/- An instruction is read. -/
import Derived.Test.YtlaihjefmhcmcaaGreatDoorRows
import Derived.WalkKit
import Derived.ProofKit
import Derived.OpenShut
import Derived.WalkLawsBesides
import Derived.WalkSpells
import Derived.Outline
import Derived.Handy
import Derived.Lib.Hide
import Derived.Lib.OthersKept
import Derived.KernelRfl
import Derived.Test.YtlaihjefmhcmcaaGreatDoorInD
import Derived.Test.YtlaihjefmhcmcaaGreatDoorInE
namespace Go.Proofs.YtlaihjefmhcmcaaGreatDoor
open Go.ChangeShapes Go.WideShapes Go.ChangeAt Go.RowKit
set_option linter.unusedVariables false
theorem foldP_step (l : List UInt8) (i : Nat) (h : i < l.length) (st : List UInt8 × In) : foldP (l.drop i) st = foldP (l.drop (i + 1)) (stepP st (l[i]'h)) := by
  rw [drop_at l i h]; rfl
theorem cut_len (m : List UInt8) (n : Nat) : ∃ q : Nat, min (n : Int) (m.length : Int) = q ∧ 0 ≤ (q : Int) ∧ q ≤ m.length ∧ (mk m).extract q m.length = mk (m.drop n) := by
  by_cases h : n ≤ m.length
  · exact ⟨n, by omega, by omega, h, drop_mk _ _⟩
  · exact ⟨m.length, by omega, by omega, Nat.le_refl _, by rw [drop_mk, List.drop_length, List.drop_eq_nil_of_le (by omega)]⟩
set_option maxHeartbeats 8000000 in
set_option maxRecDepth 100000 in
theorem read_any (l H : List UInt8) (hl : l.length ≤ 100000) (HAS : ∀ c ∈ H, c.toNat < 128) (hH7 : H.length ≤ 7) (w : World) (hv : Env w) : Calls Tryz.prog 67 #[.string (mk l), .string (mk H)] w fun e w' => e = .returned (inV (readI l H)) ∧ Below w.heap.size w w' := by
  have HV := Lib.hid hv
  clear hv
  have hHs : (mk H).size = H.length := rfl
  go_enter Tryz.func67, Tryz.ntmps67
  go_wp2_with fail
  go_loopw [0] (fun s wr => ∃ (pos : Nat) (m : List UInt8) (y : In), s = .string (mk m) ∧ m.length ≤ 100000 ∧ pos ≤ H.length ∧ wr.heap[w.heap.size + 1]? = some (.cells (inC y) 46 (0, 0)) ∧ wr.heap[w.heap.size + 2]? = some (.stringIter (mk H) pos) ∧
      wr.heap[w.heap.size]? = some (.cells (inC zeroI) 46 (0, 0)) ∧ Below w.heap.size w wr ∧ foldP (H.drop pos) (m, y) = foldP H (l, zeroI)) (fun _ wr => H.length - wr.iterPos (w.heap.size + 2))
  case atStart =>
    refine ⟨0, l, zeroI, rfl, hl, Nat.zero_le _, ?_, ?_, ?_, ext_alloc (ext_alloc (ext_alloc (Below.refl _ _) _) _) _, rfl⟩
    · exact (Lib.alloc_old _ _ _ (by simp)).trans (heap_new' _ _ _ (by simp))
    · exact heap_new' _ _ _ (by simp)
    · exact (Lib.alloc_old _ _ _ (by simp; omega)).trans ((Lib.alloc_old _ _ _ (by simp)).trans (heap_new' _ _ _ rfl))
  case round =>
    obtain ⟨pos, m, y, rfl, hm, hp, hrb, hit, hbx, hbl, hfo⟩ := hrel
    have HFO := Lib.hid hfo
    have HIT := Lib.hid hit
    have hms : (mk m).size = m.length := rfl
    clear hfo
    by_cases hlt : pos < H.length
    · have hst := Lib.hid (fun st => foldP_step H pos hlt st)
      have hasc : (H[pos]'hlt).toNat < 128 := HAS _ (List.getElem_mem hlt)
      have hnx := fun ty => Lib.run_next_ascii_at (P := Tryz.prog) wr (w.heap.size + 2) (mk H) pos ty hit hlt hasc
      have hg : ((mk H)[pos]'hlt).toNat = (H[pos]'hlt).toNat := rfl
      have hit2 := Lib.hid (Lib.iterAt_heap wr _ (mk H) pos (pos + 1) hit)
      have hbl2 := Lib.below_iterAt hbl (k := w.heap.size + 2) (by omega) (mk H) (pos + 1)
      have hrb2 : (wr.iterAt (w.heap.size + 2) (mk H) (pos + 1)).heap[w.heap.size + 1]? = some (.cells (inC y) 46 (0, 0)) := (Lib.iterAt_other wr _ _ _ _ (by omega)).trans hrb
      have hbx2 : (wr.iterAt (w.heap.size + 2) (mk H) (pos + 1)).heap[w.heap.size]? = some (.cells (inC zeroI) 46 (0, 0)) := (Lib.iterAt_other wr _ _ _ _ (by omega)).trans hbx
      rw [hg] at hnx
      clear hg hit hrb hbx
      generalize H[pos]'hlt = c at *
      have hmeas : H.length - (pos + 1) < H.length - wr.iterPos (w.heap.size + 2) := by
        have a : wr.iterPos (w.heap.size + 2) = pos := by simp [World.iterPos, HIT.out]
        omega
      have HM := Lib.hid hmeas
      clear hmeas
      generalize hwi : wr.iterAt (w.heap.size + 2) (mk H) (pos + 1) = wi at *
      clear hwi
      have hsz : w.heap.size + 2 < wi.heap.size := (Array.getElem?_eq_some_iff.1 hit2.out).1
      have HE := Lib.hid (HV.out.ext hbl2)
      have HRB := Lib.hid hrb2
      have HBX := Lib.hid hbx2
      have HBL := Lib.hid hbl2
      have HNX := Lib.hid hnx
      clear hrb2 hbx2 hbl2 hnx
      by_cases h68 : c = 68
      · subst h68
        have hnx : ∀ ty, (Instr.next (.pointer (some ⟨w.heap.size + 2, 0, none⟩)) true ty).run Tryz.prog wr = .ok (.tuple #[.bool true, .int .i64 pos, .int .i32 68]) wi := HNX.out
        have HRD := Lib.hid (rdnum_any m 1 (by decide) hm wi HE.out)
        obtain ⟨q, hq1, hq2, hq3, hq4⟩ := cut_len m (rdNum m 1).2
        unfold rdV at HRD
        go_wp2_with fail
        refine HRD.out.mono ?_; rintro e w2 ⟨rfl, g2⟩
        have hrb3 := (g2.block (w.heap.size + 1) (by omega)).trans HRB.out
        have hit3 := Lib.hid ((g2.block (w.heap.size + 2) (by omega)).trans hit2.out)
        have hbx3 := Lib.hid ((g2.block w.heap.size (by omega)).trans HBX.out)
        have hbl3 := Lib.hid (ext_trans HBL.out g2)
        have hsz3 : w.heap.size + 2 < w2.heap.size := (Array.getElem?_eq_some_iff.1 hit3.out).1
        obtain ⟨⟨d0, d1, d2, d3, d4, d5⟩, f0, f1, f2, f3, f4, f5⟩ := six_at hrb3
        have HRB3 := Lib.hid hrb3
        clear hrb3 g2
        go_wp2_with fail
        go_roundw
        case rel => exact ⟨pos + 1, m.drop (rdNum m 1).2, { y with d := (rdNum m 1).1 }, rfl, by rw [List.length_drop]; omega, by omega, (heap_setCell_same _ _ 1 _ _ _ HRB3.out).trans rfl, (heap_setCell_other _ _ _ _ (by simp)).trans hit3.out, (heap_setCell_other _ _ _ _ (by simp)).trans hbx3.out, ext_set hbl3.out (by simp) _, by rw [← HFO.out, hst.out]; rfl⟩
        case measure => rw [iterPos_set _ _ _ _ (by simp), show World.iterPos _ (w.heap.size + 2) = pos + 1 from by simp [World.iterPos, hit3.out]]; exact HM.out
      by_cases h65 : c = 65
      · subst h65
        have hnx : ∀ ty, (Instr.next (.pointer (some ⟨w.heap.size + 2, 0, none⟩)) true ty).run Tryz.prog wr = .ok (.tuple #[.bool true, .int .i64 pos, .int .i32 65]) wi := HNX.out
        have HRD := Lib.hid (rdnum_any m 1 (by decide) hm wi HE.out)
        obtain ⟨q, hq1, hq2, hq3, hq4⟩ := cut_len m (rdNum m 1).2
        unfold rdV at HRD
        go_wp2_with fail
        refine HRD.out.mono ?_; rintro e w2 ⟨rfl, g2⟩
        have hrb3 := (g2.block (w.heap.size + 1) (by omega)).trans HRB.out
        have hit3 := Lib.hid ((g2.block (w.heap.size + 2) (by omega)).trans hit2.out)
        have hbx3 := Lib.hid ((g2.block w.heap.size (by omega)).trans HBX.out)
        have hbl3 := Lib.hid (ext_trans HBL.out g2)
        have hsz3 : w.heap.size + 2 < w2.heap.size := (Array.getElem?_eq_some_iff.1 hit3.out).1
        obtain ⟨⟨d0, d1, d2, d3, d4, d5⟩, f0, f1, f2, f3, f4, f5⟩ := six_at hrb3
        have HRB3 := Lib.hid hrb3
        clear hrb3 g2
        go_wp2_with fail
        go_roundw
        case rel => exact ⟨pos + 1, m.drop (rdNum m 1).2, { y with a := (rdNum m 1).1 }, rfl, by rw [List.length_drop]; omega, by omega, (heap_setCell_same _ _ 2 _ _ _ HRB3.out).trans rfl, (heap_setCell_other _ _ _ _ (by simp)).trans hit3.out, (heap_setCell_other _ _ _ _ (by simp)).trans hbx3.out, ext_set hbl3.out (by simp) _, by rw [← HFO.out, hst.out]; rfl⟩
        case measure => rw [iterPos_set _ _ _ _ (by simp), show World.iterPos _ (w.heap.size + 2) = pos + 1 from by simp [World.iterPos, hit3.out]]; exact HM.out
      by_cases h66 : c = 66
      · subst h66
        have hnx : ∀ ty, (Instr.next (.pointer (some ⟨w.heap.size + 2, 0, none⟩)) true ty).run Tryz.prog wr = .ok (.tuple #[.bool true, .int .i64 pos, .int .i32 66]) wi := HNX.out
        have HRD := Lib.hid (rdnum_any m 1 (by decide) hm wi HE.out)
        obtain ⟨q, hq1, hq2, hq3, hq4⟩ := cut_len m (rdNum m 1).2
        unfold rdV at HRD
        go_wp2_with fail
        refine HRD.out.mono ?_; rintro e w2 ⟨rfl, g2⟩
        have hrb3 := (g2.block (w.heap.size + 1) (by omega)).trans HRB.out
        have hit3 := Lib.hid ((g2.block (w.heap.size + 2) (by omega)).trans hit2.out)
        have hbx3 := Lib.hid ((g2.block w.heap.size (by omega)).trans HBX.out)
        have hbl3 := Lib.hid (ext_trans HBL.out g2)
        have hsz3 : w.heap.size + 2 < w2.heap.size := (Array.getElem?_eq_some_iff.1 hit3.out).1
        obtain ⟨⟨d0, d1, d2, d3, d4, d5⟩, f0, f1, f2, f3, f4, f5⟩ := six_at hrb3
        have HRB3 := Lib.hid hrb3
        clear hrb3 g2
        go_wp2_with fail
        go_roundw
        case rel => exact ⟨pos + 1, m.drop (rdNum m 1).2, { y with b := (rdNum m 1).1 }, rfl, by rw [List.length_drop]; omega, by omega, (heap_setCell_same _ _ 3 _ _ _ HRB3.out).trans rfl, (heap_setCell_other _ _ _ _ (by simp)).trans hit3.out, (heap_setCell_other _ _ _ _ (by simp)).trans hbx3.out, ext_set hbl3.out (by simp) _, by rw [← HFO.out, hst.out]; rfl⟩
        case measure => rw [iterPos_set _ _ _ _ (by simp), show World.iterPos _ (w.heap.size + 2) = pos + 1 from by simp [World.iterPos, hit3.out]]; exact HM.out
      by_cases h78 : c = 78
      · subst h78
        have hnx : ∀ ty, (Instr.next (.pointer (some ⟨w.heap.size + 2, 0, none⟩)) true ty).run Tryz.prog wr = .ok (.tuple #[.bool true, .int .i64 pos, .int .i32 78]) wi := HNX.out
        have HRD := Lib.hid (rdnum_any m 0 (by decide) hm wi HE.out)
        obtain ⟨q, hq1, hq2, hq3, hq4⟩ := cut_len m (rdNum m 0).2
        unfold rdV at HRD
        go_wp2_with fail
        refine HRD.out.mono ?_; rintro e w2 ⟨rfl, g2⟩
        have hrb3 := (g2.block (w.heap.size + 1) (by omega)).trans HRB.out
        have hit3 := Lib.hid ((g2.block (w.heap.size + 2) (by omega)).trans hit2.out)
        have hbx3 := Lib.hid ((g2.block w.heap.size (by omega)).trans HBX.out)
        have hbl3 := Lib.hid (ext_trans HBL.out g2)
        have hsz3 : w.heap.size + 2 < w2.heap.size := (Array.getElem?_eq_some_iff.1 hit3.out).1
        obtain ⟨⟨d0, d1, d2, d3, d4, d5⟩, f0, f1, f2, f3, f4, f5⟩ := six_at hrb3
        have HRB3 := Lib.hid hrb3
        clear hrb3 g2
        go_wp2_with fail
        go_roundw
        case rel => exact ⟨pos + 1, m.drop (rdNum m 0).2, { y with n := (rdNum m 0).1 }, rfl, by rw [List.length_drop]; omega, by omega, (heap_setCell_same _ _ 4 _ _ _ HRB3.out).trans rfl, (heap_setCell_other _ _ _ _ (by simp)).trans hit3.out, (heap_setCell_other _ _ _ _ (by simp)).trans hbx3.out, ext_set hbl3.out (by simp) _, by rw [← HFO.out, hst.out]; rfl⟩
        case measure => rw [iterPos_set _ _ _ _ (by simp), show World.iterPos _ (w.heap.size + 2) = pos + 1 from by simp [World.iterPos, hit3.out]]; exact HM.out
      by_cases h83 : c = 83
      · subst h83
        have hnx : ∀ ty, (Instr.next (.pointer (some ⟨w.heap.size + 2, 0, none⟩)) true ty).run Tryz.prog wr = .ok (.tuple #[.bool true, .int .i64 pos, .int .i32 83]) wi := HNX.out
        have HRD := Lib.hid (rdnum_any m 0 (by decide) hm wi HE.out)
        obtain ⟨q, hq1, hq2, hq3, hq4⟩ := cut_len m (rdNum m 0).2
        unfold rdV at HRD
        go_wp2_with fail
        refine HRD.out.mono ?_; rintro e w2 ⟨rfl, g2⟩
        have hrb3 := (g2.block (w.heap.size + 1) (by omega)).trans HRB.out
        have hit3 := Lib.hid ((g2.block (w.heap.size + 2) (by omega)).trans hit2.out)
        have hbx3 := Lib.hid ((g2.block w.heap.size (by omega)).trans HBX.out)
        have hbl3 := Lib.hid (ext_trans HBL.out g2)
        have hsz3 : w.heap.size + 2 < w2.heap.size := (Array.getElem?_eq_some_iff.1 hit3.out).1
        obtain ⟨⟨d0, d1, d2, d3, d4, d5⟩, f0, f1, f2, f3, f4, f5⟩ := six_at hrb3
        have HRB3 := Lib.hid hrb3
        clear hrb3 g2
        go_wp2_with fail
        go_roundw
        case rel => exact ⟨pos + 1, m.drop (rdNum m 0).2, { y with n := (rdNum m 0).1 }, rfl, by rw [List.length_drop]; omega, by omega, (heap_setCell_same _ _ 4 _ _ _ HRB3.out).trans rfl, (heap_setCell_other _ _ _ _ (by simp)).trans hit3.out, (heap_setCell_other _ _ _ _ (by simp)).trans hbx3.out, ext_set hbl3.out (by simp) _, by rw [← HFO.out, hst.out]; rfl⟩
        case measure => rw [iterPos_set _ _ _ _ (by simp), show World.iterPos _ (w.heap.size + 2) = pos + 1 from by simp [World.iterPos, hit3.out]]; exact HM.out
      by_cases h76 : c = 76
      · subst h76
        have hnx : ∀ ty, (Instr.next (.pointer (some ⟨w.heap.size + 2, 0, none⟩)) true ty).run Tryz.prog wr = .ok (.tuple #[.bool true, .int .i64 pos, .int .i32 76]) wi := HNX.out
        have HRD := Lib.hid (fun w => prefixL_any m w (by omega))
        obtain ⟨q, hq1, hq2, hq3, hq4⟩ := cut_len m (spanB inLabB m)
        have hsp := span_le inLabB m
        have hex2 : (mk m).extract 0 (spanB inLabB m) = mk (m.take (spanB inLabB m)) := take_mk _ _
        obtain ⟨⟨d0, d1, d2, d3, d4, d5⟩, f0, f1, f2, f3, f4, f5⟩ := six_at HRB.out
        have HFIN : Hid (foldP (H.drop (pos + 1)) (m.drop (spanB inLabB m), { y with name := m.take (spanB inLabB m) }) = foldP H (l, zeroI)) := Lib.hid (by rw [← HFO.out, hst.out]; rfl)
        have HDL : Hid ((m.drop (spanB inLabB m)).length ≤ 100000) := Lib.hid (by rw [List.length_drop]; omega)
        generalize m.take (spanB inLabB m) = T at *
        generalize m.drop (spanB inLabB m) = D at *
        generalize spanB inLabB m = n at *
        go_wp2_with fail
        refine (HRD.out _).mono ?_; rintro e w2 ⟨rfl, rfl⟩
        go_wp2_with fail
        go_roundw
        case rel => exact ⟨pos + 1, D, { y with name := T }, rfl, HDL.out, by omega, (heap_setCell_same _ _ 5 _ _ _ HRB.out).trans rfl, (heap_setCell_other _ _ _ _ (by simp)).trans hit2.out, (heap_setCell_other _ _ _ _ (by simp)).trans HBX.out, ext_set HBL.out (by simp) _, HFIN.out⟩
        case measure => rw [iterPos_set _ _ _ _ (by simp), show World.iterPos _ (w.heap.size + 2) = pos + 1 from by simp [World.iterPos, hit2.out]]; exact HM.out
      have e68 := byte_ne (k := 68) (by decide) h68
      have e65 := byte_ne (k := 65) (by decide) h65
      have e66 := byte_ne (k := 66) (by decide) h66
      have e78 := byte_ne (k := 78) (by decide) h78
      have e83 := byte_ne (k := 83) (by decide) h83
      have e76 := byte_ne (k := 76) (by decide) h76
      have HSTO : Hid (stepP (m, y) c = (m.drop 1, y)) := Lib.hid (by unfold stepP; rw [if_neg h68, if_neg h65, if_neg h66, if_neg h78, if_neg h83, if_neg h76])
      clear h68 h65 h66 h78 h83 h76
      have hnx := HNX.out
      generalize (c.toNat : Int) = r at *
      have e68 : (r == 68) = false := e68
      have e65 : (r == 65) = false := e65
      have e66 : (r == 66) = false := e66
      have e78 : (r == 78) = false := e78
      have e83 : (r == 83) = false := e83
      have e76 : (r == 76) = false := e76
      obtain ⟨q, hq1, hq2, hq3, hq4⟩ := cut_len m 1
      have hq1 : min (1 : Int) (m.length : Int) = q := hq1
      have HDL : Hid ((m.drop 1).length ≤ 100000) := Lib.hid (by rw [List.length_drop]; omega)
      generalize m.drop 1 = D at *
      go_wp2_with fail
      go_roundw
      case rel => exact ⟨pos + 1, D, y, rfl, HDL.out, by omega, HRB.out, hit2.out, HBX.out, HBL.out, by rw [← HFO.out, hst.out, HSTO.out]⟩
      case measure => rw [show World.iterPos _ (w.heap.size + 2) = pos + 1 from by simp [World.iterPos, hit2.out]]; exact HM.out
    · have hnx := fun ty => Lib.run_next_end_at (P := Tryz.prog) wr (w.heap.size + 2) (mk H) pos ty hit hlt
      obtain ⟨⟨c0, c1, c2, c3, c4, c5⟩, g0, g1, g2, g3, g4, g5⟩ := six_at hbx
      obtain ⟨⟨d0, d1, d2, d3, d4, d5⟩, f0, f1, f2, f3, f4, f5⟩ := six_at hrb
      have HR2 : Hid (readI l H = y) := Lib.hid (by
        unfold readI
        rw [← HFO.out, List.drop_eq_nil_of_le (by omega)]; rfl)
      obtain ⟨wf, hwf, hhf, hbf⟩ := six_store hbx hbl (Nat.le_refl _) y
      have HWF := Lib.hid hwf
      clear hrb hit hbx hwf
      go_wp2_with fail
      rw [HWF.out]
      clear c0 c1 c2 c3 c4 c5 g0 g1 g2 g3 g4 g5 d0 d1 d2 d3 d4 d5 f0 f1 f2 f3 f4 f5
      obtain ⟨⟨c0, c1, c2, c3, c4, c5⟩, g0, g1, g2, g3, g4, g5⟩ := six_at hhf
      exact bodyPost_ret (v := inV y) (by simp [results, Tryz.results67, go_sem, inV, c0, c1, c2, c3, c4, c5]) rfl ⟨by rw [HR2.out], hbf⟩
end Go.Proofs.YtlaihjefmhcmcaaGreatDoor
