/- The walk of InstrForth. -/
import Derived.Test.YtdfiaefdbalcoaaDoorRows
import Derived.WalkKit
import Derived.ProofKit
import Derived.OpenShut
import Derived.WalkLawsBesides
import Derived.WalkSpells
import Derived.Outline
import Derived.Handy
import Derived.Lib.Hide
import Derived.Lib.OthersKept
import Derived.KernelRfl
import Derived.RegionTactic
import Derived.BigRegion
import Derived.IntWalk
import Derived.Test.YtdfiaefdbalcoaaDoorInL
import Derived.Test.YtdfiaefdbalcoaaDoorInM
namespace Go.Proofs.YtdfiaefdbalcoaaDoor
open Go.ChangeShapes Go.WideShapes Go.ChangeAt Go.RowKit
set_option linter.unusedVariables false
set_option maxRecDepth 100000 in
set_option maxHeartbeats 16000000 in
theorem forth_walk (s : List UInt8) (raw : In) (at_ : Int) (M : List UInt8) (hs : s.length ≤ 140737488355328) (hraw : AllI raw) (hat : I64 at_) (hM : M.length ≤ 140737488355328) (w : World) (hv : Env w) : Calls Tryd.prog 5 #[.string (mk s), inV raw, .int .i64 at_, .string (mk M)] w fun e w' => e = .returned (.bool true) ∧ Below w.heap.size w w' := by
  have HV := Lib.hid hv
  have HAW := Lib.hid (fun w hv => awake_any w hv)
  have HFI := Lib.hid (fun w => fit_any raw hraw w)
  obtain ⟨hr, hn⟩ := fit_right raw hraw.2.2.2.2
  have HPR := Lib.hid (fun w hv => print_yes (fitL raw) w hn hr hv)
  have hlen := txt_len hr hn
  have HPARSE := Lib.hid (fun l hl w hv => parse_any l hl w hv)
  have HPRINT := Lib.hid (fun x w hn hr hv => print_yes x w hn hr hv)
  have HRIGHT := Lib.hid (fun x w hl => right_any x w hl)
  unfold inV at HFI HPR ⊢
  clear hr hn hv hraw
  generalize txtL (fitL raw) = T at *
  generalize fitL raw = x at *
  obtain ⟨k, hk, hk2⟩ := pickN_nat at_ (T.length + 1) (by omega)
  have HPI : Hid (∀ w, Calls Tryd.prog 20 #[.int .i64 at_, .int .i64 ((T.length : Int) + 1)] w fun e w' => e = .returned (.int .i64 (k : Int)) ∧ w = w') := Lib.hid (fun w => (pick_any at_ ((T.length : Int) + 1) w hat (by omega)).mono fun e w' h => ⟨by rw [← hk]; exact h.1, h.2⟩)
  have hkT : k ≤ T.length := by omega
  clear hk hk2 hat
  have hsT : (mk T).size = T.length := rfl
  have hsM : (mk M).size = M.length := rfl
  have hss : (mk s).size = s.length := rfl
  have x1 : (mk T).extract 0 k = mk (T.take k) := take_mk _ _
  obtain ⟨p, hp1, hp2, hp3, hp4⟩ := cut_len T (k + M.length)
  have x3 : (mk T).extract k T.length = mk (T.drop k) := drop_mk _ _
  have lA : (T.take k).length = k := by rw [List.length_take]; omega
  have lB : (T.drop k).length ≤ T.length := by rw [List.length_drop]; omega
  have lC : (T.drop (k + M.length)).length ≤ T.length := by rw [List.length_drop]; omega
  generalize T.take k = A at *
  generalize T.drop k = B at *
  generalize T.drop (k + M.length) = C at *
  have y1 : mk A ++ mk M = mk (A ++ M) := mk_app _ _
  have lAM : (A ++ M).length = k + M.length := by rw [List.length_append]; omega
  generalize A ++ M = AM at *
  have y2 : mk AM ++ mk C = mk (AM ++ C) := mk_app _ _
  have y3 : mk AM ++ mk B = mk (AM ++ B) := mk_app _ _
  have l2 : (AM ++ C).length ≤ 140737488356000 := by rw [List.length_append]; omega
  have l3 : (AM ++ B).length ≤ 140737488356000 := by rw [List.length_append]; omega
  generalize AM ++ C = Z2 at *
  generalize AM ++ B = Z3 at *
  have sA : (mk A).size = k := lA
  have sB : (mk B).size ≤ 300 := by show B.length ≤ _; omega
  have sC : (mk C).size ≤ 300 := by show C.length ≤ _; omega
  have sAM : (mk AM).size ≤ 140737488355700 := by show AM.length ≤ _; omega
  have hsum : (k : Int) + (M.length : Int) ≤ 140737488355700 := by omega
  have hp1' : min ((k : Int) + (M.length : Int)) (T.length : Int) = p := by rw [← hp1]; omega
  have hT1 : (T.length : Int) ≤ 300 := by omega
  have hk3 : (k : Int) ≤ (T.length : Int) := by omega
  have hp3' : (p : Int) ≤ (T.length : Int) := by omega
  clear hp1 lA lAM lB lC
  go_enter Tryd.func5, Tryd.ntmps5
  go_wp2_with fail
  refine (HAW.out _ (HV.out.ext (ext_alloc (Below.refl _ _) _))).mono ?_; rintro e w1 ⟨rfl, g1⟩
  have B1 := (g1.block w.heap.size (by simp)).trans (heap_new w _)
  have G1 := Lib.hid (ext_trans (ext_alloc (Below.refl w.heap.size w) _) g1)
  obtain ⟨⟨c0, c1, c2, c3, c4, c5⟩, _, _, _, _, _, _⟩ := six_at B1
  clear B1 g1
  go_wp2_with fail
  refine (HFI.out _).mono ?_; rintro e w2 ⟨rfl, g2⟩
  have G2 := Lib.hid (ext_trans G1.out g2)
  clear c0 c1 c2 c3 c4 c5 g2 G1
  go_wp2_with fail
  refine (HPR.out _ (HV.out.ext G2.out)).mono ?_; rintro e w3 ⟨rfl, g3⟩
  have G3 := Lib.hid (ext_trans G2.out g3)
  have HV3 := Lib.hid (HV.out.ext G3.out)
  clear g3 G2
  go_wp2_with fail
  refine (HPI.out _).mono ?_; rintro e w4 ⟨rfl, rfl⟩
  go_wp2_with fail
  go_region
  clear x1 x3 hp4 y1 y2 y3 sA sB sC sAM hsum hp1' hT1 hk3 hp3' hp2 hp3 hkT hlen hsT hsM
  go_wp2_with fail
  go_loopw [58] (fun v wr => ∃ j : Nat, v = .int .i64 j ∧ j ≤ 3 ∧ wr.heap[w3.heap.size]? = some (.cells #[.string (mk s), .string (mk Z2), .string (mk Z3)] 9 (0, 0)) ∧ Below w.heap.size w wr ∧ Env wr) (fun v wr => 3 - (match v with | .int _ k => k.toNat | _ => 0))
  case atStart => exact ⟨0, rfl, by decide, heap_new w3 _, ext_drew (ext_alloc G3.out _), HV3.out.ext (ext_drew (ext_alloc (Below.refl _ _) _))⟩
  case round =>
    obtain ⟨j, rfl, hj, hrow, hbl, hve⟩ := hrel
    have HROW := Lib.hid hrow
    have HBL := Lib.hid hbl
    have HVE := Lib.hid hve
    have lr := (Array.getElem?_eq_some_iff.1 hrow).1
    clear hrow hbl hve
    by_cases hj3 : j < 3
    · obtain ⟨l, hcell, hll⟩ : ∃ l : List UInt8, wr.cell? ⟨w3.heap.size, j, none⟩ = some (.string (mk l)) ∧ l.length ≤ 140737488356000 := by
        match j, hj3 with
        | 0, _ => exact ⟨s, (cell_row HROW.out 0).trans rfl, by omega⟩
        | 1, _ => exact ⟨Z2, (cell_row HROW.out 1).trans rfl, l2⟩
        | 2, _ => exact ⟨Z3, (cell_row HROW.out 2).trans rfl, l3⟩
      have hj3' : (j : Int) < 3 := by omega
      have hsl : (mk l).size = l.length := rfl
      have tl : (mk l).toList = l := mk_tl _
      clear l2 l3
      by_cases h200 : 200 < l.length
      · have h200' : 200 < (l.length : Int) := by omega
        go_wp2_with fail
        go_roundw
        case rel => exact ⟨j + 1, rfl, by omega, HROW.out, HBL.out, HVE.out⟩
        case measure => simp; omega
      · have h200' : (l.length : Int) ≤ 200 := by omega
        have HP := Lib.hid (HPARSE.out l (by omega) wr HVE.out)
        go_wp2_with fail
        refine HP.out.mono ?_; rintro e w5 ⟨hres, g5⟩
        have R5 := Lib.hid ((g5.block w3.heap.size lr).trans HROW.out)
        have B5 := Lib.hid (ext_trans HBL.out g5)
        have V5 := Lib.hid (HVE.out.ext g5)
        have lr5 := (Array.getElem?_eq_some_iff.1 R5.out).1
        clear g5 hcell HP HROW HBL HVE
        rcases hres with ⟨z, h1, h2, h3, rfl⟩ | ⟨h1, rfl⟩
        · have HPZ := Lib.hid (fun w hv => HPRINT.out z w h2 h1 hv)
          have HRZ := Lib.hid (fun w => HRIGHT.out z w (by have := (right_fits h1 h2).2.2.2.2; omega))
          rw [h1] at HRZ
          rw [h3] at HPZ
          clear h1 h2 h3 HPRINT HRIGHT HPARSE
          unfold inV at HPZ HRZ ⊢
          go_wp2_with fail
          refine (HPZ.out _ (V5.out.ext (ext_alloc (Below.refl _ _) _))).mono ?_; rintro e w6 ⟨rfl, g6⟩
          have X6 := (g6.block w5.heap.size (by simp)).trans (heap_new w5 _)
          have R6 := Lib.hid ((g6.block w3.heap.size (by simp; omega)).trans ((Lib.alloc_old _ _ _ lr5).trans R5.out))
          have B6 := Lib.hid (ext_trans (ext_alloc B5.out _) g6)
          have V6 := Lib.hid (V5.out.ext (ext_trans (ext_alloc (Below.refl _ _) _) g6))
          have lr6 := (Array.getElem?_eq_some_iff.1 R6.out).1
          obtain ⟨⟨c0, c1, c2, c3, c4, c5⟩, _, _, _, _, _, _⟩ := six_at X6
          clear g6 X6 R5 B5 V5
          go_wp2_with fail
          refine (HRZ.out _).mono ?_; rintro e w7 ⟨rfl, g7⟩
          have R7 := Lib.hid ((g7.block w3.heap.size lr6).trans R6.out)
          have B7 := Lib.hid (ext_trans B6.out g7)
          have V7 := Lib.hid (V6.out.ext g7)
          clear g7 c0 c1 c2 c3 c4 c5 R6 B6 V6
          go_wp2_with fail
          go_roundw
          case rel => exact ⟨j + 1, rfl, by omega, R7.out, B7.out, V7.out⟩
          case measure => simp; omega
        · clear h1
          have hZ : inV zeroI = .agg #[.int .i64 0, .int .i64 0, .int .i64 0, .int .i64 0, .int .i64 0, .string ⟨#[]⟩] := rfl
          rw [hZ]
          clear hZ
          go_wp2_with fail
          go_roundw
          case rel => exact ⟨j + 1, rfl, by omega, (Lib.alloc_old _ _ _ lr5).trans R5.out, ext_alloc B5.out _, V5.out.ext (ext_alloc (Below.refl _ _) _)⟩
          case measure => simp; omega
    · obtain rfl : j = 3 := by omega
      go_wp2_with fail
      go_ret
      exact ⟨rfl, HBL.out⟩
end Go.Proofs.YtdfiaefdbalcoaaDoor
