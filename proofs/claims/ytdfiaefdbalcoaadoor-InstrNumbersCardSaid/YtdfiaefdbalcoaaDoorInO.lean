/- The walk of InstrNumbers. -/
import Derived.Test.YtdfiaefdbalcoaaDoorRows
import Derived.WalkKit
import Derived.ProofKit
import Derived.OpenShut
import Derived.WalkLawsBesides
import Derived.WalkSpells
import Derived.Outline
import Derived.Handy
import Derived.Lib.Hide
import Derived.Lib.OthersKept
import Derived.KernelRfl
import Derived.Test.YtdfiaefdbalcoaaDoorInL
import Derived.Test.YtdfiaefdbalcoaaDoorInM
namespace Go.Proofs.YtdfiaefdbalcoaaDoor
open Go.ChangeShapes Go.WideShapes Go.ChangeAt Go.RowKit
set_option linter.unusedVariables false
theorem li_right (x n : Int) (hx : regB x = true) : rightB ⟨16, x, 0, 0, n, []⟩ = true := by
  rw [right_eq]; unfold rightE
  have h : hasL 16 = [68, 44, 32, 78] := by kernel_rfl
  have h2 : isOp 16 = true := by kernel_rfl
  rw [h, h2]; simp [hx]
theorem r18 (x y n : Int) (hx : regB x = true) (hy : regB y = true) : rightB ⟨18, x, y, 0, n, []⟩ = smallB n := by
  rw [right_eq]; unfold rightE
  have h : hasL 18 = [68, 44, 32, 65, 44, 32, 83] := by kernel_rfl
  have h2 : isOp 18 = true := by kernel_rfl
  rw [h, h2]; simp [hx, hy]
theorem r19 (x y n : Int) (hx : regB x = true) (hy : regB y = true) : rightB ⟨19, x, y, 0, n, []⟩ = smallB n := by
  rw [right_eq]; unfold rightE
  have h : hasL 19 = [68, 44, 32, 83, 40, 65, 41] := by kernel_rfl
  have h2 : isOp 19 = true := by kernel_rfl
  rw [h, h2]; simp [hx, hy]
theorem r20 (x y n : Int) (hx : regB x = true) (hy : regB y = true) : rightB ⟨20, 0, y, x, n, []⟩ = smallB n := by
  rw [right_eq]; unfold rightE
  have h : hasL 20 = [66, 44, 32, 83, 40, 65, 41] := by kernel_rfl
  have h2 : isOp 20 = true := by kernel_rfl
  rw [h, h2]; simp [hx, hy]
theorem none_empty : ∀ x, rightB x = true → I64 x.n → txtL x ≠ [] := fun x h hn e => by
  have := txt_long h hn
  rw [e] at this
  simp at this
set_option maxRecDepth 100000 in
set_option maxHeartbeats 16000000 in
theorem numbers_walk (n d a : Int) (hn : I64 n) (hd : I64 d) (ha : I64 a) (w : World) (hv : Env w) : Calls Tryd.prog 7 #[.int .i64 n, .int .i64 d, .int .i64 a] w fun e w' => e = .returned (.bool true) ∧ Below w.heap.size w w' := by
  have HV := Lib.hid hv
  have HAW := Lib.hid (fun w hv => awake_any w hv)
  have HD := Lib.hid (fun w => pick_any d 32 w hd (by decide))
  have HA := Lib.hid (fun w => pick_any a 32 w ha (by decide))
  have hx := pick_reg d
  have hy := pick_reg a
  clear hv hd ha
  generalize pickN d 32 = x at *
  generalize pickN a 32 = y at *
  have HP0 := Lib.hid (fun w hv => print_yes ⟨16, x, 0, 0, n, []⟩ w hn (li_right x n hx) hv)
  have HQ0 := Lib.hid (fun w hv => parse_good ⟨16, x, 0, 0, n, []⟩ (li_right x n hx) hn w hv)
  unfold inV at HP0 HQ0
  simp only [show mk [] = (⟨#[]⟩ : ByteArray) from rfl] at HP0 HQ0
  generalize txtL ⟨16, x, 0, 0, n, []⟩ = T0 at *
  have hsm : (n < -2047 ∧ smallB n = false) ∨ (2047 < n ∧ smallB n = false) ∨ ((-2047 ≤ n ∧ n ≤ 2047) ∧ smallB n = true) := by unfold smallB; simp only [decide_eq_true_iff, decide_eq_false_iff_not]; omega
  have k18 := r18 x y n hx hy
  have k19 := r19 x y n hx hy
  have k20 := r20 x y n hx hy
  have HR18 := Lib.hid (fun w => right_any ⟨18, x, y, 0, n, []⟩ w (by simp))
  have HR19 := Lib.hid (fun w => right_any ⟨19, x, y, 0, n, []⟩ w (by simp))
  have HR20 := Lib.hid (fun w => right_any ⟨20, 0, y, x, n, []⟩ w (by simp))
  rw [k18] at HR18
  rw [k19] at HR19
  rw [k20] at HR20
  unfold inV at HR18 HR19 HR20
  simp only [show mk [] = (⟨#[]⟩ : ByteArray) from rfl] at HR18 HR19 HR20
  rcases hsm with ⟨hs, hb⟩ | ⟨hs, hb⟩ | ⟨hs, hb⟩
  · rw [hb] at HR18 HR19 HR20 k18 k19 k20
    have HP18 := Lib.hid (fun w (_ : Env w) => print_no ⟨18, x, y, 0, n, []⟩ w (by simp) k18)
    unfold inV at HP18
    simp only [show mk [] = (⟨#[]⟩ : ByteArray) from rfl] at HP18
    have HP19 := Lib.hid (fun w (_ : Env w) => print_no ⟨19, x, y, 0, n, []⟩ w (by simp) k19)
    unfold inV at HP19
    simp only [show mk [] = (⟨#[]⟩ : ByteArray) from rfl] at HP19
    have HP20 := Lib.hid (fun w (_ : Env w) => print_no ⟨20, 0, y, x, n, []⟩ w (by simp) k20)
    unfold inV at HP20
    simp only [show mk [] = (⟨#[]⟩ : ByteArray) from rfl] at HP20
    have HQ := Lib.hid (fun w hv => parse_none [] (by simp) none_empty w hv)
    unfold inV zeroI at HQ
    simp only [show mk [] = (⟨#[]⟩ : ByteArray) from rfl] at HQ
    clear k18 k19 k20 hb hx hy
    go_enter Tryd.func7, Tryd.ntmps7
    go_wp2_with fail
    refine (HAW.out _ HV.out).mono ?_; rintro e w1 ⟨rfl, g1⟩
    have HV1 := Lib.hid (HV.out.ext g1)
    go_wp2_with fail
    refine (HD.out _).mono ?_; rintro e w1' ⟨rfl, rfl⟩
    go_wp2_with fail
    refine (HA.out _).mono ?_; rintro e w1' ⟨rfl, rfl⟩
    go_wp2_with fail
    refine (HP0.out _ (HV1.out.ext (ext_alloc (Below.refl _ _) _))).mono ?_; rintro e w2 ⟨rfl, g2⟩
    have X2 := Lib.hid ((g2.block w1.heap.size (by simp)).trans (heap_new w1 _))
    have HV2 := Lib.hid (HV1.out.ext (ext_trans (ext_alloc (Below.refl _ _) _) g2))
    have l2 := (Array.getElem?_eq_some_iff.1 X2.out).1
    have G2 := Lib.hid (ext_trans (ext_alloc g1 _) g2)
    clear g1 g2 HV1
    go_wp2_with fail
    refine (HQ0.out _ HV2.out).mono ?_; rintro e w3 ⟨rfl, g3⟩
    have X3 := (g3.block w1.heap.size l2).trans X2.out
    have l3 := (Array.getElem?_eq_some_iff.1 X3).1
    have HV3 := Lib.hid (HV2.out.ext (ext_trans g3 (ext_alloc (Below.refl _ _) (.cells #[.int .i64 16, .int .i64 x, .int .i64 0, .int .i64 0, .int .i64 n, .string ⟨#[]⟩] 23))))
    have G3 := Lib.hid (ext_alloc (ext_trans G2.out g3) (.cells #[.int .i64 16, .int .i64 x, .int .i64 0, .int .i64 0, .int .i64 n, .string ⟨#[]⟩] 23))
    obtain ⟨⟨c0, c1, c2, c3, c4, c5⟩, _, _, _, _, _, _⟩ := six_at X3
    clear X3 X2 g3 G2 HV2
    go_wp2_with fail
    clear c0 c1 c2 c3 c4 c5
    go_loopw [75] (fun v wr => ∃ k : Nat, v = .int .i64 k ∧ k ≤ 3 ∧ wr.heap[w3.heap.size + 1]? = some (.cells #[.int .i64 18, .int .i64 x, .int .i64 y, .int .i64 0, .int .i64 n, .string ⟨#[]⟩, .int .i64 19, .int .i64 x, .int .i64 y, .int .i64 0, .int .i64 n, .string ⟨#[]⟩, .int .i64 20, .int .i64 0, .int .i64 y, .int .i64 x, .int .i64 n, .string ⟨#[]⟩] 23 (0, 0)) ∧ Below w.heap.size w wr ∧ Env wr) (fun v wr => 3 - (match v with | .int _ k => k.toNat | _ => 0))
    case atStart => exact ⟨0, rfl, by decide, heap_new' _ _ _ (by simp), ext_alloc G3.out _, HV3.out.ext (ext_alloc (Below.refl _ _) _)⟩
    case round =>
      obtain ⟨k, rfl, hk, hrow, hbl, hve⟩ := hrel
      have HROW := Lib.hid hrow
      have HBL := Lib.hid hbl
      have HVE := Lib.hid hve
      have lr := (Array.getElem?_eq_some_iff.1 hrow).1
      clear hrow hbl hve
      have hk4 : k = 0 ∨ k = 1 ∨ k = 2 ∨ k = 3 := by omega
      rcases hk4 with rfl | rfl | rfl | rfl
      · have e0 : wr.cell? ⟨w3.heap.size + 1, 0, none⟩ = some (.int .i64 18) := (cell_row HROW.out 0).trans rfl
        have e1 : wr.cell? ⟨w3.heap.size + 1, 1, none⟩ = some (.int .i64 x) := (cell_row HROW.out 1).trans rfl
        have e2 : wr.cell? ⟨w3.heap.size + 1, 2, none⟩ = some (.int .i64 y) := (cell_row HROW.out 2).trans rfl
        have e3 : wr.cell? ⟨w3.heap.size + 1, 3, none⟩ = some (.int .i64 0) := (cell_row HROW.out 3).trans rfl
        have e4 : wr.cell? ⟨w3.heap.size + 1, 4, none⟩ = some (.int .i64 n) := (cell_row HROW.out 4).trans rfl
        have e5 : wr.cell? ⟨w3.heap.size + 1, 5, none⟩ = some (.string ⟨#[]⟩) := (cell_row HROW.out 5).trans rfl
        go_wp2_with fail
        refine (HP18.out _ (HVE.out.ext (ext_alloc (Below.refl _ _) _))).mono ?_; rintro e w4 ⟨rfl, g4⟩
        have hv4 := Lib.hid (HVE.out.ext (ext_trans (ext_alloc (Below.refl _ _) _) g4))
        have B4 := Lib.hid (ext_trans (ext_alloc HBL.out _) g4)
        have X4 := Lib.hid ((g4.block wr.heap.size (by simp)).trans (heap_new wr _))
        have R4 := Lib.hid ((g4.block (w3.heap.size + 1) (by simp; omega)).trans ((Lib.alloc_old _ _ _ lr).trans HROW.out))
        have l4 := (Array.getElem?_eq_some_iff.1 X4.out).1
        have lr4 := (Array.getElem?_eq_some_iff.1 R4.out).1
        clear e0 e1 e2 e3 e4 e5 g4 HROW HBL
        go_wp2_with fail
        refine (HQ.out _ hv4.out).mono ?_; rintro e w5 ⟨rfl, g5⟩
        have B5 := Lib.hid (ext_alloc (ext_trans B4.out g5) (.cells #[.int .i64 0, .int .i64 0, .int .i64 0, .int .i64 0, .int .i64 0, .string ⟨#[]⟩] 23))
        have X5 := (g5.block wr.heap.size l4).trans X4.out
        have R5 := Lib.hid ((g5.block (w3.heap.size + 1) lr4).trans R4.out)
        have l5 := (Array.getElem?_eq_some_iff.1 X5).1
        have lr5 := (Array.getElem?_eq_some_iff.1 R5.out).1
        have hv5 := Lib.hid (hv4.out.ext (ext_trans g5 (ext_alloc (Below.refl _ _) (.cells #[.int .i64 0, .int .i64 0, .int .i64 0, .int .i64 0, .int .i64 0, .string ⟨#[]⟩] 23))))
        obtain ⟨⟨c0, c1, c2, c3, c4, c5⟩, _, _, _, _, _, _⟩ := six_at X5
        clear g5 B4 X4 R4 hv4
        go_wp2_with fail
        refine (HR18.out _).mono ?_; rintro e w6 ⟨rfl, g6⟩
        have B6 := Lib.hid (ext_trans B5.out g6)
        have X6 := (g6.block wr.heap.size (by simp; omega)).trans ((Lib.alloc_old _ _ _ l5).trans X5)
        have Y6 := (g6.block w5.heap.size (by simp)).trans (heap_new w5 _)
        have R6 := Lib.hid ((g6.block (w3.heap.size + 1) (by simp; omega)).trans ((Lib.alloc_old _ _ _ lr5).trans R5.out))
        have hv6 := Lib.hid (hv5.out.ext g6)
        clear c0 c1 c2 c3 c4 c5
        obtain ⟨⟨c0, c1, c2, c3, c4, c5⟩, _, _, _, _, _, _⟩ := six_at X6
        obtain ⟨⟨d0, d1, d2, d3, d4, d5⟩, _, _, _, _, _, _⟩ := six_at Y6
        clear g6 X5 X6 Y6 B5 R5 hv5
        go_wp2_with fail
        go_roundw
        case rel => exact ⟨1, rfl, by decide, R6.out, B6.out, hv6.out⟩
        case measure => decide
      · have e0 : wr.cell? ⟨w3.heap.size + 1, 6, none⟩ = some (.int .i64 19) := (cell_row HROW.out 6).trans rfl
        have e1 : wr.cell? ⟨w3.heap.size + 1, 7, none⟩ = some (.int .i64 x) := (cell_row HROW.out 7).trans rfl
        have e2 : wr.cell? ⟨w3.heap.size + 1, 8, none⟩ = some (.int .i64 y) := (cell_row HROW.out 8).trans rfl
        have e3 : wr.cell? ⟨w3.heap.size + 1, 9, none⟩ = some (.int .i64 0) := (cell_row HROW.out 9).trans rfl
        have e4 : wr.cell? ⟨w3.heap.size + 1, 10, none⟩ = some (.int .i64 n) := (cell_row HROW.out 10).trans rfl
        have e5 : wr.cell? ⟨w3.heap.size + 1, 11, none⟩ = some (.string ⟨#[]⟩) := (cell_row HROW.out 11).trans rfl
        go_wp2_with fail
        refine (HP19.out _ (HVE.out.ext (ext_alloc (Below.refl _ _) _))).mono ?_; rintro e w4 ⟨rfl, g4⟩
        have hv4 := Lib.hid (HVE.out.ext (ext_trans (ext_alloc (Below.refl _ _) _) g4))
        have B4 := Lib.hid (ext_trans (ext_alloc HBL.out _) g4)
        have X4 := Lib.hid ((g4.block wr.heap.size (by simp)).trans (heap_new wr _))
        have R4 := Lib.hid ((g4.block (w3.heap.size + 1) (by simp; omega)).trans ((Lib.alloc_old _ _ _ lr).trans HROW.out))
        have l4 := (Array.getElem?_eq_some_iff.1 X4.out).1
        have lr4 := (Array.getElem?_eq_some_iff.1 R4.out).1
        clear e0 e1 e2 e3 e4 e5 g4 HROW HBL
        go_wp2_with fail
        refine (HQ.out _ hv4.out).mono ?_; rintro e w5 ⟨rfl, g5⟩
        have B5 := Lib.hid (ext_alloc (ext_trans B4.out g5) (.cells #[.int .i64 0, .int .i64 0, .int .i64 0, .int .i64 0, .int .i64 0, .string ⟨#[]⟩] 23))
        have X5 := (g5.block wr.heap.size l4).trans X4.out
        have R5 := Lib.hid ((g5.block (w3.heap.size + 1) lr4).trans R4.out)
        have l5 := (Array.getElem?_eq_some_iff.1 X5).1
        have lr5 := (Array.getElem?_eq_some_iff.1 R5.out).1
        have hv5 := Lib.hid (hv4.out.ext (ext_trans g5 (ext_alloc (Below.refl _ _) (.cells #[.int .i64 0, .int .i64 0, .int .i64 0, .int .i64 0, .int .i64 0, .string ⟨#[]⟩] 23))))
        obtain ⟨⟨c0, c1, c2, c3, c4, c5⟩, _, _, _, _, _, _⟩ := six_at X5
        clear g5 B4 X4 R4 hv4
        go_wp2_with fail
        refine (HR19.out _).mono ?_; rintro e w6 ⟨rfl, g6⟩
        have B6 := Lib.hid (ext_trans B5.out g6)
        have X6 := (g6.block wr.heap.size (by simp; omega)).trans ((Lib.alloc_old _ _ _ l5).trans X5)
        have Y6 := (g6.block w5.heap.size (by simp)).trans (heap_new w5 _)
        have R6 := Lib.hid ((g6.block (w3.heap.size + 1) (by simp; omega)).trans ((Lib.alloc_old _ _ _ lr5).trans R5.out))
        have hv6 := Lib.hid (hv5.out.ext g6)
        clear c0 c1 c2 c3 c4 c5
        obtain ⟨⟨c0, c1, c2, c3, c4, c5⟩, _, _, _, _, _, _⟩ := six_at X6
        obtain ⟨⟨d0, d1, d2, d3, d4, d5⟩, _, _, _, _, _, _⟩ := six_at Y6
        clear g6 X5 X6 Y6 B5 R5 hv5
        go_wp2_with fail
        go_roundw
        case rel => exact ⟨2, rfl, by decide, R6.out, B6.out, hv6.out⟩
        case measure => decide
      · have e0 : wr.cell? ⟨w3.heap.size + 1, 12, none⟩ = some (.int .i64 20) := (cell_row HROW.out 12).trans rfl
        have e1 : wr.cell? ⟨w3.heap.size + 1, 13, none⟩ = some (.int .i64 0) := (cell_row HROW.out 13).trans rfl
        have e2 : wr.cell? ⟨w3.heap.size + 1, 14, none⟩ = some (.int .i64 y) := (cell_row HROW.out 14).trans rfl
        have e3 : wr.cell? ⟨w3.heap.size + 1, 15, none⟩ = some (.int .i64 x) := (cell_row HROW.out 15).trans rfl
        have e4 : wr.cell? ⟨w3.heap.size + 1, 16, none⟩ = some (.int .i64 n) := (cell_row HROW.out 16).trans rfl
        have e5 : wr.cell? ⟨w3.heap.size + 1, 17, none⟩ = some (.string ⟨#[]⟩) := (cell_row HROW.out 17).trans rfl
        go_wp2_with fail
        refine (HP20.out _ (HVE.out.ext (ext_alloc (Below.refl _ _) _))).mono ?_; rintro e w4 ⟨rfl, g4⟩
        have hv4 := Lib.hid (HVE.out.ext (ext_trans (ext_alloc (Below.refl _ _) _) g4))
        have B4 := Lib.hid (ext_trans (ext_alloc HBL.out _) g4)
        have X4 := Lib.hid ((g4.block wr.heap.size (by simp)).trans (heap_new wr _))
        have R4 := Lib.hid ((g4.block (w3.heap.size + 1) (by simp; omega)).trans ((Lib.alloc_old _ _ _ lr).trans HROW.out))
        have l4 := (Array.getElem?_eq_some_iff.1 X4.out).1
        have lr4 := (Array.getElem?_eq_some_iff.1 R4.out).1
        clear e0 e1 e2 e3 e4 e5 g4 HROW HBL
        go_wp2_with fail
        refine (HQ.out _ hv4.out).mono ?_; rintro e w5 ⟨rfl, g5⟩
        have B5 := Lib.hid (ext_alloc (ext_trans B4.out g5) (.cells #[.int .i64 0, .int .i64 0, .int .i64 0, .int .i64 0, .int .i64 0, .string ⟨#[]⟩] 23))
        have X5 := (g5.block wr.heap.size l4).trans X4.out
        have R5 := Lib.hid ((g5.block (w3.heap.size + 1) lr4).trans R4.out)
        have l5 := (Array.getElem?_eq_some_iff.1 X5).1
        have lr5 := (Array.getElem?_eq_some_iff.1 R5.out).1
        have hv5 := Lib.hid (hv4.out.ext (ext_trans g5 (ext_alloc (Below.refl _ _) (.cells #[.int .i64 0, .int .i64 0, .int .i64 0, .int .i64 0, .int .i64 0, .string ⟨#[]⟩] 23))))
        obtain ⟨⟨c0, c1, c2, c3, c4, c5⟩, _, _, _, _, _, _⟩ := six_at X5
        clear g5 B4 X4 R4 hv4
        go_wp2_with fail
        refine (HR20.out _).mono ?_; rintro e w6 ⟨rfl, g6⟩
        have B6 := Lib.hid (ext_trans B5.out g6)
        have X6 := (g6.block wr.heap.size (by simp; omega)).trans ((Lib.alloc_old _ _ _ l5).trans X5)
        have Y6 := (g6.block w5.heap.size (by simp)).trans (heap_new w5 _)
        have R6 := Lib.hid ((g6.block (w3.heap.size + 1) (by simp; omega)).trans ((Lib.alloc_old _ _ _ lr5).trans R5.out))
        have hv6 := Lib.hid (hv5.out.ext g6)
        clear c0 c1 c2 c3 c4 c5
        obtain ⟨⟨c0, c1, c2, c3, c4, c5⟩, _, _, _, _, _, _⟩ := six_at X6
        obtain ⟨⟨d0, d1, d2, d3, d4, d5⟩, _, _, _, _, _, _⟩ := six_at Y6
        clear g6 X5 X6 Y6 B5 R5 hv5
        go_wp2_with fail
        go_roundw
        case rel => exact ⟨3, rfl, by decide, R6.out, B6.out, hv6.out⟩
        case measure => decide
      · go_wp2_with fail
        go_ret
        exact ⟨rfl, HBL.out⟩
  · have hlo : -2047 ≤ n := by omega
    have hle : decide (n ≤ 2047) = false := decide_eq_false (by omega)
    rw [hb] at HR18 HR19 HR20 k18 k19 k20
    have HP18 := Lib.hid (fun w (_ : Env w) => print_no ⟨18, x, y, 0, n, []⟩ w (by simp) k18)
    unfold inV at HP18
    simp only [show mk [] = (⟨#[]⟩ : ByteArray) from rfl] at HP18
    have HP19 := Lib.hid (fun w (_ : Env w) => print_no ⟨19, x, y, 0, n, []⟩ w (by simp) k19)
    unfold inV at HP19
    simp only [show mk [] = (⟨#[]⟩ : ByteArray) from rfl] at HP19
    have HP20 := Lib.hid (fun w (_ : Env w) => print_no ⟨20, 0, y, x, n, []⟩ w (by simp) k20)
    unfold inV at HP20
    simp only [show mk [] = (⟨#[]⟩ : ByteArray) from rfl] at HP20
    have HQ := Lib.hid (fun w hv => parse_none [] (by simp) none_empty w hv)
    unfold inV zeroI at HQ
    simp only [show mk [] = (⟨#[]⟩ : ByteArray) from rfl] at HQ
    clear k18 k19 k20 hb hx hy
    go_enter Tryd.func7, Tryd.ntmps7
    go_wp2_with fail
    refine (HAW.out _ HV.out).mono ?_; rintro e w1 ⟨rfl, g1⟩
    have HV1 := Lib.hid (HV.out.ext g1)
    go_wp2_with fail
    refine (HD.out _).mono ?_; rintro e w1' ⟨rfl, rfl⟩
    go_wp2_with fail
    refine (HA.out _).mono ?_; rintro e w1' ⟨rfl, rfl⟩
    go_wp2_with fail
    refine (HP0.out _ (HV1.out.ext (ext_alloc (Below.refl _ _) _))).mono ?_; rintro e w2 ⟨rfl, g2⟩
    have X2 := Lib.hid ((g2.block w1.heap.size (by simp)).trans (heap_new w1 _))
    have HV2 := Lib.hid (HV1.out.ext (ext_trans (ext_alloc (Below.refl _ _) _) g2))
    have l2 := (Array.getElem?_eq_some_iff.1 X2.out).1
    have G2 := Lib.hid (ext_trans (ext_alloc g1 _) g2)
    clear g1 g2 HV1
    go_wp2_with fail
    refine (HQ0.out _ HV2.out).mono ?_; rintro e w3 ⟨rfl, g3⟩
    have X3 := (g3.block w1.heap.size l2).trans X2.out
    have l3 := (Array.getElem?_eq_some_iff.1 X3).1
    have HV3 := Lib.hid (HV2.out.ext (ext_trans g3 (ext_alloc (Below.refl _ _) (.cells #[.int .i64 16, .int .i64 x, .int .i64 0, .int .i64 0, .int .i64 n, .string ⟨#[]⟩] 23))))
    have G3 := Lib.hid (ext_alloc (ext_trans G2.out g3) (.cells #[.int .i64 16, .int .i64 x, .int .i64 0, .int .i64 0, .int .i64 n, .string ⟨#[]⟩] 23))
    obtain ⟨⟨c0, c1, c2, c3, c4, c5⟩, _, _, _, _, _, _⟩ := six_at X3
    clear X3 X2 g3 G2 HV2
    go_wp2_with fail
    clear c0 c1 c2 c3 c4 c5
    go_loopw [75] (fun v wr => ∃ k : Nat, v = .int .i64 k ∧ k ≤ 3 ∧ wr.heap[w3.heap.size + 1]? = some (.cells #[.int .i64 18, .int .i64 x, .int .i64 y, .int .i64 0, .int .i64 n, .string ⟨#[]⟩, .int .i64 19, .int .i64 x, .int .i64 y, .int .i64 0, .int .i64 n, .string ⟨#[]⟩, .int .i64 20, .int .i64 0, .int .i64 y, .int .i64 x, .int .i64 n, .string ⟨#[]⟩] 23 (0, 0)) ∧ Below w.heap.size w wr ∧ Env wr) (fun v wr => 3 - (match v with | .int _ k => k.toNat | _ => 0))
    case atStart => exact ⟨0, rfl, by decide, heap_new' _ _ _ (by simp), ext_alloc G3.out _, HV3.out.ext (ext_alloc (Below.refl _ _) _)⟩
    case round =>
      obtain ⟨k, rfl, hk, hrow, hbl, hve⟩ := hrel
      have HROW := Lib.hid hrow
      have HBL := Lib.hid hbl
      have HVE := Lib.hid hve
      have lr := (Array.getElem?_eq_some_iff.1 hrow).1
      clear hrow hbl hve
      have hk4 : k = 0 ∨ k = 1 ∨ k = 2 ∨ k = 3 := by omega
      rcases hk4 with rfl | rfl | rfl | rfl
      · have e0 : wr.cell? ⟨w3.heap.size + 1, 0, none⟩ = some (.int .i64 18) := (cell_row HROW.out 0).trans rfl
        have e1 : wr.cell? ⟨w3.heap.size + 1, 1, none⟩ = some (.int .i64 x) := (cell_row HROW.out 1).trans rfl
        have e2 : wr.cell? ⟨w3.heap.size + 1, 2, none⟩ = some (.int .i64 y) := (cell_row HROW.out 2).trans rfl
        have e3 : wr.cell? ⟨w3.heap.size + 1, 3, none⟩ = some (.int .i64 0) := (cell_row HROW.out 3).trans rfl
        have e4 : wr.cell? ⟨w3.heap.size + 1, 4, none⟩ = some (.int .i64 n) := (cell_row HROW.out 4).trans rfl
        have e5 : wr.cell? ⟨w3.heap.size + 1, 5, none⟩ = some (.string ⟨#[]⟩) := (cell_row HROW.out 5).trans rfl
        go_wp2_with fail
        refine (HP18.out _ (HVE.out.ext (ext_alloc (Below.refl _ _) _))).mono ?_; rintro e w4 ⟨rfl, g4⟩
        have hv4 := Lib.hid (HVE.out.ext (ext_trans (ext_alloc (Below.refl _ _) _) g4))
        have B4 := Lib.hid (ext_trans (ext_alloc HBL.out _) g4)
        have X4 := Lib.hid ((g4.block wr.heap.size (by simp)).trans (heap_new wr _))
        have R4 := Lib.hid ((g4.block (w3.heap.size + 1) (by simp; omega)).trans ((Lib.alloc_old _ _ _ lr).trans HROW.out))
        have l4 := (Array.getElem?_eq_some_iff.1 X4.out).1
        have lr4 := (Array.getElem?_eq_some_iff.1 R4.out).1
        clear e0 e1 e2 e3 e4 e5 g4 HROW HBL
        go_wp2_with fail
        refine (HQ.out _ hv4.out).mono ?_; rintro e w5 ⟨rfl, g5⟩
        have B5 := Lib.hid (ext_alloc (ext_trans B4.out g5) (.cells #[.int .i64 0, .int .i64 0, .int .i64 0, .int .i64 0, .int .i64 0, .string ⟨#[]⟩] 23))
        have X5 := (g5.block wr.heap.size l4).trans X4.out
        have R5 := Lib.hid ((g5.block (w3.heap.size + 1) lr4).trans R4.out)
        have l5 := (Array.getElem?_eq_some_iff.1 X5).1
        have lr5 := (Array.getElem?_eq_some_iff.1 R5.out).1
        have hv5 := Lib.hid (hv4.out.ext (ext_trans g5 (ext_alloc (Below.refl _ _) (.cells #[.int .i64 0, .int .i64 0, .int .i64 0, .int .i64 0, .int .i64 0, .string ⟨#[]⟩] 23))))
        obtain ⟨⟨c0, c1, c2, c3, c4, c5⟩, _, _, _, _, _, _⟩ := six_at X5
        clear g5 B4 X4 R4 hv4
        go_wp2_with fail
        refine (HR18.out _).mono ?_; rintro e w6 ⟨rfl, g6⟩
        have B6 := Lib.hid (ext_trans B5.out g6)
        have X6 := (g6.block wr.heap.size (by simp; omega)).trans ((Lib.alloc_old _ _ _ l5).trans X5)
        have Y6 := (g6.block w5.heap.size (by simp)).trans (heap_new w5 _)
        have R6 := Lib.hid ((g6.block (w3.heap.size + 1) (by simp; omega)).trans ((Lib.alloc_old _ _ _ lr5).trans R5.out))
        have hv6 := Lib.hid (hv5.out.ext g6)
        clear c0 c1 c2 c3 c4 c5
        obtain ⟨⟨c0, c1, c2, c3, c4, c5⟩, _, _, _, _, _, _⟩ := six_at X6
        obtain ⟨⟨d0, d1, d2, d3, d4, d5⟩, _, _, _, _, _, _⟩ := six_at Y6
        clear g6 X5 X6 Y6 B5 R5 hv5
        go_wp2_with fail
        go_roundw
        case rel => exact ⟨1, rfl, by decide, R6.out, B6.out, hv6.out⟩
        case measure => decide
      · have e0 : wr.cell? ⟨w3.heap.size + 1, 6, none⟩ = some (.int .i64 19) := (cell_row HROW.out 6).trans rfl
        have e1 : wr.cell? ⟨w3.heap.size + 1, 7, none⟩ = some (.int .i64 x) := (cell_row HROW.out 7).trans rfl
        have e2 : wr.cell? ⟨w3.heap.size + 1, 8, none⟩ = some (.int .i64 y) := (cell_row HROW.out 8).trans rfl
        have e3 : wr.cell? ⟨w3.heap.size + 1, 9, none⟩ = some (.int .i64 0) := (cell_row HROW.out 9).trans rfl
        have e4 : wr.cell? ⟨w3.heap.size + 1, 10, none⟩ = some (.int .i64 n) := (cell_row HROW.out 10).trans rfl
        have e5 : wr.cell? ⟨w3.heap.size + 1, 11, none⟩ = some (.string ⟨#[]⟩) := (cell_row HROW.out 11).trans rfl
        go_wp2_with fail
        refine (HP19.out _ (HVE.out.ext (ext_alloc (Below.refl _ _) _))).mono ?_; rintro e w4 ⟨rfl, g4⟩
        have hv4 := Lib.hid (HVE.out.ext (ext_trans (ext_alloc (Below.refl _ _) _) g4))
        have B4 := Lib.hid (ext_trans (ext_alloc HBL.out _) g4)
        have X4 := Lib.hid ((g4.block wr.heap.size (by simp)).trans (heap_new wr _))
        have R4 := Lib.hid ((g4.block (w3.heap.size + 1) (by simp; omega)).trans ((Lib.alloc_old _ _ _ lr).trans HROW.out))
        have l4 := (Array.getElem?_eq_some_iff.1 X4.out).1
        have lr4 := (Array.getElem?_eq_some_iff.1 R4.out).1
        clear e0 e1 e2 e3 e4 e5 g4 HROW HBL
        go_wp2_with fail
        refine (HQ.out _ hv4.out).mono ?_; rintro e w5 ⟨rfl, g5⟩
        have B5 := Lib.hid (ext_alloc (ext_trans B4.out g5) (.cells #[.int .i64 0, .int .i64 0, .int .i64 0, .int .i64 0, .int .i64 0, .string ⟨#[]⟩] 23))
        have X5 := (g5.block wr.heap.size l4).trans X4.out
        have R5 := Lib.hid ((g5.block (w3.heap.size + 1) lr4).trans R4.out)
        have l5 := (Array.getElem?_eq_some_iff.1 X5).1
        have lr5 := (Array.getElem?_eq_some_iff.1 R5.out).1
        have hv5 := Lib.hid (hv4.out.ext (ext_trans g5 (ext_alloc (Below.refl _ _) (.cells #[.int .i64 0, .int .i64 0, .int .i64 0, .int .i64 0, .int .i64 0, .string ⟨#[]⟩] 23))))
        obtain ⟨⟨c0, c1, c2, c3, c4, c5⟩, _, _, _, _, _, _⟩ := six_at X5
        clear g5 B4 X4 R4 hv4
        go_wp2_with fail
        refine (HR19.out _).mono ?_; rintro e w6 ⟨rfl, g6⟩
        have B6 := Lib.hid (ext_trans B5.out g6)
        have X6 := (g6.block wr.heap.size (by simp; omega)).trans ((Lib.alloc_old _ _ _ l5).trans X5)
        have Y6 := (g6.block w5.heap.size (by simp)).trans (heap_new w5 _)
        have R6 := Lib.hid ((g6.block (w3.heap.size + 1) (by simp; omega)).trans ((Lib.alloc_old _ _ _ lr5).trans R5.out))
        have hv6 := Lib.hid (hv5.out.ext g6)
        clear c0 c1 c2 c3 c4 c5
        obtain ⟨⟨c0, c1, c2, c3, c4, c5⟩, _, _, _, _, _, _⟩ := six_at X6
        obtain ⟨⟨d0, d1, d2, d3, d4, d5⟩, _, _, _, _, _, _⟩ := six_at Y6
        clear g6 X5 X6 Y6 B5 R5 hv5
        go_wp2_with fail
        go_roundw
        case rel => exact ⟨2, rfl, by decide, R6.out, B6.out, hv6.out⟩
        case measure => decide
      · have e0 : wr.cell? ⟨w3.heap.size + 1, 12, none⟩ = some (.int .i64 20) := (cell_row HROW.out 12).trans rfl
        have e1 : wr.cell? ⟨w3.heap.size + 1, 13, none⟩ = some (.int .i64 0) := (cell_row HROW.out 13).trans rfl
        have e2 : wr.cell? ⟨w3.heap.size + 1, 14, none⟩ = some (.int .i64 y) := (cell_row HROW.out 14).trans rfl
        have e3 : wr.cell? ⟨w3.heap.size + 1, 15, none⟩ = some (.int .i64 x) := (cell_row HROW.out 15).trans rfl
        have e4 : wr.cell? ⟨w3.heap.size + 1, 16, none⟩ = some (.int .i64 n) := (cell_row HROW.out 16).trans rfl
        have e5 : wr.cell? ⟨w3.heap.size + 1, 17, none⟩ = some (.string ⟨#[]⟩) := (cell_row HROW.out 17).trans rfl
        go_wp2_with fail
        refine (HP20.out _ (HVE.out.ext (ext_alloc (Below.refl _ _) _))).mono ?_; rintro e w4 ⟨rfl, g4⟩
        have hv4 := Lib.hid (HVE.out.ext (ext_trans (ext_alloc (Below.refl _ _) _) g4))
        have B4 := Lib.hid (ext_trans (ext_alloc HBL.out _) g4)
        have X4 := Lib.hid ((g4.block wr.heap.size (by simp)).trans (heap_new wr _))
        have R4 := Lib.hid ((g4.block (w3.heap.size + 1) (by simp; omega)).trans ((Lib.alloc_old _ _ _ lr).trans HROW.out))
        have l4 := (Array.getElem?_eq_some_iff.1 X4.out).1
        have lr4 := (Array.getElem?_eq_some_iff.1 R4.out).1
        clear e0 e1 e2 e3 e4 e5 g4 HROW HBL
        go_wp2_with fail
        refine (HQ.out _ hv4.out).mono ?_; rintro e w5 ⟨rfl, g5⟩
        have B5 := Lib.hid (ext_alloc (ext_trans B4.out g5) (.cells #[.int .i64 0, .int .i64 0, .int .i64 0, .int .i64 0, .int .i64 0, .string ⟨#[]⟩] 23))
        have X5 := (g5.block wr.heap.size l4).trans X4.out
        have R5 := Lib.hid ((g5.block (w3.heap.size + 1) lr4).trans R4.out)
        have l5 := (Array.getElem?_eq_some_iff.1 X5).1
        have lr5 := (Array.getElem?_eq_some_iff.1 R5.out).1
        have hv5 := Lib.hid (hv4.out.ext (ext_trans g5 (ext_alloc (Below.refl _ _) (.cells #[.int .i64 0, .int .i64 0, .int .i64 0, .int .i64 0, .int .i64 0, .string ⟨#[]⟩] 23))))
        obtain ⟨⟨c0, c1, c2, c3, c4, c5⟩, _, _, _, _, _, _⟩ := six_at X5
        clear g5 B4 X4 R4 hv4
        go_wp2_with fail
        refine (HR20.out _).mono ?_; rintro e w6 ⟨rfl, g6⟩
        have B6 := Lib.hid (ext_trans B5.out g6)
        have X6 := (g6.block wr.heap.size (by simp; omega)).trans ((Lib.alloc_old _ _ _ l5).trans X5)
        have Y6 := (g6.block w5.heap.size (by simp)).trans (heap_new w5 _)
        have R6 := Lib.hid ((g6.block (w3.heap.size + 1) (by simp; omega)).trans ((Lib.alloc_old _ _ _ lr5).trans R5.out))
        have hv6 := Lib.hid (hv5.out.ext g6)
        clear c0 c1 c2 c3 c4 c5
        obtain ⟨⟨c0, c1, c2, c3, c4, c5⟩, _, _, _, _, _, _⟩ := six_at X6
        obtain ⟨⟨d0, d1, d2, d3, d4, d5⟩, _, _, _, _, _, _⟩ := six_at Y6
        clear g6 X5 X6 Y6 B5 R5 hv5
        go_wp2_with fail
        go_roundw
        case rel => exact ⟨3, rfl, by decide, R6.out, B6.out, hv6.out⟩
        case measure => decide
      · go_wp2_with fail
        go_ret
        exact ⟨rfl, HBL.out⟩
  · obtain ⟨hs1, hs2⟩ := hs
    rw [hb] at HR18 HR19 HR20 k18 k19 k20
    have HP18 := Lib.hid (fun w hv => print_yes ⟨18, x, y, 0, n, []⟩ w hn k18 hv)
    have HQ18 := Lib.hid (fun w hv => parse_good ⟨18, x, y, 0, n, []⟩ k18 hn w hv)
    unfold inV at HP18 HQ18
    simp only [show mk [] = (⟨#[]⟩ : ByteArray) from rfl] at HP18 HQ18
    generalize txtL ⟨18, x, y, 0, n, []⟩ = T18 at *
    have HP19 := Lib.hid (fun w hv => print_yes ⟨19, x, y, 0, n, []⟩ w hn k19 hv)
    have HQ19 := Lib.hid (fun w hv => parse_good ⟨19, x, y, 0, n, []⟩ k19 hn w hv)
    unfold inV at HP19 HQ19
    simp only [show mk [] = (⟨#[]⟩ : ByteArray) from rfl] at HP19 HQ19
    generalize txtL ⟨19, x, y, 0, n, []⟩ = T19 at *
    have HP20 := Lib.hid (fun w hv => print_yes ⟨20, 0, y, x, n, []⟩ w hn k20 hv)
    have HQ20 := Lib.hid (fun w hv => parse_good ⟨20, 0, y, x, n, []⟩ k20 hn w hv)
    unfold inV at HP20 HQ20
    simp only [show mk [] = (⟨#[]⟩ : ByteArray) from rfl] at HP20 HQ20
    generalize txtL ⟨20, 0, y, x, n, []⟩ = T20 at *
    clear k18 k19 k20 hb hx hy
    go_enter Tryd.func7, Tryd.ntmps7
    go_wp2_with fail
    refine (HAW.out _ HV.out).mono ?_; rintro e w1 ⟨rfl, g1⟩
    have HV1 := Lib.hid (HV.out.ext g1)
    go_wp2_with fail
    refine (HD.out _).mono ?_; rintro e w1' ⟨rfl, rfl⟩
    go_wp2_with fail
    refine (HA.out _).mono ?_; rintro e w1' ⟨rfl, rfl⟩
    go_wp2_with fail
    refine (HP0.out _ (HV1.out.ext (ext_alloc (Below.refl _ _) _))).mono ?_; rintro e w2 ⟨rfl, g2⟩
    have X2 := Lib.hid ((g2.block w1.heap.size (by simp)).trans (heap_new w1 _))
    have HV2 := Lib.hid (HV1.out.ext (ext_trans (ext_alloc (Below.refl _ _) _) g2))
    have l2 := (Array.getElem?_eq_some_iff.1 X2.out).1
    have G2 := Lib.hid (ext_trans (ext_alloc g1 _) g2)
    clear g1 g2 HV1
    go_wp2_with fail
    refine (HQ0.out _ HV2.out).mono ?_; rintro e w3 ⟨rfl, g3⟩
    have X3 := (g3.block w1.heap.size l2).trans X2.out
    have l3 := (Array.getElem?_eq_some_iff.1 X3).1
    have HV3 := Lib.hid (HV2.out.ext (ext_trans g3 (ext_alloc (Below.refl _ _) (.cells #[.int .i64 16, .int .i64 x, .int .i64 0, .int .i64 0, .int .i64 n, .string ⟨#[]⟩] 23))))
    have G3 := Lib.hid (ext_alloc (ext_trans G2.out g3) (.cells #[.int .i64 16, .int .i64 x, .int .i64 0, .int .i64 0, .int .i64 n, .string ⟨#[]⟩] 23))
    obtain ⟨⟨c0, c1, c2, c3, c4, c5⟩, _, _, _, _, _, _⟩ := six_at X3
    clear X3 X2 g3 G2 HV2
    go_wp2_with fail
    clear c0 c1 c2 c3 c4 c5
    go_loopw [75] (fun v wr => ∃ k : Nat, v = .int .i64 k ∧ k ≤ 3 ∧ wr.heap[w3.heap.size + 1]? = some (.cells #[.int .i64 18, .int .i64 x, .int .i64 y, .int .i64 0, .int .i64 n, .string ⟨#[]⟩, .int .i64 19, .int .i64 x, .int .i64 y, .int .i64 0, .int .i64 n, .string ⟨#[]⟩, .int .i64 20, .int .i64 0, .int .i64 y, .int .i64 x, .int .i64 n, .string ⟨#[]⟩] 23 (0, 0)) ∧ Below w.heap.size w wr ∧ Env wr) (fun v wr => 3 - (match v with | .int _ k => k.toNat | _ => 0))
    case atStart => exact ⟨0, rfl, by decide, heap_new' _ _ _ (by simp), ext_alloc G3.out _, HV3.out.ext (ext_alloc (Below.refl _ _) _)⟩
    case round =>
      obtain ⟨k, rfl, hk, hrow, hbl, hve⟩ := hrel
      have HROW := Lib.hid hrow
      have HBL := Lib.hid hbl
      have HVE := Lib.hid hve
      have lr := (Array.getElem?_eq_some_iff.1 hrow).1
      clear hrow hbl hve
      have hk4 : k = 0 ∨ k = 1 ∨ k = 2 ∨ k = 3 := by omega
      rcases hk4 with rfl | rfl | rfl | rfl
      · have e0 : wr.cell? ⟨w3.heap.size + 1, 0, none⟩ = some (.int .i64 18) := (cell_row HROW.out 0).trans rfl
        have e1 : wr.cell? ⟨w3.heap.size + 1, 1, none⟩ = some (.int .i64 x) := (cell_row HROW.out 1).trans rfl
        have e2 : wr.cell? ⟨w3.heap.size + 1, 2, none⟩ = some (.int .i64 y) := (cell_row HROW.out 2).trans rfl
        have e3 : wr.cell? ⟨w3.heap.size + 1, 3, none⟩ = some (.int .i64 0) := (cell_row HROW.out 3).trans rfl
        have e4 : wr.cell? ⟨w3.heap.size + 1, 4, none⟩ = some (.int .i64 n) := (cell_row HROW.out 4).trans rfl
        have e5 : wr.cell? ⟨w3.heap.size + 1, 5, none⟩ = some (.string ⟨#[]⟩) := (cell_row HROW.out 5).trans rfl
        go_wp2_with fail
        refine (HP18.out _ (HVE.out.ext (ext_alloc (Below.refl _ _) _))).mono ?_; rintro e w4 ⟨rfl, g4⟩
        have hv4 := Lib.hid (HVE.out.ext (ext_trans (ext_alloc (Below.refl _ _) _) g4))
        have B4 := Lib.hid (ext_trans (ext_alloc HBL.out _) g4)
        have X4 := Lib.hid ((g4.block wr.heap.size (by simp)).trans (heap_new wr _))
        have R4 := Lib.hid ((g4.block (w3.heap.size + 1) (by simp; omega)).trans ((Lib.alloc_old _ _ _ lr).trans HROW.out))
        have l4 := (Array.getElem?_eq_some_iff.1 X4.out).1
        have lr4 := (Array.getElem?_eq_some_iff.1 R4.out).1
        clear e0 e1 e2 e3 e4 e5 g4 HROW HBL
        go_wp2_with fail
        refine (HQ18.out _ hv4.out).mono ?_; rintro e w5 ⟨rfl, g5⟩
        have B5 := Lib.hid (ext_alloc (ext_trans B4.out g5) (.cells #[.int .i64 18, .int .i64 x, .int .i64 y, .int .i64 0, .int .i64 n, .string ⟨#[]⟩] 23))
        have X5 := (g5.block wr.heap.size l4).trans X4.out
        have R5 := Lib.hid ((g5.block (w3.heap.size + 1) lr4).trans R4.out)
        have l5 := (Array.getElem?_eq_some_iff.1 X5).1
        have lr5 := (Array.getElem?_eq_some_iff.1 R5.out).1
        have hv5 := Lib.hid (hv4.out.ext (ext_trans g5 (ext_alloc (Below.refl _ _) (.cells #[.int .i64 18, .int .i64 x, .int .i64 y, .int .i64 0, .int .i64 n, .string ⟨#[]⟩] 23))))
        obtain ⟨⟨c0, c1, c2, c3, c4, c5⟩, _, _, _, _, _, _⟩ := six_at X5
        clear g5 B4 X4 R4 hv4
        go_wp2_with fail
        refine (HR18.out _).mono ?_; rintro e w6 ⟨rfl, g6⟩
        have B6 := Lib.hid (ext_trans B5.out g6)
        have X6 := (g6.block wr.heap.size (by simp; omega)).trans ((Lib.alloc_old _ _ _ l5).trans X5)
        have Y6 := (g6.block w5.heap.size (by simp)).trans (heap_new w5 _)
        have R6 := Lib.hid ((g6.block (w3.heap.size + 1) (by simp; omega)).trans ((Lib.alloc_old _ _ _ lr5).trans R5.out))
        have hv6 := Lib.hid (hv5.out.ext g6)
        clear c0 c1 c2 c3 c4 c5
        obtain ⟨⟨c0, c1, c2, c3, c4, c5⟩, _, _, _, _, _, _⟩ := six_at X6
        obtain ⟨⟨d0, d1, d2, d3, d4, d5⟩, _, _, _, _, _, _⟩ := six_at Y6
        clear g6 X5 X6 Y6 B5 R5 hv5
        go_wp2_with fail
        go_roundw
        case rel => exact ⟨1, rfl, by decide, R6.out, B6.out, hv6.out⟩
        case measure => decide
      · have e0 : wr.cell? ⟨w3.heap.size + 1, 6, none⟩ = some (.int .i64 19) := (cell_row HROW.out 6).trans rfl
        have e1 : wr.cell? ⟨w3.heap.size + 1, 7, none⟩ = some (.int .i64 x) := (cell_row HROW.out 7).trans rfl
        have e2 : wr.cell? ⟨w3.heap.size + 1, 8, none⟩ = some (.int .i64 y) := (cell_row HROW.out 8).trans rfl
        have e3 : wr.cell? ⟨w3.heap.size + 1, 9, none⟩ = some (.int .i64 0) := (cell_row HROW.out 9).trans rfl
        have e4 : wr.cell? ⟨w3.heap.size + 1, 10, none⟩ = some (.int .i64 n) := (cell_row HROW.out 10).trans rfl
        have e5 : wr.cell? ⟨w3.heap.size + 1, 11, none⟩ = some (.string ⟨#[]⟩) := (cell_row HROW.out 11).trans rfl
        go_wp2_with fail
        refine (HP19.out _ (HVE.out.ext (ext_alloc (Below.refl _ _) _))).mono ?_; rintro e w4 ⟨rfl, g4⟩
        have hv4 := Lib.hid (HVE.out.ext (ext_trans (ext_alloc (Below.refl _ _) _) g4))
        have B4 := Lib.hid (ext_trans (ext_alloc HBL.out _) g4)
        have X4 := Lib.hid ((g4.block wr.heap.size (by simp)).trans (heap_new wr _))
        have R4 := Lib.hid ((g4.block (w3.heap.size + 1) (by simp; omega)).trans ((Lib.alloc_old _ _ _ lr).trans HROW.out))
        have l4 := (Array.getElem?_eq_some_iff.1 X4.out).1
        have lr4 := (Array.getElem?_eq_some_iff.1 R4.out).1
        clear e0 e1 e2 e3 e4 e5 g4 HROW HBL
        go_wp2_with fail
        refine (HQ19.out _ hv4.out).mono ?_; rintro e w5 ⟨rfl, g5⟩
        have B5 := Lib.hid (ext_alloc (ext_trans B4.out g5) (.cells #[.int .i64 19, .int .i64 x, .int .i64 y, .int .i64 0, .int .i64 n, .string ⟨#[]⟩] 23))
        have X5 := (g5.block wr.heap.size l4).trans X4.out
        have R5 := Lib.hid ((g5.block (w3.heap.size + 1) lr4).trans R4.out)
        have l5 := (Array.getElem?_eq_some_iff.1 X5).1
        have lr5 := (Array.getElem?_eq_some_iff.1 R5.out).1
        have hv5 := Lib.hid (hv4.out.ext (ext_trans g5 (ext_alloc (Below.refl _ _) (.cells #[.int .i64 19, .int .i64 x, .int .i64 y, .int .i64 0, .int .i64 n, .string ⟨#[]⟩] 23))))
        obtain ⟨⟨c0, c1, c2, c3, c4, c5⟩, _, _, _, _, _, _⟩ := six_at X5
        clear g5 B4 X4 R4 hv4
        go_wp2_with fail
        refine (HR19.out _).mono ?_; rintro e w6 ⟨rfl, g6⟩
        have B6 := Lib.hid (ext_trans B5.out g6)
        have X6 := (g6.block wr.heap.size (by simp; omega)).trans ((Lib.alloc_old _ _ _ l5).trans X5)
        have Y6 := (g6.block w5.heap.size (by simp)).trans (heap_new w5 _)
        have R6 := Lib.hid ((g6.block (w3.heap.size + 1) (by simp; omega)).trans ((Lib.alloc_old _ _ _ lr5).trans R5.out))
        have hv6 := Lib.hid (hv5.out.ext g6)
        clear c0 c1 c2 c3 c4 c5
        obtain ⟨⟨c0, c1, c2, c3, c4, c5⟩, _, _, _, _, _, _⟩ := six_at X6
        obtain ⟨⟨d0, d1, d2, d3, d4, d5⟩, _, _, _, _, _, _⟩ := six_at Y6
        clear g6 X5 X6 Y6 B5 R5 hv5
        go_wp2_with fail
        go_roundw
        case rel => exact ⟨2, rfl, by decide, R6.out, B6.out, hv6.out⟩
        case measure => decide
      · have e0 : wr.cell? ⟨w3.heap.size + 1, 12, none⟩ = some (.int .i64 20) := (cell_row HROW.out 12).trans rfl
        have e1 : wr.cell? ⟨w3.heap.size + 1, 13, none⟩ = some (.int .i64 0) := (cell_row HROW.out 13).trans rfl
        have e2 : wr.cell? ⟨w3.heap.size + 1, 14, none⟩ = some (.int .i64 y) := (cell_row HROW.out 14).trans rfl
        have e3 : wr.cell? ⟨w3.heap.size + 1, 15, none⟩ = some (.int .i64 x) := (cell_row HROW.out 15).trans rfl
        have e4 : wr.cell? ⟨w3.heap.size + 1, 16, none⟩ = some (.int .i64 n) := (cell_row HROW.out 16).trans rfl
        have e5 : wr.cell? ⟨w3.heap.size + 1, 17, none⟩ = some (.string ⟨#[]⟩) := (cell_row HROW.out 17).trans rfl
        go_wp2_with fail
        refine (HP20.out _ (HVE.out.ext (ext_alloc (Below.refl _ _) _))).mono ?_; rintro e w4 ⟨rfl, g4⟩
        have hv4 := Lib.hid (HVE.out.ext (ext_trans (ext_alloc (Below.refl _ _) _) g4))
        have B4 := Lib.hid (ext_trans (ext_alloc HBL.out _) g4)
        have X4 := Lib.hid ((g4.block wr.heap.size (by simp)).trans (heap_new wr _))
        have R4 := Lib.hid ((g4.block (w3.heap.size + 1) (by simp; omega)).trans ((Lib.alloc_old _ _ _ lr).trans HROW.out))
        have l4 := (Array.getElem?_eq_some_iff.1 X4.out).1
        have lr4 := (Array.getElem?_eq_some_iff.1 R4.out).1
        clear e0 e1 e2 e3 e4 e5 g4 HROW HBL
        go_wp2_with fail
        refine (HQ20.out _ hv4.out).mono ?_; rintro e w5 ⟨rfl, g5⟩
        have B5 := Lib.hid (ext_alloc (ext_trans B4.out g5) (.cells #[.int .i64 20, .int .i64 0, .int .i64 y, .int .i64 x, .int .i64 n, .string ⟨#[]⟩] 23))
        have X5 := (g5.block wr.heap.size l4).trans X4.out
        have R5 := Lib.hid ((g5.block (w3.heap.size + 1) lr4).trans R4.out)
        have l5 := (Array.getElem?_eq_some_iff.1 X5).1
        have lr5 := (Array.getElem?_eq_some_iff.1 R5.out).1
        have hv5 := Lib.hid (hv4.out.ext (ext_trans g5 (ext_alloc (Below.refl _ _) (.cells #[.int .i64 20, .int .i64 0, .int .i64 y, .int .i64 x, .int .i64 n, .string ⟨#[]⟩] 23))))
        obtain ⟨⟨c0, c1, c2, c3, c4, c5⟩, _, _, _, _, _, _⟩ := six_at X5
        clear g5 B4 X4 R4 hv4
        go_wp2_with fail
        refine (HR20.out _).mono ?_; rintro e w6 ⟨rfl, g6⟩
        have B6 := Lib.hid (ext_trans B5.out g6)
        have X6 := (g6.block wr.heap.size (by simp; omega)).trans ((Lib.alloc_old _ _ _ l5).trans X5)
        have Y6 := (g6.block w5.heap.size (by simp)).trans (heap_new w5 _)
        have R6 := Lib.hid ((g6.block (w3.heap.size + 1) (by simp; omega)).trans ((Lib.alloc_old _ _ _ lr5).trans R5.out))
        have hv6 := Lib.hid (hv5.out.ext g6)
        clear c0 c1 c2 c3 c4 c5
        obtain ⟨⟨c0, c1, c2, c3, c4, c5⟩, _, _, _, _, _, _⟩ := six_at X6
        obtain ⟨⟨d0, d1, d2, d3, d4, d5⟩, _, _, _, _, _, _⟩ := six_at Y6
        clear g6 X5 X6 Y6 B5 R5 hv5
        go_wp2_with fail
        go_roundw
        case rel => exact ⟨3, rfl, by decide, R6.out, B6.out, hv6.out⟩
        case measure => decide
      · go_wp2_with fail
        go_ret
        exact ⟨rfl, HBL.out⟩
end Go.Proofs.YtdfiaefdbalcoaaDoor
