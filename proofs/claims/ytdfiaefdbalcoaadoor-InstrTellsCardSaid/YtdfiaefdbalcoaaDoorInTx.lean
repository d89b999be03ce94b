/- The walk of InstrTells. -/
import Derived.Test.YtdfiaefdbalcoaaDoorRows
import Derived.WalkKit
import Derived.ProofKit
import Derived.OpenShut
import Derived.WalkLawsBesides
import Derived.WalkSpells
import Derived.Outline
import Derived.Handy
import Derived.Lib.Hide
import Derived.Lib.OthersKept
import Derived.KernelRfl
import Derived.RegionTactic
import Derived.BigRegion
import Derived.Deep.RegionHeld3
import Derived.Deep.Cut
import Derived.Deep.CutBlock
import Derived.Carry
import Derived.Test.YtdfiaefdbalcoaaDoorInTs
namespace Go.Proofs.YtdfiaefdbalcoaaDoor
open Go.ChangeShapes Go.WideShapes Go.ChangeAt Go.RowKit
set_option linter.unusedVariables false
def two (a b : In) : Array Value := #[.int .i64 a.op, .int .i64 a.d, .int .i64 a.a, .int .i64 a.b, .int .i64 a.n, .string (mk a.name), .int .i64 b.op, .int .i64 b.d, .int .i64 b.a, .int .i64 b.b, .int .i64 b.n, .string (mk b.name)]
theorem two_0 {w : World} {b : Nat} {x y : In} {t : TypeId} (h : w.heap[b]? = some (.cells (two x y) t (0, 0))) : w.cell? ⟨b, 0, none⟩ = some (.int .i64 x.op) ∧ w.cell? ⟨b, 1, none⟩ = some (.int .i64 x.d) ∧ w.cell? ⟨b, 2, none⟩ = some (.int .i64 x.a) ∧ w.cell? ⟨b, 3, none⟩ = some (.int .i64 x.b) ∧ w.cell? ⟨b, 4, none⟩ = some (.int .i64 x.n) ∧ w.cell? ⟨b, 5, none⟩ = some (.string (mk x.name)) := by
  simp [World.cell?, h, two]
theorem two_1 {w : World} {b : Nat} {x y : In} {t : TypeId} (h : w.heap[b]? = some (.cells (two x y) t (0, 0))) : w.cell? ⟨b, 6, none⟩ = some (.int .i64 y.op) ∧ w.cell? ⟨b, 7, none⟩ = some (.int .i64 y.d) ∧ w.cell? ⟨b, 8, none⟩ = some (.int .i64 y.a) ∧ w.cell? ⟨b, 9, none⟩ = some (.int .i64 y.b) ∧ w.cell? ⟨b, 10, none⟩ = some (.int .i64 y.n) ∧ w.cell? ⟨b, 11, none⟩ = some (.string (mk y.name)) := by
  simp [World.cell?, h, two]
def five (a b c d e : List UInt8) : Array Value := #[.string (mk a), .string (mk b), .string (mk c), .string (mk d), .string (mk e)]
theorem five_at {w : World} {b i : Nat} {z0 z1 z2 z3 z4 : List UInt8} {t : TypeId} (h : w.heap[b]? = some (.cells (five z0 z1 z2 z3 z4) t (0, 0))) (hi : i < 5) : ∃ z, w.cell? ⟨b, i, none⟩ = some (.string (mk z)) := by
  rw [cell_row h]
  match i, hi with
  | 0, _ => exact ⟨_, rfl⟩
  | 1, _ => exact ⟨_, rfl⟩
  | 2, _ => exact ⟨_, rfl⟩
  | 3, _ => exact ⟨_, rfl⟩
  | 4, _ => exact ⟨_, rfl⟩
set_option maxRecDepth 100000 in
set_option maxHeartbeats 8000000 in
theorem tells_walk (raw : In) (s : List UInt8) (at_ : Int) (more : List UInt8) (hraw : AllI raw) (hnm : raw.name.length ≤ 140737488355328) (hs : s.length ≤ 140737488355328) (hm : more.length ≤ 140737488355328) (hat : I64 at_) (w : World) (hv : Env w) :
    Calls Tryd.prog 3 #[inV raw, .string (mk s), .int .i64 at_, .string (mk more)] w fun e w' => e = .returned (.bool true) ∧ Below w.heap.size w w' := by
  have HV := Lib.hid hv
  have HAW := Lib.hid (fun w hv => awake_any w hv)
  have HFI := Lib.hid (fun w => fit_any raw hraw w)
  obtain ⟨hr, hnn⟩ := fit_right raw hraw.2.2.2.2
  have HT0 := Lib.hid (show Told raw from ⟨by omega, hraw.2.2.2.2⟩)
  have HTX := Lib.hid (show Told (fitL raw) from ⟨by have := (right_fits hr hnn).2.2.2.2; omega, hnn⟩)
  have HRX := Lib.hid hr
  unfold inV at HFI ⊢
  clear hv hr hnn hraw hnm
  generalize fitL raw = x at *
  go_enter Tryd.func3, Tryd.ntmps3
  go_wp2_with fail
  refine (HAW.out _ (HV.out.ext (ext_alloc (Below.refl _ _) _))).mono ?_; rintro e w1 ⟨rfl, g1⟩
  have B1 := (g1.block w.heap.size (by simp)).trans (heap_new w (.cells (inC raw) 23))
  have G1 := Lib.hid (ext_trans (ext_alloc (Below.refl w.heap.size w) (.cells (inC raw) 23)) g1)
  have l1 := (Array.getElem?_eq_some_iff.1 B1).1
  obtain ⟨⟨c0, c1, c2, c3, c4, c5⟩, _, _, _, _, _, _⟩ := six_at B1
  have HB1 := Lib.hid B1
  clear B1 g1
  go_wp2_with fail
  refine (HFI.out _).mono ?_; rintro e w2 ⟨rfl, g2⟩
  have G2 := Lib.hid (ext_trans G1.out g2)
  have B2 := (g2.block w.heap.size l1).trans HB1.out
  have l2 := (Array.getElem?_eq_some_iff.1 B2).1
  clear c0 c1 c2 c3 c4 c5 g2 G1 HB1 l1
  obtain ⟨⟨c0, c1, c2, c3, c4, c5⟩, _, _, _, _, _, _⟩ := six_at B2
  go_wp2_with fail
  clear c0 c1 c2 c3 c4 c5 B2
  go_loopw [33] (fun iv wr => ∃ i : Nat, iv = .int .i64 i ∧ i ≤ 2 ∧ wr.heap[w2.heap.size]? = some (.cells (inC x) 23 (0, 0)) ∧ wr.heap[w2.heap.size + 1]? = some (.cells (two raw x) 23 (0, 0)) ∧ Below w.heap.size w wr) (fun iv wr => 2 - ivN iv)
  case atStart => exact ⟨0, rfl, by decide, (Lib.alloc_old _ _ _ (by simp)).trans (heap_new w2 (.cells (inC x) 23)), heap_new' _ _ _ (by simp), ext_alloc (ext_alloc G2.out _) _⟩
  case round =>
    obtain ⟨i, rfl, hi, hx, hsl, hbl⟩ := hrel
    have HX := Lib.hid hx
    have HSL := Lib.hid hsl
    have HBL := Lib.hid hbl
    have lx := (Array.getElem?_eq_some_iff.1 hsl).1
    clear hx hsl hbl
    by_cases h2 : i < 2
    · have hc : (i = 0) ∨ (i = 1) := by omega
      obtain ⟨y, HY, hk⟩ : ∃ y, Hid (Told y) ∧ ((i = 0 ∧ y = raw) ∨ (i = 1 ∧ y = x)) := by
        rcases hc with rfl | rfl
        · exact ⟨raw, HT0, .inl ⟨rfl, rfl⟩⟩
        · exact ⟨x, HTX, .inr ⟨rfl, rfl⟩⟩
      have HP := Lib.hid (fun w hv => print_any y HY.out w hv)
      have HRP := Lib.hid (fun w => rprint_any y HY.out w)
      have HR := Lib.hid (fun w => right_any y w HY.out.1)
      have HRR := Lib.hid (fun w => rright_any y w HY.out.1)
      have HRD := Lib.hid (fun w => reads_any y w HY.out.1)
      have HRRD := Lib.hid (fun w => rreads_any y w HY.out.1)
      have HWR := Lib.hid (fun w => writes_any y w HY.out.1)
      have HRWR := Lib.hid (fun w => rwrites_any y w HY.out.1)
      have HIN := Lib.hid (fun v1 v2 w h1 h2 => ints_any v1 v2 (readsL y) (reads_len y) w h1 h2)
      obtain ⟨P, k, hpr⟩ := pr_shape y
      rw [hpr] at HP HRP
      clear hpr hc
      have tP : (mk P).toList = P := mk_tl P
      have eP : (P != P) = false := by simp
      have ek : (k != k) = false := by simp
      have er : (rightB y != rightB y) = false := by simp
      have ew : (writesL y != writesL y) = false := by simp
      unfold inV at HP HRP HR HRR HRD HRRD HWR HRWR
      generalize rightB y = rb at *
      generalize readsL y = L at *
      generalize writesL y = wv at *
      rcases hk with ⟨rfl, rfl⟩ | ⟨rfl, rfl⟩
      · obtain ⟨k0, k1, k2, k3, k4, k5⟩ := two_0 HSL.out
        go_wp2_with fail
        refine (HP.out _ (HV.out.ext (ext_alloc HBL.out _))).mono ?_; rintro e w3 ⟨rfl, g3⟩
        have Y3 := (g3.block wr.heap.size (by simp)).trans (heap_new wr (.cells (inC y) 23))
        have X3 := Lib.hid ((g3.block w2.heap.size (by simp; omega)).trans ((Lib.alloc_old _ _ _ (by omega)).trans HX.out))
        have S3 := Lib.hid ((g3.block (w2.heap.size + 1) (by simp; omega)).trans ((Lib.alloc_old _ _ _ lx).trans HSL.out))
        have G3 := Lib.hid (ext_trans (ext_alloc HBL.out _) g3)
        have l3 := (Array.getElem?_eq_some_iff.1 Y3).1
        obtain ⟨⟨c0, c1, c2, c3, c4, c5⟩, _, _, _, _, _, _⟩ := six_at Y3
        have HY3 := Lib.hid Y3
        clear k0 k1 k2 k3 k4 k5 g3 HX HSL HBL Y3
        go_wp2_with fail
        refine (HRP.out _).mono ?_; rintro e w4 ⟨rfl, g4⟩
        have Y4 := (g4.block wr.heap.size l3).trans HY3.out
        have X4 := Lib.hid ((g4.block w2.heap.size (by omega)).trans X3.out)
        have S4 := Lib.hid ((g4.block (w2.heap.size + 1) (by omega)).trans S3.out)
        have G4 := Lib.hid (ext_trans G3.out g4)
        have hz4 : w3.heap.size ≤ w4.heap.size := g4.size
        have l4 : wr.heap.size < w4.heap.size := by omega
        clear c0 c1 c2 c3 c4 c5 g4 G3 X3 S3
        obtain ⟨⟨c0, c1, c2, c3, c4, c5⟩, _, _, _, _, _, _⟩ := six_at Y4
        clear Y4
        go_wp2_with fail
        go_cut [76] from 47 to 76 (fun b wc => b = .bool false ∧ Below w4.heap.size w4 wc)
        case first =>
          have gg : Below w4.heap.size w4 w4.drew := ext_drew (Below.refl _ _)
          go_region_held3 (fun w' => w'.cell? ⟨wr.heap.size, 0, none⟩ = some (.int .i64 y.op) ∧ w'.cell? ⟨wr.heap.size, 1, none⟩ = some (.int .i64 y.d) ∧ w'.cell? ⟨wr.heap.size, 2, none⟩ = some (.int .i64 y.a) ∧ w'.cell? ⟨wr.heap.size, 3, none⟩ = some (.int .i64 y.b) ∧ w'.cell? ⟨wr.heap.size, 4, none⟩ = some (.int .i64 y.n) ∧ w'.cell? ⟨wr.heap.size, 5, none⟩ = some (.string (mk y.name))) (exact ⟨c0, c1, c2, c3, c4, c5⟩) ((first
            | (go_at_call 13; refine (HR.out _).mono ?_; rintro e w5 ⟨rfl, g5⟩; have c0 := (g5.cell (cell_lt c0)).trans c0; have c1 := (g5.cell (cell_lt c1)).trans c1; have c2 := (g5.cell (cell_lt c2)).trans c2; have c3 := (g5.cell (cell_lt c3)).trans c3; have c4 := (g5.cell (cell_lt c4)).trans c4; have c5 := (g5.cell (cell_lt c5)).trans c5; have gg := ext_trans gg g5)
            | (go_at_call 14; refine (HRR.out _).mono ?_; rintro e w6 ⟨rfl, g5⟩; have c0 := (g5.cell (cell_lt c0)).trans c0; have c1 := (g5.cell (cell_lt c1)).trans c1; have c2 := (g5.cell (cell_lt c2)).trans c2; have c3 := (g5.cell (cell_lt c3)).trans c3; have c4 := (g5.cell (cell_lt c4)).trans c4; have c5 := (g5.cell (cell_lt c5)).trans c5; have gg := ext_trans gg g5)
            | (go_at_call 16; refine (HRD.out _).mono ?_; rintro e w7 ⟨⟨v1, rfl, hi1⟩, g5⟩; have c0 := (g5.cell (cell_lt c0)).trans c0; have c1 := (g5.cell (cell_lt c1)).trans c1; have c2 := (g5.cell (cell_lt c2)).trans c2; have c3 := (g5.cell (cell_lt c3)).trans c3; have c4 := (g5.cell (cell_lt c4)).trans c4; have c5 := (g5.cell (cell_lt c5)).trans c5; have gg := ext_trans gg g5)
            | (go_at_call 17; refine (HRRD.out _).mono ?_; rintro e w8 ⟨⟨v2, rfl, hi2⟩, g5⟩; have hi1 := hi1.ext g5; have c0 := (g5.cell (cell_lt c0)).trans c0; have c1 := (g5.cell (cell_lt c1)).trans c1; have c2 := (g5.cell (cell_lt c2)).trans c2; have c3 := (g5.cell (cell_lt c3)).trans c3; have c4 := (g5.cell (cell_lt c4)).trans c4; have c5 := (g5.cell (cell_lt c5)).trans c5; have gg := ext_trans gg g5)
            | (go_at_call 15; refine (HIN.out _ _ _ hi1 hi2).mono ?_; rintro e w9 ⟨rfl, g5⟩; have c0 := (g5.cell (cell_lt c0)).trans c0; have c1 := (g5.cell (cell_lt c1)).trans c1; have c2 := (g5.cell (cell_lt c2)).trans c2; have c3 := (g5.cell (cell_lt c3)).trans c3; have c4 := (g5.cell (cell_lt c4)).trans c4; have c5 := (g5.cell (cell_lt c5)).trans c5; have gg := ext_trans gg g5)
            | (go_at_call 18; refine (HWR.out _).mono ?_; rintro e w10 ⟨rfl, g5⟩; have c0 := (g5.cell (cell_lt c0)).trans c0; have c1 := (g5.cell (cell_lt c1)).trans c1; have c2 := (g5.cell (cell_lt c2)).trans c2; have c3 := (g5.cell (cell_lt c3)).trans c3; have c4 := (g5.cell (cell_lt c4)).trans c4; have c5 := (g5.cell (cell_lt c5)).trans c5; have gg := ext_trans gg g5)
            | (go_at_call 19; refine (HRWR.out _).mono ?_; rintro e w11 ⟨rfl, g5⟩; have c0 := (g5.cell (cell_lt c0)).trans c0; have c1 := (g5.cell (cell_lt c1)).trans c1; have c2 := (g5.cell (cell_lt c2)).trans c2; have c3 := (g5.cell (cell_lt c3)).trans c3; have c4 := (g5.cell (cell_lt c4)).trans c4; have c5 := (g5.cell (cell_lt c5)).trans c5; have gg := ext_trans gg g5)))
          all_goals
            go_wp2_with fail
            go_meet
            case rel => exact ⟨rfl, gg⟩
        case rest =>
          obtain ⟨rfl, gw⟩ := hcut
          go_wp2_with fail
          go_roundw
          case rel => exact ⟨1, rfl, by decide, (gw.block _ (by omega)).trans X4.out, (gw.block _ (by omega)).trans S4.out, ext_trans G4.out gw⟩
          case measure => decide
      · obtain ⟨k0, k1, k2, k3, k4, k5⟩ := two_1 HSL.out
        go_wp2_with fail
        refine (HP.out _ (HV.out.ext (ext_alloc HBL.out _))).mono ?_; rintro e w3 ⟨rfl, g3⟩
        have Y3 := (g3.block wr.heap.size (by simp)).trans (heap_new wr (.cells (inC y) 23))
        have X3 := Lib.hid ((g3.block w2.heap.size (by simp; omega)).trans ((Lib.alloc_old _ _ _ (by omega)).trans HX.out))
        have S3 := Lib.hid ((g3.block (w2.heap.size + 1) (by simp; omega)).trans ((Lib.alloc_old _ _ _ lx).trans HSL.out))
        have G3 := Lib.hid (ext_trans (ext_alloc HBL.out _) g3)
        have l3 := (Array.getElem?_eq_some_iff.1 Y3).1
        obtain ⟨⟨c0, c1, c2, c3, c4, c5⟩, _, _, _, _, _, _⟩ := six_at Y3
        have HY3 := Lib.hid Y3
        clear k0 k1 k2 k3 k4 k5 g3 HX HSL HBL Y3
        go_wp2_with fail
        refine (HRP.out _).mono ?_; rintro e w4 ⟨rfl, g4⟩
        have Y4 := (g4.block wr.heap.size l3).trans HY3.out
        have X4 := Lib.hid ((g4.block w2.heap.size (by omega)).trans X3.out)
        have S4 := Lib.hid ((g4.block (w2.heap.size + 1) (by omega)).trans S3.out)
        have G4 := Lib.hid (ext_trans G3.out g4)
        have hz4 : w3.heap.size ≤ w4.heap.size := g4.size
        have l4 : wr.heap.size < w4.heap.size := by omega
        clear c0 c1 c2 c3 c4 c5 g4 G3 X3 S3
        obtain ⟨⟨c0, c1, c2, c3, c4, c5⟩, _, _, _, _, _, _⟩ := six_at Y4
        clear Y4
        go_wp2_with fail
        go_cut [76] from 47 to 76 (fun b wc => b = .bool false ∧ Below w4.heap.size w4 wc)
        case first =>
          have gg : Below w4.heap.size w4 w4.drew := ext_drew (Below.refl _ _)
          go_region_held3 (fun w' => w'.cell? ⟨wr.heap.size, 0, none⟩ = some (.int .i64 y.op) ∧ w'.cell? ⟨wr.heap.size, 1, none⟩ = some (.int .i64 y.d) ∧ w'.cell? ⟨wr.heap.size, 2, none⟩ = some (.int .i64 y.a) ∧ w'.cell? ⟨wr.heap.size, 3, none⟩ = some (.int .i64 y.b) ∧ w'.cell? ⟨wr.heap.size, 4, none⟩ = some (.int .i64 y.n) ∧ w'.cell? ⟨wr.heap.size, 5, none⟩ = some (.string (mk y.name))) (exact ⟨c0, c1, c2, c3, c4, c5⟩) ((first
            | (go_at_call 13; refine (HR.out _).mono ?_; rintro e w5 ⟨rfl, g5⟩; have c0 := (g5.cell (cell_lt c0)).trans c0; have c1 := (g5.cell (cell_lt c1)).trans c1; have c2 := (g5.cell (cell_lt c2)).trans c2; have c3 := (g5.cell (cell_lt c3)).trans c3; have c4 := (g5.cell (cell_lt c4)).trans c4; have c5 := (g5.cell (cell_lt c5)).trans c5; have gg := ext_trans gg g5)
            | (go_at_call 14; refine (HRR.out _).mono ?_; rintro e w6 ⟨rfl, g5⟩; have c0 := (g5.cell (cell_lt c0)).trans c0; have c1 := (g5.cell (cell_lt c1)).trans c1; have c2 := (g5.cell (cell_lt c2)).trans c2; have c3 := (g5.cell (cell_lt c3)).trans c3; have c4 := (g5.cell (cell_lt c4)).trans c4; have c5 := (g5.cell (cell_lt c5)).trans c5; have gg := ext_trans gg g5)
            | (go_at_call 16; refine (HRD.out _).mono ?_; rintro e w7 ⟨⟨v1, rfl, hi1⟩, g5⟩; have c0 := (g5.cell (cell_lt c0)).trans c0; have c1 := (g5.cell (cell_lt c1)).trans c1; have c2 := (g5.cell (cell_lt c2)).trans c2; have c3 := (g5.cell (cell_lt c3)).trans c3; have c4 := (g5.cell (cell_lt c4)).trans c4; have c5 := (g5.cell (cell_lt c5)).trans c5; have gg := ext_trans gg g5)
            | (go_at_call 17; refine (HRRD.out _).mono ?_; rintro e w8 ⟨⟨v2, rfl, hi2⟩, g5⟩; have hi1 := hi1.ext g5; have c0 := (g5.cell (cell_lt c0)).trans c0; have c1 := (g5.cell (cell_lt c1)).trans c1; have c2 := (g5.cell (cell_lt c2)).trans c2; have c3 := (g5.cell (cell_lt c3)).trans c3; have c4 := (g5.cell (cell_lt c4)).trans c4; have c5 := (g5.cell (cell_lt c5)).trans c5; have gg := ext_trans gg g5)
            | (go_at_call 15; refine (HIN.out _ _ _ hi1 hi2).mono ?_; rintro e w9 ⟨rfl, g5⟩; have c0 := (g5.cell (cell_lt c0)).trans c0; have c1 := (g5.cell (cell_lt c1)).trans c1; have c2 := (g5.cell (cell_lt c2)).trans c2; have c3 := (g5.cell (cell_lt c3)).trans c3; have c4 := (g5.cell (cell_lt c4)).trans c4; have c5 := (g5.cell (cell_lt c5)).trans c5; have gg := ext_trans gg g5)
            | (go_at_call 18; refine (HWR.out _).mono ?_; rintro e w10 ⟨rfl, g5⟩; have c0 := (g5.cell (cell_lt c0)).trans c0; have c1 := (g5.cell (cell_lt c1)).trans c1; have c2 := (g5.cell (cell_lt c2)).trans c2; have c3 := (g5.cell (cell_lt c3)).trans c3; have c4 := (g5.cell (cell_lt c4)).trans c4; have c5 := (g5.cell (cell_lt c5)).trans c5; have gg := ext_trans gg g5)
            | (go_at_call 19; refine (HRWR.out _).mono ?_; rintro e w11 ⟨rfl, g5⟩; have c0 := (g5.cell (cell_lt c0)).trans c0; have c1 := (g5.cell (cell_lt c1)).trans c1; have c2 := (g5.cell (cell_lt c2)).trans c2; have c3 := (g5.cell (cell_lt c3)).trans c3; have c4 := (g5.cell (cell_lt c4)).trans c4; have c5 := (g5.cell (cell_lt c5)).trans c5; have gg := ext_trans gg g5)))
          all_goals
            go_wp2_with fail
            go_meet
            case rel => exact ⟨rfl, gg⟩
        case rest =>
          obtain ⟨rfl, gw⟩ := hcut
          go_wp2_with fail
          go_roundw
          case rel => exact ⟨2, rfl, by decide, (gw.block _ (by omega)).trans X4.out, (gw.block _ (by omega)).trans S4.out, ext_trans G4.out gw⟩
          case measure => decide
    · obtain rfl : i = 2 := by omega
      have HPX := Lib.hid (fun w => rprint_yes x w HTX.out.2 HRX.out)
      have HTL := txt_len HRX.out HTX.out.2
      unfold inV at HPX
      generalize txtL x = T at *
      obtain ⟨q, hq, hq2⟩ := pickN_nat at_ (T.length + 1) (by omega)
      have HPK : Hid (∀ w, Calls Tryd.prog 20 #[.int .i64 at_, .int .i64 ((T.length : Int) + 1)] w fun e w' => e = .returned (.int .i64 (q : Int)) ∧ w = w') := Lib.hid (fun w => (pick_any at_ ((T.length : Int) + 1) w hat (by omega)).mono fun e w' h => ⟨by rw [← hq]; exact h.1, h.2⟩)
      clear hq hat
      obtain ⟨⟨c0, c1, c2, c3, c4, c5⟩, _, _, _, _, _, _⟩ := six_at HX.out
      have hTs : (mk T).size = T.length := rfl
      go_wp2_with fail
      refine (HPX.out _).mono ?_; rintro e w3 ⟨rfl, g3⟩
      have X3 := Lib.hid ((g3.block w2.heap.size (by omega)).trans HX.out)
      have G3 := Lib.hid (ext_trans HBL.out g3)
      have hz3 : wr.heap.size ≤ w3.heap.size := g3.size
      clear c0 c1 c2 c3 c4 c5 g3 HX HSL HBL
      go_wp2_with fail
      refine (HPK.out _).mono ?_; rintro e w4 ⟨rfl, rfl⟩
      go_wp2_with fail
      have hqT : q ≤ T.length := by omega
      have he1 : (mk T).extract 0 q = mk (T.take q) := take_mk T q
      have he3 : (mk T).extract q T.length = mk (T.drop q) := drop_mk T q
      obtain ⟨r, hr1, hr2, hr3, hr4⟩ := cut_len T (q + more.length)
      have hr1 : min ((q : Int) + (more.length : Int)) (T.length : Int) = r := by rw [← hr1]; rw [Int.natCast_add]
      have hA : (T.take q).length ≤ 300 := by rw [List.length_take]; omega
      have hD1 : (T.drop q).length ≤ 300 := by rw [List.length_drop]; omega
      have hD2 : (T.drop (q + more.length)).length ≤ 300 := by rw [List.length_drop]; omega
      have hms : (mk more).size = more.length := rfl
      have hw1 : IntKind.i64.wrap ((q : Int) + (more.length : Int)) = (q : Int) + (more.length : Int) := wr_in (by unfold I64; omega)
      generalize T.take q = A at *
      generalize T.drop q = D1 at *
      generalize T.drop (q + more.length) = D2 at *
      have k1 : mk A ++ mk more = mk (A ++ more) := mk_app _ _
      have k2 : mk (A ++ more) ++ mk D2 = mk (A ++ more ++ D2) := mk_app _ _
      have k3 : mk (A ++ more) ++ mk D1 = mk (A ++ more ++ D1) := mk_app _ _
      have z1 : (mk A).size = A.length := rfl
      have z2 : (mk (A ++ more)).size = A.length + more.length := by rw [mk_size, List.length_append]
      have z3 : (mk D1).size = D1.length := rfl
      have z4 : (mk D2).size = D2.length := rfl
      have hb1 : ¬9223372036854775807 < A.length + more.length := by omega
      have hb2 : ¬9223372036854775807 < A.length + more.length + D2.length := by omega
      have hb3 : ¬9223372036854775807 < A.length + more.length + D1.length := by omega
      go_region_held3 (fun _ => True) (exact trivial) ((fail))
      have lX3 : w2.heap.size < w3.heap.size := by omega
      clear he1 he3 hr4 hw1 k1 k2 k3 z1 z2 z3 z4 hb1 hb2 hb3
      generalize hZ1 : A ++ (more ++ D2) = Z1 at *
      generalize hZ2 : A ++ (more ++ D1) = Z2 at *
      clear hZ1 hZ2
      go_wp2_with fail
      go_loopw [119] (fun iv wr => ∃ i : Nat, iv = .int .i64 i ∧ i ≤ 5 ∧ wr.heap[w2.heap.size]? = some (.cells (inC x) 23 (0, 0)) ∧ wr.heap[w3.heap.size]? = some (.cells (five s T Z1 Z2 A) 9 (0, 0)) ∧ Below w.heap.size w wr) (fun iv wr => 5 - ivN iv)
      case atStart => exact ⟨0, rfl, by decide, (Lib.alloc_old _ _ _ lX3).trans X3.out, heap_new w3 _, ext_drew (ext_alloc G3.out _)⟩
      case round =>
        obtain ⟨i, rfl, hi, hx, hsl, hbl⟩ := hrel
        have HX := Lib.hid hx
        have HSL := Lib.hid hsl
        have HBL := Lib.hid hbl
        have lx := (Array.getElem?_eq_some_iff.1 hsl).1
        by_cases h5 : i < 5
        · obtain ⟨z, hz⟩ := five_at hsl h5
          have hzs : (mk z).size = z.length := rfl
          clear hx hsl hbl
          by_cases hzl : 200 < z.length
          · have hzi : 200 < (z.length : Int) := by omega
            go_wp2_with fail
            go_roundw
            case rel => exact ⟨i + 1, rfl, by omega, HX.out, HSL.out, HBL.out⟩
            case measure => rw [ivN_int, show ((i : Int) + 1) = ((i + 1 : Nat) : Int) from rfl, ivN_int]; omega
          · have hzi : (z.length : Int) ≤ 200 := by omega
            have HPA := Lib.hid (fun w hv => parse_any z (by omega) w hv)
            have HRPA := Lib.hid (fun w => rparse_any z (by omega) w)
            have HLA := Lib.hid (fun w => label_any z w (by omega))
            have HRLA := Lib.hid (fun w => rlabel_any z w (by omega))
            generalize labelB z = lb at *
            have eb : (lb != lb) = false := by simp
            go_wp2_with fail
            refine (HPA.out _ (HV.out.ext HBL.out)).mono ?_; rintro e w5 ⟨pe, g5⟩
            obtain ⟨y, ky, rfl⟩ := parse_shape pe
            have HPE := Lib.hid pe
            have X5 := Lib.hid ((g5.block w2.heap.size (by omega)).trans HX.out)
            have S5 := Lib.hid ((g5.block w3.heap.size lx).trans HSL.out)
            have G5 := Lib.hid (ext_trans HBL.out g5)
            have l5 : wr.heap.size ≤ w5.heap.size := g5.size
            clear pe g5 HX HSL HBL hz
            unfold inV
            go_wp2_with fail
            refine (HRPA.out _).mono ?_; rintro e w6 ⟨pe, g6⟩
            obtain rfl := parse_same pe HPE.out
            have Y6 := (g6.block w5.heap.size (by simp)).trans (heap_new w5 (.cells (inC y) 23))
            have X6 := Lib.hid ((g6.block w2.heap.size (by simp; omega)).trans ((Lib.alloc_old _ _ _ (by omega)).trans X5.out))
            have S6 := Lib.hid ((g6.block w3.heap.size (by simp; omega)).trans ((Lib.alloc_old _ _ _ (by omega)).trans S5.out))
            have G6 := Lib.hid (ext_trans (ext_alloc G5.out _) g6)
            have l6 := g6.size
            have l6 : w5.heap.size < w6.heap.size := (Array.getElem?_eq_some_iff.1 Y6).1
            obtain ⟨⟨c0, c1, c2, c3, c4, c5⟩, _, _, _, _, _, _⟩ := six_at Y6
            have ty : (mk y.name).toList = y.name := mk_tl _
            have eky : (ky != ky) = false := by simp
            clear pe g6 Y6 X5 S5 G5
            unfold inV
            go_wp2_with fail
            refine (HLA.out _).mono ?_; rintro e w7 ⟨rfl, rfl⟩
            go_wp2_with fail
            refine (HRLA.out _).mono ?_; rintro e w7 ⟨rfl, rfl⟩
            go_wp2_with fail
            go_roundw
            case rel => exact ⟨i + 1, rfl, by omega, (Lib.alloc_old _ _ _ (by omega)).trans X6.out, (Lib.alloc_old _ _ _ (by omega)).trans S6.out, ext_alloc G6.out _⟩
            case measure => rw [ivN_int, show ((i : Int) + 1) = ((i + 1 : Nat) : Int) from rfl, ivN_int]; omega
        · obtain rfl : i = 5 := by omega
          have HR := Lib.hid (fun w => right_any x w HTX.out.1)
          rw [HRX.out] at HR
          unfold inV at HR
          obtain ⟨⟨c0, c1, c2, c3, c4, c5⟩, _, _, _, _, _, _⟩ := six_at hx
          clear hx hsl hbl
          go_wp2_with fail
          refine (HR.out _).mono ?_; rintro e w5 ⟨rfl, g5⟩
          go_wp2_with fail
          go_ret
          exact ⟨rfl, ext_trans HBL.out g5⟩
end Go.Proofs.YtdfiaefdbalcoaaDoor
