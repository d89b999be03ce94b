/- The walk of InstrRegisters. -/
import Derived.Test.YtdfiaefdbalcoaaDoorRows
import Derived.WalkKit
import Derived.ProofKit
import Derived.OpenShut
import Derived.WalkLawsBesides
import Derived.WalkSpells
import Derived.Outline
import Derived.Handy
import Derived.Lib.Hide
import Derived.Lib.OthersKept
import Derived.KernelRfl
import Derived.Deep.QuietTactic
import Derived.BigQuiet
import Derived.Test.YtdfiaefdbalcoaaDoorInL
import Derived.Test.YtdfiaefdbalcoaaDoorInM
namespace Go.Proofs.YtdfiaefdbalcoaaDoor
open Go.ChangeShapes Go.WideShapes Go.ChangeAt Go.RowKit
set_option linter.unusedVariables false
/-- What a right instruction reads: at most two registers, unlike. -/
theorem reads_short (x : In) (h : rightB x = true) : readsL x = [] ∨ (∃ a, readsL x = [a] ∧ 1 ≤ a ∧ a ≤ 31) ∨ ∃ a b, readsL x = [a, b] ∧ 1 ≤ a ∧ a ≤ 31 ∧ 1 ≤ b ∧ b ≤ 31 ∧ b ≠ a := by
  have hE := h
  rw [right_eq] at hE
  unfold rightE at hE
  simp only [Bool.and_eq_true] at hE
  obtain ⟨⟨⟨⟨⟨h0, h1⟩, h2⟩, h3⟩, h4⟩, h5⟩ := hE
  have ha : 0 ≤ x.a ∧ x.a < 32 := by
    split at h2
    · exact of_decide_eq_true h2
    · have := eq_of_beq h2; omega
  have hb : 0 ≤ x.b ∧ x.b < 32 := by
    split at h3
    · exact of_decide_eq_true h3
    · have := eq_of_beq h3; omega
  unfold readsL
  rw [h, if_pos rfl]
  split
  · exact .inr (.inl ⟨1, rfl, by decide, by decide⟩)
  split
  · exact .inr (.inr ⟨10, 17, rfl, by decide, by decide, by decide, by decide, by decide⟩)
  by_cases ka : x.a ≠ 0
  · rw [if_pos ka]
    by_cases kb : x.b ≠ 0 ∧ x.b ≠ x.a
    · rw [if_pos kb]
      exact .inr (.inr ⟨x.a, x.b, rfl, by omega, by omega, by omega, by omega, kb.2⟩)
    · rw [if_neg kb]
      exact .inr (.inl ⟨x.a, rfl, by omega, by omega⟩)
  · rw [if_neg ka]
    by_cases kb : x.b ≠ 0 ∧ x.b ≠ x.a
    · rw [if_pos kb]
      exact .inr (.inl ⟨x.b, rfl, by omega, by omega⟩)
    · rw [if_neg kb]
      exact .inl rfl
theorem writes_reg (x : In) (h : rightB x = true) : 0 ≤ writesL x ∧ writesL x ≤ 31 := by
  have hE := h
  rw [right_eq] at hE
  unfold rightE at hE
  simp only [Bool.and_eq_true] at hE
  obtain ⟨⟨⟨⟨⟨h0, h1⟩, h2⟩, h3⟩, h4⟩, h5⟩ := hE
  unfold writesL
  rw [h, if_pos rfl]
  split
  · decide
  split
  · decide
  · split at h1
    · have := of_decide_eq_true h1; omega
    · have := eq_of_beq h1; omega
theorem wrong_d (x : In) (n : Int) (hn : 32 ≤ n) : rightB { x with d := n } = false := by
  rw [right_eq]; unfold rightE
  have h1 : regB n = false := decide_eq_false (by omega)
  have h2 : (n == 0) = false := by rw [beq_eq_false_iff_ne]; omega
  simp [h1, h2]
theorem wrong_a (x : In) (n : Int) (hn : 32 ≤ n) : rightB { x with a := -n } = false := by
  rw [right_eq]; unfold rightE
  have h1 : regB (-n) = false := decide_eq_false (by omega)
  have h2 : (-n == 0) = false := by rw [beq_eq_false_iff_ne]; omega
  simp [h1, h2]
theorem wrong_b (x : In) (n : Int) (hn : 32 ≤ n) : rightB { x with b := n } = false := by
  rw [right_eq]; unfold rightE
  have h1 : regB n = false := decide_eq_false (by omega)
  have h2 : (n == 0) = false := by rw [beq_eq_false_iff_ne]; omega
  simp [h1, h2]
theorem ints_nil {w : World} {v : Value} (h : IntsAt w v []) : ∃ ad cap, v = .slice ad 0 cap := by
  rcases h with ⟨h, _⟩ | ⟨b, cap, h, _⟩
  · exact ⟨none, 0, h⟩
  · exact ⟨_, cap, h⟩
theorem wrong_reads (x : In) (h : rightB x = false) : readsL x = [] := by unfold readsL; rw [h]; rfl
theorem wrong_writes (x : In) (h : rightB x = false) : writesL x = 0 := by unfold writesL; rw [h]; rfl
def WrongAll (y : In) : Prop := rightB y = false ∧ y.name.length ≤ 140737488355328
set_option maxRecDepth 100000 in
set_option maxHeartbeats 16000000 in
theorem registers_walk (raw : In) (which n : Int) (hraw : AllI raw) (hwh : I64 which) (hn : I64 n) (w : World) (hv : Env w) : Calls Tryd.prog 6 #[inV raw, .int .i64 which, .int .i64 n] w fun e w' => e = .returned (.bool true) ∧ Below w.heap.size w w' := by
  have HV := Lib.hid hv
  have HAW := Lib.hid (fun w hv => awake_any w hv)
  have HFI := Lib.hid (fun w => fit_any raw hraw w)
  obtain ⟨hr, hnn⟩ := fit_right raw hraw.2.2.2.2
  have hnl : (fitL raw).name.length ≤ 140737488355328 := by have := (right_fits hr hnn).2.2.2.2; omega
  have HRE := Lib.hid (fun w => reads_any (fitL raw) w hnl)
  have hsh := reads_short (fitL raw) hr
  have HWR := Lib.hid (fun w => writes_any (fitL raw) w hnl)
  have hwr := writes_reg (fitL raw) hr
  obtain ⟨q, hq, hq2⟩ := pickN_nat n 1000 (by decide)
  have HPI : Hid (∀ w, Calls Tryd.prog 20 #[.int .i64 n, .int .i64 1000] w fun e w' => e = .returned (.int .i64 (q : Int)) ∧ w = w') := Lib.hid (fun w => (pick_any n 1000 w hn (by decide)).mono fun e w' h => ⟨by rw [← hq]; exact h.1, h.2⟩)
  obtain ⟨s, hs, hs2⟩ := pickN_nat which 3 (by decide)
  have HPS : Hid (∀ w, Calls Tryd.prog 20 #[.int .i64 which, .int .i64 3] w fun e w' => e = .returned (.int .i64 (s : Int)) ∧ w = w') := Lib.hid (fun w => (pick_any which 3 w hwh (by decide)).mono fun e w' h => ⟨by rw [← hs]; exact h.1, h.2⟩)
  have hm1 : 32 ≤ 32 + (q : Int) := by omega
  have hm2 : 32 + (q : Int) ≤ 1031 := by omega
  have HD := Lib.hid (show WrongAll { fitL raw with d := 32 + (q : Int) } from ⟨wrong_d _ _ hm1, hnl⟩)
  have HA := Lib.hid (show WrongAll { fitL raw with a := -(32 + (q : Int)) } from ⟨wrong_a _ _ hm1, hnl⟩)
  have HB := Lib.hid (show WrongAll { fitL raw with b := 32 + (q : Int) } from ⟨wrong_b _ _ hm1, hnl⟩)
  have hq1 : (q : Int) ≤ 999 := by omega
  unfold inV at HFI HRE HWR ⊢
  clear hv hq hs hr hnn hnl hraw hwh hn
  generalize writesL (fitL raw) = wr0 at *
  generalize readsL (fitL raw) = L at *
  generalize fitL raw = x at *
  have HM1 := Lib.hid hm1
  have HM2 := Lib.hid hm2
  clear hm1 hm2
  go_enter Tryd.func6, Tryd.ntmps6
  go_wp2_with fail
  refine (HAW.out _ (HV.out.ext (ext_alloc (Below.refl _ _) _))).mono ?_; rintro e w1 ⟨rfl, g1⟩
  have B1 := (g1.block w.heap.size (by simp)).trans (heap_new w _)
  have G1 := Lib.hid (ext_trans (ext_alloc (Below.refl w.heap.size w) _) g1)
  obtain ⟨⟨c0, c1, c2, c3, c4, c5⟩, _, _, _, _, _, _⟩ := six_at B1
  clear B1 g1
  go_wp2_with fail
  refine (HFI.out _).mono ?_; rintro e w2 ⟨rfl, g2⟩
  have G2 := Lib.hid (ext_trans G1.out g2)
  clear c0 c1 c2 c3 c4 c5 g2 G1
  go_wp2_with fail
  refine (HRE.out _).mono ?_; rintro e w3 ⟨⟨v, rfl, hv⟩, g3⟩
  have X3 := Lib.hid ((g3.block w2.heap.size (by simp)).trans (heap_new w2 _))
  have G3 := Lib.hid (ext_trans (ext_alloc G2.out _) g3)
  have HI := Lib.hid hv
  have hLl : L.length ≤ 2 := by rcases hsh with rfl | ⟨a, rfl, _⟩ | ⟨a, b, rfl, _⟩ <;> simp
  obtain ⟨ad, cap, rfl⟩ : ∃ ad cap, v = .slice ad L.length cap := by
    rcases hv with ⟨h, rfl⟩ | ⟨b, cap, h, _⟩
    · exact ⟨none, 0, h⟩
    · exact ⟨_, _, h⟩
  clear g3 G2 hv
  go_wp2_with fail
  go_loopw [10] (fun iv wr => ∃ i : Nat, iv = .int .i64 i ∧ i ≤ L.length ∧ wr.heap[w2.heap.size]? = some (.cells (inC x) 23 (0, 0)) ∧ Below w.heap.size w wr ∧ IntsAt wr (.slice ad L.length cap) L) (fun iv wr => L.length - (match iv with | .int _ k => k.toNat | _ => 0))
  case atStart => exact ⟨0, rfl, Nat.zero_le _, X3.out, G3.out, HI.out⟩
  case round =>
    obtain ⟨i, rfl, hi, hx, hbl, hin⟩ := hrel
    have HX := Lib.hid hx
    have HBL := Lib.hid hbl
    have HIN := Lib.hid hin
    have lx := (Array.getElem?_eq_some_iff.1 hx).1
    clear hx hbl hin
    by_cases hlt : i < L.length
    · obtain ⟨bb, rfl, hbb, hcell⟩ : ∃ bb, ad = some ⟨bb, 0, none⟩ ∧ bb < wr.heap.size ∧ ∀ j (h : j < L.length), wr.cell? ⟨bb, j, none⟩ = some (.int .i64 (L[j]'h)) := by
        rcases HIN.out with ⟨_, h⟩ | ⟨bb, cap', h, h2, h3⟩
        · rw [h] at hlt; simp at hlt
        · exact ⟨bb, by injection h, h2, h3⟩
      have key : (i = 0 ∧ ∃ a, wr.cell? ⟨bb, 0, none⟩ = some (.int .i64 a) ∧ 1 ≤ a ∧ a ≤ 31) ∨ (i = 1 ∧ ∃ a b, wr.cell? ⟨bb, 0, none⟩ = some (.int .i64 a) ∧ wr.cell? ⟨bb, 1, none⟩ = some (.int .i64 b) ∧ 1 ≤ b ∧ b ≤ 31 ∧ (b == a) = false) := by
        rcases hsh with rfl | ⟨a, rfl, ha⟩ | ⟨a, b, rfl, ha1, ha2, hb1, hb2, hab⟩
        · simp at hlt
        · obtain rfl : i = 0 := by simp at hlt; omega
          exact .inl ⟨rfl, a, hcell 0 (by simp), ha⟩
        · match i, hlt with
          | 0, _ => exact .inl ⟨rfl, a, hcell 0 (by simp), ha1, ha2⟩
          | 1, _ => exact .inr ⟨rfl, a, b, hcell 0 (by simp), hcell 1 (by simp), hb1, hb2, beq_eq_false_iff_ne.2 hab⟩
      have hlt' : (i : Int) < (L.length : Int) := by omega
      clear hcell hsh hbb
      generalize L.length = len at *
      rcases key with ⟨rfl, a, k0, a1, a2⟩ | ⟨rfl, a, b, k0, k1, b1, b2, hab⟩
      · have q1 : decide (a < 1) = false := decide_eq_false (by omega)
        have q2 : decide (31 < a) = false := decide_eq_false (by omega)
        clear a1 a2
        go_wp2_with fail
        go_quiet (fail)
        go_wp2_with fail
        go_roundw
        case rel => exact ⟨1, rfl, by omega, HX.out, ext_drewN HBL.out _, HIN.out.ext (ext_drewN (Below.refl _ _) _)⟩
        case measure => simp; omega
      · have q1 : decide (b < 1) = false := decide_eq_false (by omega)
        have q2 : decide (31 < b) = false := decide_eq_false (by omega)
        clear b1 b2
        go_wp2_with fail
        go_quiet (fail)
        go_wp2_with fail
        go_roundw
        case rel => exact ⟨2, rfl, by omega, HX.out, ext_drewN HBL.out _, HIN.out.ext (ext_drewN (Below.refl _ _) _)⟩
        case measure => simp; omega
    · obtain rfl : i = L.length := by omega
      clear HIN hsh
      obtain ⟨⟨c0, c1, c2, c3, c4, c5⟩, _, _, _, _, _, _⟩ := six_at HX.out
      generalize L.length = len at *
      have hlen2 : (len : Int) ≤ 2 := by omega
      go_wp2_with fail
      refine (HWR.out _).mono ?_; rintro e w4 ⟨rfl, g4⟩
      have X4 := Lib.hid ((g4.block w2.heap.size lx).trans HX.out)
      have B4 := Lib.hid (ext_trans HBL.out g4)
      have l4 := (Array.getElem?_eq_some_iff.1 X4.out).1
      clear c0 c1 c2 c3 c4 c5 g4
      obtain ⟨⟨c0, c1, c2, c3, c4, c5⟩, _, _, _, _, _, _⟩ := six_at X4.out
      obtain ⟨hw1, hw2⟩ := hwr
      go_wp2_with fail
      refine (HPI.out _).mono ?_; rintro e w5 ⟨rfl, rfl⟩
      go_wp2_with fail
      refine (HPS.out _).mono ?_; rintro e w5 ⟨rfl, rfl⟩
      generalize 32 + (q : Int) = m at *
      have hm1 := HM1.out
      have hm2 := HM2.out
      clear c0 c1 c2 c3 c4 c5
      have hs3 : s = 0 ∨ s = 1 ∨ s = 2 := by omega
      rcases hs3 with rfl | rfl | rfl
      · have HPN := Lib.hid (fun w => print_no { x with d := m } w HD.out.2 HD.out.1)
        have HRT := Lib.hid (fun w => right_any { x with d := m } w HD.out.2)
        rw [HD.out.1] at HRT
        have HRD := Lib.hid (fun w => reads_any { x with d := m } w HD.out.2)
        rw [wrong_reads _ HD.out.1] at HRD
        have HWT := Lib.hid (fun w => writes_any { x with d := m } w HD.out.2)
        rw [wrong_writes _ HD.out.1] at HWT
        unfold inV at HPN HRT HRD HWT
        dsimp only at HPN HRT HRD HWT
        simp only [show mk [] = (⟨#[]⟩ : ByteArray) from rfl] at HPN
        go_wp2_with fail
        refine (HPN.out _).mono ?_; rintro e w6 ⟨rfl, g6⟩
        have Y6 := (g6.block w4.heap.size (by simp)).trans (heap_new w4 _)
        have B6 := Lib.hid (ext_trans (ext_alloc B4.out _) g6)
        have l6 := (Array.getElem?_eq_some_iff.1 Y6).1
        obtain ⟨⟨d0, d1, d2, d3, d4, d5⟩, _, _, _, _, _, _⟩ := six_at Y6
        clear g6
        go_wp2_with fail
        refine (HRT.out _).mono ?_; rintro e w7 ⟨rfl, g7⟩
        have Y7 := (g7.block w4.heap.size l6).trans Y6
        have B7 := Lib.hid (ext_trans B6.out g7)
        have l7 := (Array.getElem?_eq_some_iff.1 Y7).1
        clear d0 d1 d2 d3 d4 d5
        obtain ⟨⟨d0, d1, d2, d3, d4, d5⟩, _, _, _, _, _, _⟩ := six_at Y7
        clear g7 Y6
        go_wp2_with fail
        refine (HRD.out _).mono ?_; rintro e w8 ⟨⟨v8, rfl, hv8⟩, g8⟩
        obtain ⟨ad8, cap8, rfl⟩ := ints_nil hv8
        have Y8 := (g8.block w4.heap.size l7).trans Y7
        have B8 := Lib.hid (ext_trans B7.out g8)
        clear d0 d1 d2 d3 d4 d5 hv8
        obtain ⟨⟨d0, d1, d2, d3, d4, d5⟩, _, _, _, _, _, _⟩ := six_at Y8
        clear g8 Y7 Y8
        go_wp2_with fail
        refine (HWT.out _).mono ?_; rintro e w9 ⟨rfl, g9⟩
        have B9 := Lib.hid (ext_trans B8.out g9)
        clear d0 d1 d2 d3 d4 d5 g9
        go_wp2_with fail
        go_ret
        exact ⟨rfl, B9.out⟩
      · have HPN := Lib.hid (fun w => print_no { x with a := -m } w HA.out.2 HA.out.1)
        have HRT := Lib.hid (fun w => right_any { x with a := -m } w HA.out.2)
        rw [HA.out.1] at HRT
        have HRD := Lib.hid (fun w => reads_any { x with a := -m } w HA.out.2)
        rw [wrong_reads _ HA.out.1] at HRD
        have HWT := Lib.hid (fun w => writes_any { x with a := -m } w HA.out.2)
        rw [wrong_writes _ HA.out.1] at HWT
        unfold inV at HPN HRT HRD HWT
        dsimp only at HPN HRT HRD HWT
        simp only [show mk [] = (⟨#[]⟩ : ByteArray) from rfl] at HPN
        go_wp2_with fail
        refine (HPN.out _).mono ?_; rintro e w6 ⟨rfl, g6⟩
        have Y6 := (g6.block w4.heap.size (by simp)).trans (heap_new w4 _)
        have B6 := Lib.hid (ext_trans (ext_alloc B4.out _) g6)
        have l6 := (Array.getElem?_eq_some_iff.1 Y6).1
        obtain ⟨⟨d0, d1, d2, d3, d4, d5⟩, _, _, _, _, _, _⟩ := six_at Y6
        clear g6
        go_wp2_with fail
        refine (HRT.out _).mono ?_; rintro e w7 ⟨rfl, g7⟩
        have Y7 := (g7.block w4.heap.size l6).trans Y6
        have B7 := Lib.hid (ext_trans B6.out g7)
        have l7 := (Array.getElem?_eq_some_iff.1 Y7).1
        clear d0 d1 d2 d3 d4 d5
        obtain ⟨⟨d0, d1, d2, d3, d4, d5⟩, _, _, _, _, _, _⟩ := six_at Y7
        clear g7 Y6
        go_wp2_with fail
        refine (HRD.out _).mono ?_; rintro e w8 ⟨⟨v8, rfl, hv8⟩, g8⟩
        obtain ⟨ad8, cap8, rfl⟩ := ints_nil hv8
        have Y8 := (g8.block w4.heap.size l7).trans Y7
        have B8 := Lib.hid (ext_trans B7.out g8)
        clear d0 d1 d2 d3 d4 d5 hv8
        obtain ⟨⟨d0, d1, d2, d3, d4, d5⟩, _, _, _, _, _, _⟩ := six_at Y8
        clear g8 Y7 Y8
        go_wp2_with fail
        refine (HWT.out _).mono ?_; rintro e w9 ⟨rfl, g9⟩
        have B9 := Lib.hid (ext_trans B8.out g9)
        clear d0 d1 d2 d3 d4 d5 g9
        go_wp2_with fail
        go_ret
        exact ⟨rfl, B9.out⟩
      · have HPN := Lib.hid (fun w => print_no { x with b := m } w HB.out.2 HB.out.1)
        have HRT := Lib.hid (fun w => right_any { x with b := m } w HB.out.2)
        rw [HB.out.1] at HRT
        have HRD := Lib.hid (fun w => reads_any { x with b := m } w HB.out.2)
        rw [wrong_reads _ HB.out.1] at HRD
        have HWT := Lib.hid (fun w => writes_any { x with b := m } w HB.out.2)
        rw [wrong_writes _ HB.out.1] at HWT
        unfold inV at HPN HRT HRD HWT
        dsimp only at HPN HRT HRD HWT
        simp only [show mk [] = (⟨#[]⟩ : ByteArray) from rfl] at HPN
        go_wp2_with fail
        refine (HPN.out _).mono ?_; rintro e w6 ⟨rfl, g6⟩
        have Y6 := (g6.block w4.heap.size (by simp)).trans (heap_new w4 _)
        have B6 := Lib.hid (ext_trans (ext_alloc B4.out _) g6)
        have l6 := (Array.getElem?_eq_some_iff.1 Y6).1
        obtain ⟨⟨d0, d1, d2, d3, d4, d5⟩, _, _, _, _, _, _⟩ := six_at Y6
        clear g6
        go_wp2_with fail
        refine (HRT.out _).mono ?_; rintro e w7 ⟨rfl, g7⟩
        have Y7 := (g7.block w4.heap.size l6).trans Y6
        have B7 := Lib.hid (ext_trans B6.out g7)
        have l7 := (Array.getElem?_eq_some_iff.1 Y7).1
        clear d0 d1 d2 d3 d4 d5
        obtain ⟨⟨d0, d1, d2, d3, d4, d5⟩, _, _, _, _, _, _⟩ := six_at Y7
        clear g7 Y6
        go_wp2_with fail
        refine (HRD.out _).mono ?_; rintro e w8 ⟨⟨v8, rfl, hv8⟩, g8⟩
        obtain ⟨ad8, cap8, rfl⟩ := ints_nil hv8
        have Y8 := (g8.block w4.heap.size l7).trans Y7
        have B8 := Lib.hid (ext_trans B7.out g8)
        clear d0 d1 d2 d3 d4 d5 hv8
        obtain ⟨⟨d0, d1, d2, d3, d4, d5⟩, _, _, _, _, _, _⟩ := six_at Y8
        clear g8 Y7 Y8
        go_wp2_with fail
        refine (HWT.out _).mono ?_; rintro e w9 ⟨rfl, g9⟩
        have B9 := Lib.hid (ext_trans B8.out g9)
        clear d0 d1 d2 d3 d4 d5 g9
        go_wp2_with fail
        go_ret
        exact ⟨rfl, B9.out⟩
end Go.Proofs.YtdfiaefdbalcoaaDoor
