/- The walk of InstrBack. -/
import Derived.Test.YtdfiaefdbalcoaaDoorRows
import Derived.WalkKit
import Derived.ProofKit
import Derived.OpenShut
import Derived.WalkLawsBesides
import Derived.WalkSpells
import Derived.Outline
import Derived.Handy
import Derived.Lib.Hide
import Derived.Lib.OthersKept
import Derived.KernelRfl
import Derived.Test.YtdfiaefdbalcoaaDoorInL
import Derived.Test.YtdfiaefdbalcoaaDoorInM
namespace Go.Proofs.YtdfiaefdbalcoaaDoor
open Go.ChangeShapes Go.WideShapes Go.ChangeAt Go.RowKit
set_option linter.unusedVariables false
set_option maxRecDepth 100000 in
set_option maxHeartbeats 8000000 in
theorem back_walk (r1 r2 : In) (h1 : AllI r1) (h2 : AllI r2) (w : World) (hv : Env w) : Calls Tryd.prog 4 #[inV r1, inV r2] w fun e w' => e = .returned (.bool true) ∧ Below w.heap.size w w' := by
  have HV := Lib.hid hv
  have HAW := Lib.hid (fun w hv => awake_any w hv)
  have HF1 := Lib.hid (fun w => fit_any r1 h1 w)
  have HF2 := Lib.hid (fun w => fit_any r2 h2 w)
  obtain ⟨hr, hn⟩ := fit_right r1 h1.2.2.2.2
  obtain ⟨hs, hm⟩ := fit_right r2 h2.2.2.2.2
  have HP1 := Lib.hid (fun w hv => print_yes (fitL r1) w hn hr hv)
  have HP2 := Lib.hid (fun w hv => print_yes (fitL r2) w hm hs hv)
  have HPA := Lib.hid (fun w hv => parse_good (fitL r1) hr hn w hv)
  have HINJ : Hid (txtL (fitL r1) = txtL (fitL r2) ↔ fitL r1 = fitL r2) := Lib.hid ⟨fun e => txt_inj hr hs hn hm e, fun e => by rw [e]⟩
  unfold inV at HF1 HF2 HP1 HP2 HPA ⊢
  have tT : (mk (txtL (fitL r1))).toList = txtL (fitL r1) := mk_tl _
  have tU : (mk (txtL (fitL r2))).toList = txtL (fitL r2) := mk_tl _
  clear hv hr hn hs hm
  generalize txtL (fitL r1) = T at *
  generalize txtL (fitL r2) = U at *
  generalize fitL r1 = x at *
  generalize fitL r2 = y at *
  go_enter Tryd.func4, Tryd.ntmps4
  go_wp2_with fail
  refine (HAW.out _ (HV.out.ext (ext_alloc (ext_alloc (Below.refl _ _) _) _))).mono ?_; rintro e w1 ⟨rfl, g1⟩
  have B1 := (g1.block w.heap.size (by simp; omega)).trans ((Lib.alloc_old _ _ _ (by simp)).trans (heap_new w _))
  have C1 := Lib.hid ((g1.block (w.heap.size + 1) (by simp)).trans (heap_new' _ _ _ (by simp)))
  have G1 := Lib.hid (ext_trans (ext_alloc (ext_alloc (Below.refl w.heap.size w) _) _) g1)
  have l1 := (Array.getElem?_eq_some_iff.1 C1.out).1
  obtain ⟨⟨c0, c1, c2, c3, c4, c5⟩, _, _, _, _, _, _⟩ := six_at B1
  clear B1 g1
  go_wp2_with fail
  refine (HF1.out _).mono ?_; rintro e w2 ⟨rfl, g2⟩
  have G2 := Lib.hid (ext_trans G1.out g2)
  have C2 := (g2.block (w.heap.size + 1) l1).trans C1.out
  have l2 := (Array.getElem?_eq_some_iff.1 C2).1
  clear c0 c1 c2 c3 c4 c5 g2 G1 C1
  obtain ⟨⟨c0, c1, c2, c3, c4, c5⟩, _, _, _, _, _, _⟩ := six_at C2
  clear C2
  go_wp2_with fail
  refine (HF2.out _).mono ?_; rintro e w3 ⟨rfl, g3⟩
  have X3 := Lib.hid ((g3.block w2.heap.size (by simp)).trans (heap_new w2 _))
  have G3 := Lib.hid (ext_trans (ext_alloc G2.out _) g3)
  have l3 := (Array.getElem?_eq_some_iff.1 X3.out).1
  clear c0 c1 c2 c3 c4 c5 g3 G2
  obtain ⟨⟨c0, c1, c2, c3, c4, c5⟩, _, _, _, _, _, _⟩ := six_at X3.out
  go_wp2_with fail
  refine (HP1.out _ (HV.out.ext (ext_alloc G3.out _))).mono ?_; rintro e w4 ⟨rfl, g4⟩
  have X4 := Lib.hid ((g4.block w2.heap.size (by simp; omega)).trans ((Lib.alloc_old _ _ _ l3).trans X3.out))
  have Y4 := (g4.block w3.heap.size (by simp)).trans (heap_new w3 _)
  have G4 := Lib.hid (ext_trans (ext_alloc G3.out _) g4)
  have l4 := (Array.getElem?_eq_some_iff.1 X4.out).1
  have m4 := (Array.getElem?_eq_some_iff.1 Y4).1
  clear c0 c1 c2 c3 c4 c5 g4 G3 X3
  obtain ⟨⟨d0, d1, d2, d3, d4, d5⟩, _, _, _, _, _, _⟩ := six_at Y4
  have Y4 := Lib.hid Y4
  go_wp2_with fail
  refine (HP2.out _ (HV.out.ext G4.out)).mono ?_; rintro e w5 ⟨rfl, g5⟩
  have X5 := Lib.hid ((g5.block w2.heap.size l4).trans X4.out)
  have Y5 := Lib.hid ((g5.block w3.heap.size m4).trans Y4.out)
  have G5 := Lib.hid (ext_trans G4.out g5)
  have l5 := (Array.getElem?_eq_some_iff.1 X5.out).1
  have m5 := (Array.getElem?_eq_some_iff.1 Y5.out).1
  clear d0 d1 d2 d3 d4 d5 g5 G4 X4 Y4
  go_wp2_with fail
  refine (HPA.out _ (HV.out.ext G5.out)).mono ?_; rintro e w6 ⟨rfl, g6⟩
  have X6 := (g6.block w2.heap.size l5).trans X5.out
  have Y6 := (g6.block w3.heap.size m5).trans Y5.out
  have G6 := Lib.hid (ext_trans G5.out g6)
  have l6 := (Array.getElem?_eq_some_iff.1 X6).1
  have m6 := (Array.getElem?_eq_some_iff.1 Y6).1
  clear g6 G5 X5 Y5
  obtain ⟨⟨c0, c1, c2, c3, c4, c5⟩, _, _, _, _, _, _⟩ := six_at X6
  obtain ⟨⟨d0, d1, d2, d3, d4, d5⟩, _, _, _, _, _, _⟩ := six_at Y6
  clear X6 Y6
  have tx : (mk x.name).toList = x.name := mk_tl _
  have ty : (mk y.name).toList = y.name := mk_tl _
  by_cases hT : T = U
  · have hx := HINJ.out.1 hT
    subst hT hx
    go_wp2_with fail
    go_ret
    exact ⟨rfl, ext_alloc G6.out _⟩
  · have HX : Hid (x ≠ y) := Lib.hid (fun e => hT (HINJ.out.2 e))
    have hbe : (T == U) = false := beq_eq_false_iff_ne.2 hT
    clear hT
    go_wp2_with fail
    all_goals first
      | (go_ret; exact ⟨rfl, ext_alloc G6.out _⟩)
      | exact absurd (in_ext ‹_› ‹_› ‹_› ‹_› ‹_› ‹_›) HX.out
end Go.Proofs.YtdfiaefdbalcoaaDoor
