/- The document's own answer: an instruction parsed. -/
import Derived.Test.YtdfiaefdbalcoaaDoorRows
import Derived.WalkKit
import Derived.ProofKit
import Derived.OpenShut
import Derived.WalkLawsBesides
import Derived.WalkSpells
import Derived.Outline
import Derived.Handy
import Derived.Lib.Hide
import Derived.Lib.OthersKept
import Derived.KernelRfl
import Derived.Deep.Cut
import Derived.Test.YtdfiaefdbalcoaaDoorInH
import Derived.Test.YtdfiaefdbalcoaaDoorInTr
import Derived.Test.YtdfiaefdbalcoaaDoorInTw
namespace Go.Proofs.YtdfiaefdbalcoaaDoor
open Go.ChangeShapes Go.WideShapes Go.ChangeAt Go.RowKit
set_option linter.unusedVariables false
set_option maxHeartbeats 8000000 in
set_option maxRecDepth 100000 in
theorem rparse_any (l : List UInt8) (hl : l.length ≤ 100000) (w : World) : Calls Tryd.prog 22 #[.string (mk l)] w fun e w' => ParseRes l e ∧ Below w.heap.size w w' := by
  have hts : (mk l).toList = l := mk_tl l
  have HRB : Hid (∀ x, rightB x = true → I64 x.n → txtL x = l → rreadL x.op (nmL x.op) (hasL x.op) l = x) := Lib.hid (fun x h hn e => by rw [← e]; exact rread_back h hn)
  go_enter Tryd.func22, Tryd.ntmps22
  go_wp2_with fail
  go_loopw [4] (fun v wr => ∃ k : Nat, v = .int .i64 k ∧ 1 ≤ k ∧ k ≤ 29 ∧ wr.heap[w.heap.size]? = some (.cells (inC zeroI) 23 (0, 0)) ∧ Below w.heap.size w wr ∧ (∀ x, rightB x = true → I64 x.n → txtL x = l → (k : Int) ≤ x.op)) (fun v wr => 29 - (match v with | .int _ k => k.toNat | _ => 0))
  case atStart => exact ⟨1, rfl, Nat.le_refl _, by decide, heap_new w (.cells (inC zeroI) 23), ext_alloc (Below.refl _ _) _, fun x h _ _ => (of_decide_eq_true (right_op h)).1⟩
  case round =>
    obtain ⟨k, rfl, hk1, hk2, hbx, hbl, hno⟩ := hrel
    have HNO := Lib.hid hno
    have HBX := Lib.hid hbx
    have HBL := Lib.hid hbl
    have hzr : w.heap.size < wr.heap.size := (Array.getElem?_eq_some_iff.1 hbx).1
    clear hno hbx hbl
    by_cases hk : k ≤ 28
    · have HRD := Lib.hid (fun w => rread_any (k : Int) l hl w)
      have HFI := Lib.hid (rread_i (k : Int) (nmL (k : Int)) (hasL (k : Int)) l)
      have HRK : Hid (∀ x, rightB x = true → I64 x.n → x.op = (k : Int) → txtL x = l → rreadL (k : Int) (nmL (k : Int)) (hasL (k : Int)) l = x) := Lib.hid (fun x h hn e t => by rw [← e]; exact HRB.out x h hn t)
      have HNEXT : Hid ((∀ x, rightB x = true → I64 x.n → txtL x = l → x.op ≠ (k : Int)) → ∀ x, rightB x = true → I64 x.n → txtL x = l → ((k + 1 : Nat) : Int) ≤ x.op) := Lib.hid (fun h x h1 h2 h3 => by have := HNO.out x h1 h2 h3; have := h x h1 h2 h3; omega)
      generalize rreadL (k : Int) (nmL (k : Int)) (hasL (k : Int)) l = y at *
      have HYN : Hid (I64 y.n) := Lib.hid HFI.out.1
      have HYL : Hid (y.name.length ≤ 140737488355328) := Lib.hid (by have := HFI.out.2.1; omega)
      have HYO : Hid (y.op = (k : Int)) := Lib.hid HFI.out.2.2
      clear HFI
      cases hr : rightB y
      · have HPN := Lib.hid (fun w => rprint_no y w HYL.out hr)
        have HN2 : Hid (∀ x, rightB x = true → I64 x.n → txtL x = l → x.op ≠ (k : Int)) := Lib.hid (fun x h1 h2 h3 e => by
          have := HRK.out x h1 h2 e h3
          rw [this, h1] at hr; cases hr)
        clear hr
        unfold inV at HRD HPN
        go_wp2_with fail
        refine (HRD.out _).mono ?_; rintro e w3 ⟨rfl, g3⟩
        have HBX3 := Lib.hid ((g3.block w.heap.size hzr).trans HBX.out)
        have HBL3 := Lib.hid (ext_trans HBL.out g3)
        have hz3 : w.heap.size < w3.heap.size := by have := g3.size; omega
        clear g3 HRD
        go_wp2_with fail
        refine (HPN.out _).mono ?_; rintro e w4 ⟨rfl, g4⟩
        go_wp2_with fail
        go_roundw
        case rel => exact ⟨k + 1, rfl, by omega, by omega, (g4.block w.heap.size (by simp; omega)).trans ((Lib.alloc_old _ _ _ hz3).trans HBX3.out), ext_trans (ext_alloc HBL3.out _) g4, HNEXT.out HN2.out⟩
        case measure => simp; omega
      · have HPY := Lib.hid (fun w => rprint_yes y w HYN.out hr)
        have HR := Lib.hid hr
        clear hr
        have ht2 : (mk (txtL y)).toList = txtL y := mk_tl _
        by_cases hty : txtL y = l
        · have HTY := Lib.hid hty
          have HGOOD : Hid (ParseRes l (.returned (.tuple #[inV y, .int .i64 0]))) := Lib.hid (.inl ⟨y, HR.out, HYN.out, hty, rfl⟩)
          rw [hty] at HPY ht2
          clear hty ht2
          have hll : (l == l) = true := beq_self_eq_true l
          unfold inV at HRD HPY
          go_wp2_with fail
          refine (HRD.out _).mono ?_; rintro e w3 ⟨rfl, g3⟩
          have HBX3 := Lib.hid ((g3.block w.heap.size hzr).trans HBX.out)
          have HBL3 := Lib.hid (ext_trans HBL.out g3)
          have hz3 : w.heap.size < w3.heap.size := by have := g3.size; omega
          clear g3 HRD
          go_wp2_with fail
          refine (HPY.out _).mono ?_; rintro e w4 ⟨rfl, g4⟩
          have hrb4 : w4.heap[w3.heap.size]? = some (.cells (inC y) 23 (0, 0)) := (g4.block w3.heap.size (by simp)).trans (heap_new w3 (.cells (inC y) 23))
          have hbx4 := (g4.block w.heap.size (by simp; omega)).trans ((Lib.alloc_old _ _ _ hz3).trans HBX3.out)
          have hbl4 := ext_trans (ext_alloc HBL3.out _) g4
          obtain ⟨⟨d0, d1, d2, d3, d4, d5⟩, f0, f1, f2, f3, f4, f5⟩ := six_at hrb4
          obtain ⟨⟨c0, c1, c2, c3, c4, c5⟩, g0, g1, g2, g3, g4', g5⟩ := six_at hbx4
          obtain ⟨wf, hwf, hhf, hbf⟩ := six_store hbx4 hbl4 (Nat.le_refl _) y
          have HWF := Lib.hid hwf
          have HHF := Lib.hid hhf
          have HBF := Lib.hid hbf
          clear hwf hhf hbf hrb4 hbx4 hbl4 g4
          go_wp2_with fail
          refine bodyPost_w HWF.out ?_
          clear c0 c1 c2 c3 c4 c5 g0 g1 g2 g3 g4' g5 d0 d1 d2 d3 d4 d5 f0 f1 f2 f3 f4 f5
          obtain ⟨⟨c0, c1, c2, c3, c4, c5⟩, g0, g1, g2, g3, g4, g5⟩ := six_at HHF.out
          exact bodyPost_ret (v := .tuple #[inV y, .int .i64 0]) (by simp [results, Tryd.results22, go_sem, inV, c0, c1, c2, c3, c4, c5]) rfl ⟨HGOOD.out, HBF.out⟩
        · have HN2 : Hid (∀ x, rightB x = true → I64 x.n → txtL x = l → x.op ≠ (k : Int)) := Lib.hid (fun x h1 h2 h3 e => by
            have := HRK.out x h1 h2 e h3
            rw [← this] at h3; exact hty h3)
          have hbe : (txtL y == l) = false := beq_eq_false_iff_ne.2 hty
          generalize txtL y = T at *
          clear hty
          unfold inV at HRD HPY
          go_wp2_with fail
          refine (HRD.out _).mono ?_; rintro e w3 ⟨rfl, g3⟩
          have HBX3 := Lib.hid ((g3.block w.heap.size hzr).trans HBX.out)
          have HBL3 := Lib.hid (ext_trans HBL.out g3)
          have hz3 : w.heap.size < w3.heap.size := by have := g3.size; omega
          clear g3 HRD
          go_wp2_with fail
          refine (HPY.out _).mono ?_; rintro e w4 ⟨rfl, g4⟩
          go_wp2_with fail
          go_roundw
          case rel => exact ⟨k + 1, rfl, by omega, by omega, (g4.block w.heap.size (by simp; omega)).trans ((Lib.alloc_old _ _ _ hz3).trans HBX3.out), ext_trans (ext_alloc HBL3.out _) g4, HNEXT.out HN2.out⟩
          case measure => simp; omega
    · obtain rfl : k = 29 := by omega
      have HBAD : Hid (ParseRes l (.returned (.tuple #[inV zeroI, .int .i64 60]))) := Lib.hid (.inr ⟨fun x h1 h2 h3 => by have := HNO.out x h1 h2 h3; have := (of_decide_eq_true (right_op h1)).2; omega, rfl⟩)
      obtain ⟨⟨c0, c1, c2, c3, c4, c5⟩, g0, g1, g2, g3, g4, g5⟩ := six_at HBX.out
      obtain ⟨wf, hwf, hhf, hbf⟩ := six_store HBX.out HBL.out (Nat.le_refl _) zeroI
      have HWF := Lib.hid hwf
      have HHF := Lib.hid hhf
      have HBF := Lib.hid hbf
      clear hwf hhf hbf
      go_wp2_with fail
      refine bodyPost_w HWF.out ?_
      clear c0 c1 c2 c3 c4 c5 g0 g1 g2 g3 g4 g5
      obtain ⟨⟨c0, c1, c2, c3, c4, c5⟩, g0, g1, g2, g3, g4, g5⟩ := six_at HHF.out
      exact bodyPost_ret (v := .tuple #[inV zeroI, .int .i64 60]) (by simp [results, Tryd.results22, go_sem, inV, c0, c1, c2, c3, c4, c5]) rfl ⟨HBAD.out, HBF.out⟩
end Go.Proofs.YtdfiaefdbalcoaaDoor
