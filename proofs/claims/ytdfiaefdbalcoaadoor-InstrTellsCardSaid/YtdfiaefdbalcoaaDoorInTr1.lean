/- The document's own answer: an instruction read. -/
import Derived.Test.YtdfiaefdbalcoaaDoorRows
import Derived.WalkKit
import Derived.ProofKit
import Derived.OpenShut
import Derived.WalkLawsBesides
import Derived.WalkSpells
import Derived.Outline
import Derived.Handy
import Derived.Lib.Hide
import Derived.Lib.OthersKept
import Derived.KernelRfl
import Derived.Deep.Cut
import Derived.Test.YtdfiaefdbalcoaaDoorInTa
import Derived.Test.YtdfiaefdbalcoaaDoorInTv
import Derived.Test.YtdfiaefdbalcoaaDoorInF
namespace Go.Proofs.YtdfiaefdbalcoaaDoor
open Go.ChangeShapes Go.WideShapes Go.ChangeAt Go.RowKit
set_option linter.unusedVariables false
theorem rfoldP_drop (H : List UInt8) (i : Nat) (h : i < H.length) (st : List UInt8 × In) : rfoldP (H.drop i) st = rfoldP (H.drop (i + 1)) (rstepP st (H[i]'h)) := by
  unfold rfoldP; rw [drop_at H i h]; rfl
theorem rs_d (m : List UInt8) (y : In) : rstepP (m, y) 68 = (m.drop (rnumL m).2, { y with d := (rnumL m).1 }) := rfl
theorem rs_a (m : List UInt8) (y : In) : rstepP (m, y) 65 = (m.drop (rnumL m).2, { y with a := (rnumL m).1 }) := rfl
theorem rs_b (m : List UInt8) (y : In) : rstepP (m, y) 66 = (m.drop (rnumL m).2, { y with b := (rnumL m).1 }) := rfl
theorem rs_n (m : List UInt8) (y : In) : rstepP (m, y) 78 = (m.drop (valueL m).2, { y with n := (valueL m).1 }) := rfl
theorem rs_s (m : List UInt8) (y : In) : rstepP (m, y) 83 = (m.drop (valueL m).2, { y with n := (valueL m).1 }) := rfl
def ivN (v : Value) : Nat := match v with | .int _ x => x.toNat | _ => 0
theorem ivN_int (k : Nat) : ivN (.int .i64 (k : Int)) = k := by simp [ivN]
theorem bodyPost_w {P : Program} {f : Func} {Q : Ending → World → Prop} {ex : Exit} {a : Act} {w w' : World} (h : w = w') (k : bodyPost P f Q ex a w') : bodyPost P f Q ex a w := by rw [h]; exact k
set_option maxRecDepth 100000 in
set_option maxHeartbeats 16000000 in
theorem rread_short (op : Int) (s : List UInt8) (hl : s.length ≤ 100000) (w : World) (NM H : List UInt8) (hH7 : H.length ≤ 7) (hN5 : NM.length ≤ 5) (HF : Hid (∀ w : World, Calls Tryd.prog 31 #[.int .i64 op] w fun e w' => e = .returned (.tuple #[.string (mk NM), .string (mk H)]) ∧ Below w.heap.size w w'))
    (hx1 : s.length < NM.length) (hx : ¬s.take NM.length = NM) : Calls Tryd.prog 36 #[.int .i64 op, .string (mk s)] w fun e w' => e = .returned (inV (rreadL op NM H s)) ∧ Below w.heap.size w w' := by
  have hss : (mk s).size = s.length := rfl
  have hns : (mk NM).size = NM.length := rfl
  have tn : (mk NM).toList = NM := mk_tl NM
  have HR2 : Hid (rreadL op NM H s = ⟨op, 0, 0, 0, 0, []⟩) := Lib.hid (by unfold rreadL; rw [if_neg hx])
  clear hx
  go_enter Tryd.func36, Tryd.ntmps36
  go_wp2_with fail
  refine (HF.out _).mono ?_; rintro e w1 ⟨rfl, g1⟩
  have hbx0 := (g1.block w.heap.size (by simp)).trans (heap_new w (.cells (inC zeroI) 23))
  have hz : w.heap.size < w1.heap.size := (Array.getElem?_eq_some_iff.1 hbx0).1
  have HBL1 := Lib.hid (ext_alloc (ext_trans (ext_alloc (Below.refl w.heap.size w) (.cells (inC zeroI) 23)) g1) (.cells (inC ⟨op, 0, 0, 0, 0, []⟩) 23))
  have HBX1 := Lib.hid ((Lib.alloc_old w1 (.cells (inC ⟨op, 0, 0, 0, 0, []⟩) 23) _ hz).trans hbx0)
  have HRB1 := Lib.hid (heap_new w1 (.cells (inC ⟨op, 0, 0, 0, 0, []⟩) 23))
  clear hbx0 g1
  go_upto_region 3 with (fail)
  obtain ⟨w2, hw2⟩ : ∃ w2, w1.alloc (.cells #[.int .i64 op, .int .i64 0, .int .i64 0, .int .i64 0, .int .i64 0, .string ⟨#[]⟩] 23) = w2 := ⟨_, rfl⟩
  have HBL1 : Hid (Below w.heap.size w w2) := Lib.hid (by rw [← hw2]; exact HBL1.out)
  have HBX1 : Hid (w2.heap[w.heap.size]? = some (.cells (inC zeroI) 23 (0, 0))) := Lib.hid (by rw [← hw2]; exact HBX1.out)
  have HRB1 : Hid (w2.heap[w1.heap.size]? = some (.cells (inC ⟨op, 0, 0, 0, 0, []⟩) 23 (0, 0))) := Lib.hid (by rw [← hw2]; exact HRB1.out)
  rw [hw2]
  clear hw2
  obtain ⟨⟨c0, c1, c2, c3, c4, c5⟩, g0, g1, g2, g3, g4, g5⟩ := six_at HBX1.out
  obtain ⟨⟨d0, d1, d2, d3, d4, d5⟩, f0, f1, f2, f3, f4, f5⟩ := six_at HRB1.out
  obtain ⟨wf, hwf, hhf, hbf⟩ := six_store HBX1.out HBL1.out (Nat.le_refl _) ⟨op, 0, 0, 0, 0, []⟩
  have HWF := Lib.hid hwf
  have HHF := Lib.hid hhf
  have HBF := Lib.hid hbf
  clear hwf hhf hbf
  go_wp2_with fail
  refine bodyPost_w HWF.out ?_
  clear c0 c1 c2 c3 c4 c5 g0 g1 g2 g3 g4 g5 d0 d1 d2 d3 d4 d5 f0 f1 f2 f3 f4 f5
  obtain ⟨⟨c0, c1, c2, c3, c4, c5⟩, g0, g1, g2, g3, g4, g5⟩ := six_at HHF.out
  exact bodyPost_ret (v := inV ⟨op, 0, 0, 0, 0, []⟩) (by simp [results, Tryd.results36, go_sem, inV, c0, c1, c2, c3, c4, c5]) rfl ⟨by rw [HR2.out], HBF.out⟩
set_option maxRecDepth 100000 in
set_option maxHeartbeats 16000000 in
theorem rread_other (op : Int) (s : List UInt8) (hl : s.length ≤ 100000) (w : World) (NM H : List UInt8) (hH7 : H.length ≤ 7) (hN5 : NM.length ≤ 5) (HF : Hid (∀ w : World, Calls Tryd.prog 31 #[.int .i64 op] w fun e w' => e = .returned (.tuple #[.string (mk NM), .string (mk H)]) ∧ Below w.heap.size w w'))
    (hx1 : NM.length ≤ s.length) (hx : ¬s.take NM.length = NM) : Calls Tryd.prog 36 #[.int .i64 op, .string (mk s)] w fun e w' => e = .returned (inV (rreadL op NM H s)) ∧ Below w.heap.size w w' := by
  have hss : (mk s).size = s.length := rfl
  have hns : (mk NM).size = NM.length := rfl
  have tn : (mk NM).toList = NM := mk_tl NM
  have HR2 : Hid (rreadL op NM H s = ⟨op, 0, 0, 0, 0, []⟩) := Lib.hid (by unfold rreadL; rw [if_neg hx])
  have tt : (mk (s.take NM.length)).toList = s.take NM.length := mk_tl _
  have hex0 : (mk s).extract 0 NM.length = mk (s.take NM.length) := take_mk s NM.length
  have hexd : (mk s).extract NM.length s.length = mk (s.drop NM.length) := drop_mk s NM.length
  have hxe : (s.take NM.length == NM) = false := beq_eq_false_iff_ne.2 hx
  have hxn : (s.take NM.length != NM) = true := bne_iff_ne.2 hx
  clear hexd hx
  generalize s.take NM.length = TT at *
  go_enter Tryd.func36, Tryd.ntmps36
  go_wp2_with fail
  refine (HF.out _).mono ?_; rintro e w1 ⟨rfl, g1⟩
  have hbx0 := (g1.block w.heap.size (by simp)).trans (heap_new w (.cells (inC zeroI) 23))
  have hz : w.heap.size < w1.heap.size := (Array.getElem?_eq_some_iff.1 hbx0).1
  have HBL1 := Lib.hid (ext_alloc (ext_trans (ext_alloc (Below.refl w.heap.size w) (.cells (inC zeroI) 23)) g1) (.cells (inC ⟨op, 0, 0, 0, 0, []⟩) 23))
  have HBX1 := Lib.hid ((Lib.alloc_old w1 (.cells (inC ⟨op, 0, 0, 0, 0, []⟩) 23) _ hz).trans hbx0)
  have HRB1 := Lib.hid (heap_new w1 (.cells (inC ⟨op, 0, 0, 0, 0, []⟩) 23))
  clear hbx0 g1
  go_upto_region 3 with (fail)
  obtain ⟨w2, hw2⟩ : ∃ w2, w1.alloc (.cells #[.int .i64 op, .int .i64 0, .int .i64 0, .int .i64 0, .int .i64 0, .string ⟨#[]⟩] 23) = w2 := ⟨_, rfl⟩
  have HBL1 : Hid (Below w.heap.size w w2) := Lib.hid (by rw [← hw2]; exact HBL1.out)
  have HBX1 : Hid (w2.heap[w.heap.size]? = some (.cells (inC zeroI) 23 (0, 0))) := Lib.hid (by rw [← hw2]; exact HBX1.out)
  have HRB1 : Hid (w2.heap[w1.heap.size]? = some (.cells (inC ⟨op, 0, 0, 0, 0, []⟩) 23 (0, 0))) := Lib.hid (by rw [← hw2]; exact HRB1.out)
  rw [hw2]
  clear hw2
  obtain ⟨⟨c0, c1, c2, c3, c4, c5⟩, g0, g1, g2, g3, g4, g5⟩ := six_at HBX1.out
  obtain ⟨⟨d0, d1, d2, d3, d4, d5⟩, f0, f1, f2, f3, f4, f5⟩ := six_at HRB1.out
  obtain ⟨wf, hwf, hhf, hbf⟩ := six_store HBX1.out HBL1.out (Nat.le_refl _) ⟨op, 0, 0, 0, 0, []⟩
  have HWF := Lib.hid hwf
  have HHF := Lib.hid hhf
  have HBF := Lib.hid hbf
  clear hwf hhf hbf
  go_wp2_with fail
  refine bodyPost_w HWF.out ?_
  clear c0 c1 c2 c3 c4 c5 g0 g1 g2 g3 g4 g5 d0 d1 d2 d3 d4 d5 f0 f1 f2 f3 f4 f5
  obtain ⟨⟨c0, c1, c2, c3, c4, c5⟩, g0, g1, g2, g3, g4, g5⟩ := six_at HHF.out
  exact bodyPost_ret (v := inV ⟨op, 0, 0, 0, 0, []⟩) (by simp [results, Tryd.results36, go_sem, inV, c0, c1, c2, c3, c4, c5]) rfl ⟨by rw [HR2.out], HBF.out⟩
set_option maxRecDepth 100000 in
set_option maxHeartbeats 16000000 in
theorem rread_none (op : Int) (s : List UInt8) (hl : s.length ≤ 100000) (w : World) (NM H : List UInt8) (hH7 : H.length ≤ 7) (hN5 : NM.length ≤ 5) (HF : Hid (∀ w : World, Calls Tryd.prog 31 #[.int .i64 op] w fun e w' => e = .returned (.tuple #[.string (mk NM), .string (mk H)]) ∧ Below w.heap.size w w'))
    (hx1 : NM.length ≤ s.length) (hx : s.take NM.length = NM) (h0 : H = []) : Calls Tryd.prog 36 #[.int .i64 op, .string (mk s)] w fun e w' => e = .returned (inV (rreadL op NM H s)) ∧ Below w.heap.size w w' := by
  have hss : (mk s).size = s.length := rfl
  have hns : (mk NM).size = NM.length := rfl
  have tn : (mk NM).toList = NM := mk_tl NM
  subst h0
  have hdn : decide (s.length < NM.length) = false := decide_eq_false (by omega)
  have hdi : decide ((s.length : Int) < (NM.length : Int)) = false := decide_eq_false (by omega)
  have hex0 : (mk s).extract 0 NM.length = mk NM := by rw [take_mk, hx]
  have hexd : (mk s).extract NM.length s.length = mk (s.drop NM.length) := drop_mk s NM.length
  have hxe : (NM == NM) = true := beq_self_eq_true _
  have hxn : (NM != NM) = false := by rw [bne, hxe]; rfl
  have HRR : Hid (rreadL op NM ([] : List UInt8) s = (rfoldP ([] : List UInt8) (rest1 ([] : List UInt8) (s.drop NM.length), ⟨op, 0, 0, 0, 0, []⟩)).2) := Lib.hid (by unfold rreadL; rw [if_pos hx])
  have hRL0 : (s.drop NM.length).length ≤ 100000 := by rw [List.length_drop]; omega
  clear hx
  generalize s.drop NM.length = R at *
  have tr : (mk R).toList = R := mk_tl R
  have hrs : (mk R).size = R.length := rfl
  have HR2 : Hid (rreadL op NM [] s = ⟨op, 0, 0, 0, 0, []⟩) := HRR
  have t0 : (mk ([] : List UInt8)).toList = [] := mk_tl []
  have z0 : (mk ([] : List UInt8)).size = 0 := rfl
  go_enter Tryd.func36, Tryd.ntmps36
  go_wp2_with fail
  refine (HF.out _).mono ?_; rintro e w1 ⟨rfl, g1⟩
  have hbx0 := (g1.block w.heap.size (by simp)).trans (heap_new w (.cells (inC zeroI) 23))
  have hz : w.heap.size < w1.heap.size := (Array.getElem?_eq_some_iff.1 hbx0).1
  have HBL1 := Lib.hid (ext_alloc (ext_trans (ext_alloc (Below.refl w.heap.size w) (.cells (inC zeroI) 23)) g1) (.cells (inC ⟨op, 0, 0, 0, 0, []⟩) 23))
  have HBX1 := Lib.hid ((Lib.alloc_old w1 (.cells (inC ⟨op, 0, 0, 0, 0, []⟩) 23) _ hz).trans hbx0)
  have HRB1 := Lib.hid (heap_new w1 (.cells (inC ⟨op, 0, 0, 0, 0, []⟩) 23))
  clear hbx0 g1
  go_upto_region 3 with (fail)
  obtain ⟨w2, hw2⟩ : ∃ w2, w1.alloc (.cells #[.int .i64 op, .int .i64 0, .int .i64 0, .int .i64 0, .int .i64 0, .string ⟨#[]⟩] 23) = w2 := ⟨_, rfl⟩
  have HBL1 : Hid (Below w.heap.size w w2) := Lib.hid (by rw [← hw2]; exact HBL1.out)
  have HBX1 : Hid (w2.heap[w.heap.size]? = some (.cells (inC zeroI) 23 (0, 0))) := Lib.hid (by rw [← hw2]; exact HBX1.out)
  have HRB1 : Hid (w2.heap[w1.heap.size]? = some (.cells (inC ⟨op, 0, 0, 0, 0, []⟩) 23 (0, 0))) := Lib.hid (by rw [← hw2]; exact HRB1.out)
  rw [hw2]
  clear hw2
  go_wp2_with fail
  go_loopw [1, 8] (fun sv iv wr => iv = .int .i64 0 ∧ w2 = wr) (fun _ iv wr => 0)
  case atStart => exact ⟨rfl, rfl⟩
  case round =>
    obtain ⟨rfl, rfl⟩ := hrel
    obtain ⟨⟨c0, c1, c2, c3, c4, c5⟩, g0, g1, g2, g3, g4, g5⟩ := six_at HBX1.out
    obtain ⟨⟨d0, d1, d2, d3, d4, d5⟩, f0, f1, f2, f3, f4, f5⟩ := six_at HRB1.out
    obtain ⟨wf, hwf, hhf, hbf⟩ := six_store HBX1.out HBL1.out (Nat.le_refl _) ⟨op, 0, 0, 0, 0, []⟩
    have HWF := Lib.hid hwf
    have HHF := Lib.hid hhf
    have HBF := Lib.hid hbf
    clear hwf hhf hbf
    go_wp2_with fail
    refine bodyPost_w HWF.out ?_
    clear c0 c1 c2 c3 c4 c5 g0 g1 g2 g3 g4 g5 d0 d1 d2 d3 d4 d5 f0 f1 f2 f3 f4 f5
    obtain ⟨⟨c0, c1, c2, c3, c4, c5⟩, g0, g1, g2, g3, g4, g5⟩ := six_at HHF.out
    exact bodyPost_ret (v := inV ⟨op, 0, 0, 0, 0, []⟩) (by simp [results, Tryd.results36, go_sem, inV, c0, c1, c2, c3, c4, c5]) rfl ⟨by rw [HR2.out], HBF.out⟩
end Go.Proofs.YtdfiaefdbalcoaaDoor
