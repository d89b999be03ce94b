/- The law's own block of a raw one: the walk. -/
import Derived.Test.YtafapkljlajflaaDoorRows
import Derived.WalkKit
import Derived.ProofKit
import Derived.OpenShut
import Derived.WalkLawsBesides
import Derived.WalkSpells
import Derived.Outline
import Derived.Handy
import Derived.Lib.Hide
import Derived.Lib.OthersKept
import Derived.KernelRfl
import Derived.Carry
import Derived.RegionTactic
import Derived.BigRegion
import Derived.Deep.AppendLies
import Derived.Deep.RegionLaw
import Derived.Deep.RegionHeldLaw
import Derived.Deep.RegionHeld3
import Derived.IntWalk
import Derived.Deep.Cut
import Derived.Deep.CutRange
import Derived.Deep.CutBlock
import Derived.Test.YtafapkljlajflaaDoorUh
namespace Go.Proofs.YtafapkljlajflaaDoor
open Go.ChangeShapes Go.WideShapes Go.ChangeAt Go.RowKit
set_option linter.unusedVariables false
theorem xn_cells {A : Nat → Prop} {w : World} {a : Addr} {x : Xn} (h : XnAt A w a x) : ∃ va, w.cell? a = some (.int .i64 x.kind) ∧ w.cell? ⟨a.block, a.off + 1, none⟩ = some (.int .i64 x.d) ∧ w.cell? ⟨a.block, a.off + 2, none⟩ = some (.int .i64 x.a) ∧ w.cell? ⟨a.block, a.off + 3, none⟩ = some (.int .i64 x.b) ∧ w.cell? ⟨a.block, a.off + 4, none⟩ = some (.int .i64 x.op) ∧ w.cell? ⟨a.block, a.off + 5, none⟩ = some (.int .i64 x.n) ∧ w.cell? ⟨a.block, a.off + 6, none⟩ = some (.string (mk x.name)) ∧ w.cell? ⟨a.block, a.off + 7, none⟩ = some va := by
  obtain ⟨h0, h1, h2, h3, h4, h5, h6, v, h7, _⟩ := h
  exact ⟨v, h0, h1, h2, h3, h4, h5, h6, h7⟩
theorem four_at {w : World} {b : Nat} {v0 v1 v2 v3 : Value} {t : TypeId} (h : w.heap[b]? = some (.cells #[v0, v1, v2, v3] t (0, 0))) :
    w.cell? ⟨b, 0, none⟩ = some v0 ∧ w.cell? ⟨b, 1, none⟩ = some v1 ∧ w.cell? ⟨b, 2, none⟩ = some v2 ∧ w.cell? ⟨b, 3, none⟩ = some v3 := by
  simp [World.cell?, h]
set_option maxRecDepth 100000 in
set_option maxHeartbeats 8000000 in
theorem lblk_any (r : Bk) (hr : AllK r) (rv : Value) (n : Int) (hn : 0 < n) (g : Nat) (w : World) (hg : NmsAt w g) (hrv : XnsAt (fun _ => True) w rv r.ins) :
    Calls Tryd.prog 20 #[bkV r rv, .int .i64 n, .slice (some ⟨g, 0, none⟩) 3 3] w fun e w' => BkRes w.heap.size (blkF r n) e w' ∧ Below w.heap.size w w' := by
  obtain ⟨hl, p, cap, rfl, hc⟩ := hrv
  have HC := Lib.hid hc
  have HR := Lib.hid hr
  have HG := Lib.hid hg
  clear hc hr hg
  unfold bkV
  go_enter Tryd.func20, Tryd.ntmps20
  go_wp2_with fail
  go_loopw [8] (fun iv wr => ∃ (i : Nat) (P : List (Xn × Value)) (va : Value), iv = .int .i64 i ∧ i ≤ r.ins.length ∧ i ≤ 6 ∧ P.map (·.1) = (r.ins.take i).map insF ∧ BI w wr (.slice p r.ins.length cap) r.term P va) (fun iv wr => r.ins.length - slotN iv)
  case atStart =>
    refine ⟨0, [], _, rfl, Nat.zero_le _, by decide, by simp, ?_, ?_, ?_, World.ownsRow_nil _ _ _ _, (fun c hc => by cases hc), ext_alloc (ext_alloc (ext_alloc (Below.refl _ _) _) _) _, fun _ => rfl⟩
    · exact (Lib.alloc_old _ _ _ (by simp; omega)).trans ((Lib.alloc_old _ _ _ (by simp)).trans (heap_new w _))
    · exact (Lib.alloc_old _ _ _ (by simp)).trans (heap_new' _ _ _ (by simp))
    · exact heap_new' _ _ _ (by simp)
  case round =>
    obtain ⟨i, P, va, rfl, hi, hi6, hP, hI⟩ := hrel
    have hsz := hI.sz
    have hPl : P.length = i := by have := congrArg List.length hP; simp at this; omega
    have HPL := Lib.hid hPl
    have hP6 : P.length ≤ 6 := by omega
    obtain ⟨pv, capv, hvv⟩ := own_slice hI.ow
    subst hvv
    have HI := Lib.hid hI
    have HP := Lib.hid hP
    have hl0 : w.heap.size < wr.heap.size := by omega
    have hl1 : w.heap.size + 1 < wr.heap.size := by omega
    have hl2 : w.heap.size + 1 + 1 < wr.heap.size := by omega
    obtain ⟨⟨c0, c1, c2, c3, c4⟩, f0, f1, f2, f3, f4⟩ := five_at hI.ou
    obtain ⟨⟨b0, b1, b2, b3, b4⟩, _⟩ := five_at hI.bx
    clear hI hP hPl
    by_cases h : i < r.ins.length ∧ i < 6
    · obtain ⟨h1, h2⟩ := h
      obtain ⟨a, rfl, _, k⟩ := HC.out i h1
      obtain ⟨vx, q0, q1, q2, q3, q4, q5, q6, q7⟩ := xn_cells (xn_kept k trivial (kept_below HI.out.bl))
      have hax : (a.add (i * 8)).block < w.heap.size := cell_lt k.1
      have hab : (a.add (i * 8)).block < wr.heap.size := by omega
      have h2i : (i : Int) < 6 := by omega
      have HX := Lib.hid (fun w' (hg' : NmsAt w' g) => lins_any (r.ins[i]'h1) (HR.out.1 _ (List.getElem_mem h1)) vx g w' hg')
      have HG2 := Lib.hid (fun (w' : World) (gb : Below wr.heap.size wr w') => (show NmsAt w' g from (gb.block g (by have := (Array.getElem?_eq_some_iff.1 HG.out).1; omega)).trans ((HI.out.bl.block g (Array.getElem?_eq_some_iff.1 HG.out).1).trans HG.out)))
      have HTK : Hid ((r.ins.take (i + 1)).map insF = (r.ins.take i).map insF ++ [insF (r.ins[i]'h1)]) := Lib.hid (by rw [List.take_succ_eq_append_getElem h1, List.map_append]; rfl)
      obtain ⟨i0, hi0, hz0, hz1, hz2⟩ := info_parts infoX
      clear k c1 c2 c3 c4 f0 f1 f2 f3 f4 b1 b2 b3 b4
      unfold rawV at HX
      generalize insF (r.ins[i]'h1) = y at *
      generalize r.ins[i]'h1 = x at *
      obtain ⟨xk, xd, xa, xb, xo, xn, xm, xl⟩ := x
      simp only at q0 q1 q2 q3 q4 q5 q6 q7 HX
      have c0 : wr.drew.cell? ⟨w.heap.size + 1 + 1, 0, none⟩ = some (.slice pv P.length capv) := c0
      have HOW : Hid (∀ g, (Value.slice pv P.length capv).ownBlock = some g → g < wr.drew.heap.size) := Lib.hid (fun g hg => (HI.out.ow.lt g hg).2)
      have HLO : Hid (w.heap.size + 3 ≤ wr.drew.heap.size) := Lib.hid hsz
      go_wp2_with fail
      go_region_law ((first
        | (refine step_append_lies _ (by rfl) _ _ _ (by rfl) (w.heap.size + 3) 36 i0 _ 8 88 Tryd.underlying39 hi0 hz0 hz1 hz2 rfl (by omega) _ P.length (P.flatMap cellsX) (by rfl) (own_ext HI5.out.ow (ext_alloc (Below.refl _ _) _)) ⟨w5.heap.size, 0, none⟩ 1 1 (cellsX (y, .slice p5 y.args.length cap5)) (by rfl) (by rfl) (World.news_of_block (cs := #[.int .i64 y.kind, .int .i64 y.d, .int .i64 y.a, .int .i64 y.b, .int .i64 y.op, .int .i64 y.n, .string (mk y.name), .slice p5 y.args.length cap5]) (t := 36) (fr := (0, 0)) (heap_new' _ _ _ rfl)) (oneX _) (by omega) (by unfold maxLen; omega) (by omega) (by have := HI5.out.sz; simp; omega) _ rfl ?_; intro gg cap6 w6 hown6 hg6 hat6 hlt6; have HI6 := Lib.hid (HI5.out.next (y, .slice p5 y.args.length cap5) HLO.out HOW.out hn5.out (ext_alloc (Below.refl _ _) _) hown6 hg6 hat6); have f0 := HI5.out.fz (ext_alloc (Below.refl _ _) _) hg6; have c0 := HI5.out.cz (ext_alloc (Below.refl _ _) _) hg6)
        | (go_simp; go_at_call 12; refine (HX.out _ (HG2.out _ (ext_drew (Below.refl _ _)))).mono ?_; rintro e w5 ⟨⟨v5, rfl, hn5⟩, g5⟩; obtain ⟨p5, cap5, hv5⟩ := row_slice hn5; subst hv5; have HI5 := Lib.hid (HI.out.ext (ext_trans (ext_drew (Below.refl _ _)) g5)); have c0 := (g5.cell (cell_lt c0)).trans c0; have c0a := cell_alloc c0 (.cells #[.int .i64 y.kind, .int .i64 y.d, .int .i64 y.a, .int .i64 y.b, .int .i64 y.op, .int .i64 y.n, .string (mk y.name), .slice p5 y.args.length cap5] 36); have hn5 := Lib.hid hn5)))
      all_goals
        go_wp2_with fail
        go_roundw
        case rel => exact ⟨i + 1, _, _, by go_num, by omega, by omega, by rw [List.map_append, HP.out, HTK.out]; rfl, HI6.out⟩
        case measure => simp [slotN]; omega
    · have HTK : Hid (P.map (·.1) = (r.ins.take 6).map insF) := Lib.hid (by
        rw [HP.out]
        congr 1
        rcases (by omega : i = 6 ∨ i = r.ins.length) with e | e
        · rw [e]
        · rw [e, List.take_of_length_le (Nat.le_refl _), List.take_of_length_le (by omega)])
      have HT0 := Lib.hid (TI.start HI.out hP6 HTK.out)
      obtain ⟨t1, t2, t3, t4⟩ := HR.out.2
      have pa := Lib.hid (fun w => pick_any r.term.a 10 w t2 (by decide))
      have pt := Lib.hid (fun w => pick_any r.term.to n w t3 hn)
      have pe := Lib.hid (fun w => pick_any r.term.els n w t4 hn)
      have k0 := pickN_lo r.term.kind 4 (by decide)
      have k1 := pickN_hi r.term.kind 4 (by decide)
      have HIN : Hid ((r.ins.take 6).map insF = (blkF r n).ins) := Lib.hid rfl
      clear HC HG HP HTK f0 f1 f2 f3 f4
      rcases (by omega : pickN r.term.kind 4 = 0 ∨ pickN r.term.kind 4 = 1 ∨ pickN r.term.kind 4 = 2 ∨ pickN r.term.kind 4 = 3) with hk | hk | hk | hk
      · have pk := Lib.hid (pick_eq r.term.kind 4 0 hk t1 (by decide))
        have HV : Hid ((blkF r n).term = ⟨1, 0, pickN r.term.to n, 0⟩) := Lib.hid (by simp [blkF, trmF, hk])
        clear k0 k1 hk t1 t2 t3 t4
        generalize pickN r.term.a 10 = ta at *
        generalize pickN r.term.to n = tt at *
        generalize pickN r.term.els n = te at *
        rcases (by omega : (i < r.ins.length ∧ ¬ ((i : Int) < 6)) ∨ (¬ (i < r.ins.length))) with ⟨h1, h6⟩ | h1
        all_goals
          go_upto_region 7 with (fail)
          obtain ⟨w2, hw⟩ : ∃ w2, wr.alloc (.cells #[.int .i64 r.term.kind, .int .i64 r.term.a, .int .i64 r.term.to, .int .i64 r.term.els] 41) = w2 := ⟨_, rfl⟩
          have Hw2 := Lib.hid (HT0.out)
          rw [hw] at Hw2 ⊢
          clear hw c0 c1 c2 c3 c4 b0 b1 b2 b3 b4
          obtain ⟨⟨c0, c1, c2, c3, c4⟩, f0, f1, f2, f3, f4⟩ := five_at Hw2.out.ou
          obtain ⟨s0, s1, s2, s3⟩ := four_at Hw2.out.tt
          go_upto_region 8 with ((go_at_call 16; refine (pk.out _).mono ?_; rintro e wq ⟨rfl, rfl⟩))
          obtain ⟨w3, hw⟩ : ∃ w3, (((w2.setCell ⟨w.heap.size + 1 + 1, 1, none⟩ (.int .i64 1)).setCell ⟨w.heap.size + 1 + 1, 2, none⟩ (.int .i64 0)).setCell ⟨w.heap.size + 1 + 1, 3, none⟩ (.int .i64 0)).setCell ⟨w.heap.size + 1 + 1, 4, none⟩ (.int .i64 0) = w3 := ⟨_, rfl⟩
          have Hw3 := Lib.hid (Hw2.out.four 1)
          rw [hw] at Hw3 ⊢
          clear hw c0 c1 c2 c3 c4 f0 f1 f2 f3 f4 s0 s1 s2 s3
          obtain ⟨⟨c0, c1, c2, c3, c4⟩, f0, f1, f2, f3, f4⟩ := five_at Hw3.out.ou
          obtain ⟨s0, s1, s2, s3⟩ := four_at Hw3.out.tt
          go_upto_region 12 with ((go_at_call 16; refine (pt.out _).mono ?_; rintro e wq ⟨rfl, rfl⟩))
          obtain ⟨w5, hw⟩ : ∃ w5, w3.setCell ⟨w.heap.size + 1 + 1, 3, none⟩ (.int .i64 tt) = w5 := ⟨_, rfl⟩
          have Hw5 := Lib.hid (Hw3.out.set 3 (.int .i64 tt) (k' := 1) (a' := 0) (to' := tt) (els' := 0) rfl)
          rw [hw] at Hw5 ⊢
          clear hw c0 c1 c2 c3 c4 f0 f1 f2 f3 f4 s0 s1 s2 s3
          obtain ⟨⟨c0, c1, c2, c3, c4⟩, f0, f1, f2, f3, f4⟩ := five_at Hw5.out.ou
          obtain ⟨s0, s1, s2, s3⟩ := four_at Hw5.out.tt
          have hlz : w.heap.size + 1 < w5.heap.size := by have := Hw5.out.sz; omega
          have hly : w.heap.size + 1 + 1 < w5.heap.size := by have := Hw5.out.sz; omega
          obtain ⟨⟨d0, d1, d2, d3, d4⟩, e0, e1, e2, e3, e4⟩ := five_at Hw5.out.rs
          obtain ⟨wf, hwf, hhf, hbf, hxf⟩ := Hw5.out.res
          have HWF := Lib.hid hwf
          have HHF := Lib.hid hhf
          have HBF := Lib.hid hbf
          have HXF := Lib.hid hxf
          clear hwf hhf hbf hxf
          go_wp2_with fail
          refine bodyPost_world HWF.out ?_
          clear c0 c1 c2 c3 c4 f0 f1 f2 f3 f4 s0 s1 s2 s3 d0 d1 d2 d3 d4 e0 e1 e2 e3 e4
          obtain ⟨⟨c0, c1, c2, c3, c4⟩, _⟩ := five_at HHF.out
          exact bodyPost_ret (v := .agg #[.slice pv P.length capv, .int .i64 1, .int .i64 0, .int .i64 tt, .int .i64 0]) (by simp [results, Tryd.results20, go_sem, c0, c1, c2, c3, c4]) rfl ⟨bk_res HV.out HIN.out HXF.out, HBF.out⟩
      · have pk := Lib.hid (pick_eq r.term.kind 4 1 hk t1 (by decide))
        have HV : Hid ((blkF r n).term = ⟨2, pickN r.term.a 10, pickN r.term.to n, pickN r.term.els n⟩) := Lib.hid (by simp [blkF, trmF, hk])
        clear k0 k1 hk t1 t2 t3 t4
        generalize pickN r.term.a 10 = ta at *
        generalize pickN r.term.to n = tt at *
        generalize pickN r.term.els n = te at *
        rcases (by omega : (i < r.ins.length ∧ ¬ ((i : Int) < 6)) ∨ (¬ (i < r.ins.length))) with ⟨h1, h6⟩ | h1
        all_goals
          go_upto_region 7 with (fail)
          obtain ⟨w2, hw⟩ : ∃ w2, wr.alloc (.cells #[.int .i64 r.term.kind, .int .i64 r.term.a, .int .i64 r.term.to, .int .i64 r.term.els] 41) = w2 := ⟨_, rfl⟩
          have Hw2 := Lib.hid (HT0.out)
          rw [hw] at Hw2 ⊢
          clear hw c0 c1 c2 c3 c4 b0 b1 b2 b3 b4
          obtain ⟨⟨c0, c1, c2, c3, c4⟩, f0, f1, f2, f3, f4⟩ := five_at Hw2.out.ou
          obtain ⟨s0, s1, s2, s3⟩ := four_at Hw2.out.tt
          go_upto_region 8 with ((go_at_call 16; refine (pk.out _).mono ?_; rintro e wq ⟨rfl, rfl⟩))
          obtain ⟨w3, hw⟩ : ∃ w3, (((w2.setCell ⟨w.heap.size + 1 + 1, 1, none⟩ (.int .i64 2)).setCell ⟨w.heap.size + 1 + 1, 2, none⟩ (.int .i64 0)).setCell ⟨w.heap.size + 1 + 1, 3, none⟩ (.int .i64 0)).setCell ⟨w.heap.size + 1 + 1, 4, none⟩ (.int .i64 0) = w3 := ⟨_, rfl⟩
          have Hw3 := Lib.hid (Hw2.out.four 2)
          rw [hw] at Hw3 ⊢
          clear hw c0 c1 c2 c3 c4 f0 f1 f2 f3 f4 s0 s1 s2 s3
          obtain ⟨⟨c0, c1, c2, c3, c4⟩, f0, f1, f2, f3, f4⟩ := five_at Hw3.out.ou
          obtain ⟨s0, s1, s2, s3⟩ := four_at Hw3.out.tt
          go_upto_region 10 with ((go_at_call 16; refine (pa.out _).mono ?_; rintro e wq ⟨rfl, rfl⟩))
          obtain ⟨w4, hw⟩ : ∃ w4, w3.setCell ⟨w.heap.size + 1 + 1, 2, none⟩ (.int .i64 ta) = w4 := ⟨_, rfl⟩
          have Hw4 := Lib.hid (Hw3.out.set 2 (.int .i64 ta) (k' := 2) (a' := ta) (to' := 0) (els' := 0) rfl)
          rw [hw] at Hw4 ⊢
          clear hw c0 c1 c2 c3 c4 f0 f1 f2 f3 f4 s0 s1 s2 s3
          obtain ⟨⟨c0, c1, c2, c3, c4⟩, f0, f1, f2, f3, f4⟩ := five_at Hw4.out.ou
          obtain ⟨s0, s1, s2, s3⟩ := four_at Hw4.out.tt
          go_upto_region 12 with ((go_at_call 16; refine (pt.out _).mono ?_; rintro e wq ⟨rfl, rfl⟩))
          obtain ⟨w5, hw⟩ : ∃ w5, w4.setCell ⟨w.heap.size + 1 + 1, 3, none⟩ (.int .i64 tt) = w5 := ⟨_, rfl⟩
          have Hw5 := Lib.hid (Hw4.out.set 3 (.int .i64 tt) (k' := 2) (a' := ta) (to' := tt) (els' := 0) rfl)
          rw [hw] at Hw5 ⊢
          clear hw c0 c1 c2 c3 c4 f0 f1 f2 f3 f4 s0 s1 s2 s3
          obtain ⟨⟨c0, c1, c2, c3, c4⟩, f0, f1, f2, f3, f4⟩ := five_at Hw5.out.ou
          obtain ⟨s0, s1, s2, s3⟩ := four_at Hw5.out.tt
          go_upto_region 14 with ((go_at_call 16; refine (pe.out _).mono ?_; rintro e wq ⟨rfl, rfl⟩))
          obtain ⟨w6, hw⟩ : ∃ w6, w5.setCell ⟨w.heap.size + 1 + 1, 4, none⟩ (.int .i64 te) = w6 := ⟨_, rfl⟩
          have Hw6 := Lib.hid (Hw5.out.set 4 (.int .i64 te) (k' := 2) (a' := ta) (to' := tt) (els' := te) rfl)
          rw [hw] at Hw6 ⊢
          clear hw c0 c1 c2 c3 c4 f0 f1 f2 f3 f4 s0 s1 s2 s3
          obtain ⟨⟨c0, c1, c2, c3, c4⟩, f0, f1, f2, f3, f4⟩ := five_at Hw6.out.ou
          obtain ⟨s0, s1, s2, s3⟩ := four_at Hw6.out.tt
          have hlz : w.heap.size + 1 < w6.heap.size := by have := Hw6.out.sz; omega
          have hly : w.heap.size + 1 + 1 < w6.heap.size := by have := Hw6.out.sz; omega
          obtain ⟨⟨d0, d1, d2, d3, d4⟩, e0, e1, e2, e3, e4⟩ := five_at Hw6.out.rs
          obtain ⟨wf, hwf, hhf, hbf, hxf⟩ := Hw6.out.res
          have HWF := Lib.hid hwf
          have HHF := Lib.hid hhf
          have HBF := Lib.hid hbf
          have HXF := Lib.hid hxf
          clear hwf hhf hbf hxf
          go_wp2_with fail
          refine bodyPost_world HWF.out ?_
          clear c0 c1 c2 c3 c4 f0 f1 f2 f3 f4 s0 s1 s2 s3 d0 d1 d2 d3 d4 e0 e1 e2 e3 e4
          obtain ⟨⟨c0, c1, c2, c3, c4⟩, _⟩ := five_at HHF.out
          exact bodyPost_ret (v := .agg #[.slice pv P.length capv, .int .i64 2, .int .i64 ta, .int .i64 tt, .int .i64 te]) (by simp [results, Tryd.results20, go_sem, c0, c1, c2, c3, c4]) rfl ⟨bk_res HV.out HIN.out HXF.out, HBF.out⟩
      · have pk := Lib.hid (pick_eq r.term.kind 4 2 hk t1 (by decide))
        have HV : Hid ((blkF r n).term = ⟨3, pickN r.term.a 10, 0, 0⟩) := Lib.hid (by simp [blkF, trmF, hk])
        clear k0 k1 hk t1 t2 t3 t4
        generalize pickN r.term.a 10 = ta at *
        generalize pickN r.term.to n = tt at *
        generalize pickN r.term.els n = te at *
        rcases (by omega : (i < r.ins.length ∧ ¬ ((i : Int) < 6)) ∨ (¬ (i < r.ins.length))) with ⟨h1, h6⟩ | h1
        all_goals
          go_upto_region 7 with (fail)
          obtain ⟨w2, hw⟩ : ∃ w2, wr.alloc (.cells #[.int .i64 r.term.kind, .int .i64 r.term.a, .int .i64 r.term.to, .int .i64 r.term.els] 41) = w2 := ⟨_, rfl⟩
          have Hw2 := Lib.hid (HT0.out)
          rw [hw] at Hw2 ⊢
          clear hw c0 c1 c2 c3 c4 b0 b1 b2 b3 b4
          obtain ⟨⟨c0, c1, c2, c3, c4⟩, f0, f1, f2, f3, f4⟩ := five_at Hw2.out.ou
          obtain ⟨s0, s1, s2, s3⟩ := four_at Hw2.out.tt
          go_upto_region 8 with ((go_at_call 16; refine (pk.out _).mono ?_; rintro e wq ⟨rfl, rfl⟩))
          obtain ⟨w3, hw⟩ : ∃ w3, (((w2.setCell ⟨w.heap.size + 1 + 1, 1, none⟩ (.int .i64 3)).setCell ⟨w.heap.size + 1 + 1, 2, none⟩ (.int .i64 0)).setCell ⟨w.heap.size + 1 + 1, 3, none⟩ (.int .i64 0)).setCell ⟨w.heap.size + 1 + 1, 4, none⟩ (.int .i64 0) = w3 := ⟨_, rfl⟩
          have Hw3 := Lib.hid (Hw2.out.four 3)
          rw [hw] at Hw3 ⊢
          clear hw c0 c1 c2 c3 c4 f0 f1 f2 f3 f4 s0 s1 s2 s3
          obtain ⟨⟨c0, c1, c2, c3, c4⟩, f0, f1, f2, f3, f4⟩ := five_at Hw3.out.ou
          obtain ⟨s0, s1, s2, s3⟩ := four_at Hw3.out.tt
          go_upto_region 10 with ((go_at_call 16; refine (pa.out _).mono ?_; rintro e wq ⟨rfl, rfl⟩))
          obtain ⟨w4, hw⟩ : ∃ w4, w3.setCell ⟨w.heap.size + 1 + 1, 2, none⟩ (.int .i64 ta) = w4 := ⟨_, rfl⟩
          have Hw4 := Lib.hid (Hw3.out.set 2 (.int .i64 ta) (k' := 3) (a' := ta) (to' := 0) (els' := 0) rfl)
          rw [hw] at Hw4 ⊢
          clear hw c0 c1 c2 c3 c4 f0 f1 f2 f3 f4 s0 s1 s2 s3
          obtain ⟨⟨c0, c1, c2, c3, c4⟩, f0, f1, f2, f3, f4⟩ := five_at Hw4.out.ou
          obtain ⟨s0, s1, s2, s3⟩ := four_at Hw4.out.tt
          have hlz : w.heap.size + 1 < w4.heap.size := by have := Hw4.out.sz; omega
          have hly : w.heap.size + 1 + 1 < w4.heap.size := by have := Hw4.out.sz; omega
          obtain ⟨⟨d0, d1, d2, d3, d4⟩, e0, e1, e2, e3, e4⟩ := five_at Hw4.out.rs
          obtain ⟨wf, hwf, hhf, hbf, hxf⟩ := Hw4.out.res
          have HWF := Lib.hid hwf
          have HHF := Lib.hid hhf
          have HBF := Lib.hid hbf
          have HXF := Lib.hid hxf
          clear hwf hhf hbf hxf
          go_wp2_with fail
          refine bodyPost_world HWF.out ?_
          clear c0 c1 c2 c3 c4 f0 f1 f2 f3 f4 s0 s1 s2 s3 d0 d1 d2 d3 d4 e0 e1 e2 e3 e4
          obtain ⟨⟨c0, c1, c2, c3, c4⟩, _⟩ := five_at HHF.out
          exact bodyPost_ret (v := .agg #[.slice pv P.length capv, .int .i64 3, .int .i64 ta, .int .i64 0, .int .i64 0]) (by simp [results, Tryd.results20, go_sem, c0, c1, c2, c3, c4]) rfl ⟨bk_res HV.out HIN.out HXF.out, HBF.out⟩
      · have pk := Lib.hid (pick_eq r.term.kind 4 3 hk t1 (by decide))
        have HV : Hid ((blkF r n).term = ⟨4, pickN r.term.a 10, 0, 0⟩) := Lib.hid (by simp [blkF, trmF, hk])
        clear k0 k1 hk t1 t2 t3 t4
        generalize pickN r.term.a 10 = ta at *
        generalize pickN r.term.to n = tt at *
        generalize pickN r.term.els n = te at *
        rcases (by omega : (i < r.ins.length ∧ ¬ ((i : Int) < 6)) ∨ (¬ (i < r.ins.length))) with ⟨h1, h6⟩ | h1
        all_goals
          go_upto_region 7 with (fail)
          obtain ⟨w2, hw⟩ : ∃ w2, wr.alloc (.cells #[.int .i64 r.term.kind, .int .i64 r.term.a, .int .i64 r.term.to, .int .i64 r.term.els] 41) = w2 := ⟨_, rfl⟩
          have Hw2 := Lib.hid (HT0.out)
          rw [hw] at Hw2 ⊢
          clear hw c0 c1 c2 c3 c4 b0 b1 b2 b3 b4
          obtain ⟨⟨c0, c1, c2, c3, c4⟩, f0, f1, f2, f3, f4⟩ := five_at Hw2.out.ou
          obtain ⟨s0, s1, s2, s3⟩ := four_at Hw2.out.tt
          go_upto_region 8 with ((go_at_call 16; refine (pk.out _).mono ?_; rintro e wq ⟨rfl, rfl⟩))
          obtain ⟨w3, hw⟩ : ∃ w3, (((w2.setCell ⟨w.heap.size + 1 + 1, 1, none⟩ (.int .i64 4)).setCell ⟨w.heap.size + 1 + 1, 2, none⟩ (.int .i64 0)).setCell ⟨w.heap.size + 1 + 1, 3, none⟩ (.int .i64 0)).setCell ⟨w.heap.size + 1 + 1, 4, none⟩ (.int .i64 0) = w3 := ⟨_, rfl⟩
          have Hw3 := Lib.hid (Hw2.out.four 4)
          rw [hw] at Hw3 ⊢
          clear hw c0 c1 c2 c3 c4 f0 f1 f2 f3 f4 s0 s1 s2 s3
          obtain ⟨⟨c0, c1, c2, c3, c4⟩, f0, f1, f2, f3, f4⟩ := five_at Hw3.out.ou
          obtain ⟨s0, s1, s2, s3⟩ := four_at Hw3.out.tt
          go_upto_region 10 with ((go_at_call 16; refine (pa.out _).mono ?_; rintro e wq ⟨rfl, rfl⟩))
          obtain ⟨w4, hw⟩ : ∃ w4, w3.setCell ⟨w.heap.size + 1 + 1, 2, none⟩ (.int .i64 ta) = w4 := ⟨_, rfl⟩
          have Hw4 := Lib.hid (Hw3.out.set 2 (.int .i64 ta) (k' := 4) (a' := ta) (to' := 0) (els' := 0) rfl)
          rw [hw] at Hw4 ⊢
          clear hw c0 c1 c2 c3 c4 f0 f1 f2 f3 f4 s0 s1 s2 s3
          obtain ⟨⟨c0, c1, c2, c3, c4⟩, f0, f1, f2, f3, f4⟩ := five_at Hw4.out.ou
          obtain ⟨s0, s1, s2, s3⟩ := four_at Hw4.out.tt
          have hlz : w.heap.size + 1 < w4.heap.size := by have := Hw4.out.sz; omega
          have hly : w.heap.size + 1 + 1 < w4.heap.size := by have := Hw4.out.sz; omega
          obtain ⟨⟨d0, d1, d2, d3, d4⟩, e0, e1, e2, e3, e4⟩ := five_at Hw4.out.rs
          obtain ⟨wf, hwf, hhf, hbf, hxf⟩ := Hw4.out.res
          have HWF := Lib.hid hwf
          have HHF := Lib.hid hhf
          have HBF := Lib.hid hbf
          have HXF := Lib.hid hxf
          clear hwf hhf hbf hxf
          go_wp2_with fail
          refine bodyPost_world HWF.out ?_
          clear c0 c1 c2 c3 c4 f0 f1 f2 f3 f4 s0 s1 s2 s3 d0 d1 d2 d3 d4 e0 e1 e2 e3 e4
          obtain ⟨⟨c0, c1, c2, c3, c4⟩, _⟩ := five_at HHF.out
          exact bodyPost_ret (v := .agg #[.slice pv P.length capv, .int .i64 4, .int .i64 ta, .int .i64 0, .int .i64 0]) (by simp [results, Tryd.results20, go_sem, c0, c1, c2, c3, c4]) rfl ⟨bk_res HV.out HIN.out HXF.out, HBF.out⟩
end Go.Proofs.YtafapkljlajflaaDoor
