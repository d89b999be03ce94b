/- ir.Check: the walk. -/
import Derived.Test.YtafapkljlajflaaDoorRows
import Derived.WalkKit
import Derived.ProofKit
import Derived.OpenShut
import Derived.WalkLawsBesides
import Derived.WalkSpells
import Derived.Outline
import Derived.Handy
import Derived.Lib.Hide
import Derived.Lib.OthersKept
import Derived.KernelRfl
import Derived.Carry
import Derived.RegionTactic
import Derived.BigRegion
import Derived.OwnWalk
import Derived.Deep.Cut
import Derived.IntWalk
import Derived.Deep.QuietTactic
import Derived.BigQuiet
import Derived.Deep.RegionHeld3
import Derived.Test.YtafapkljlajflaaDoorUw
namespace Go.Proofs.YtafapkljlajflaaDoor
open Go.ChangeShapes Go.WideShapes Go.ChangeAt Go.RowKit
set_option linter.unusedVariables false
/-- While a unit is checked: its box, the result's block, the names' block. -/
structure CI (w wr : World) (u : Un) (va vf : Value) (na nf : Nat) (FA : List UInt8 → Option Int) : Prop where
  of ::
  bo : wr.heap[w.heap.size]? = some (.cells #[va, vf] 27 (0, 0))
  rs : wr.heap[w.heap.size + 1]? = some (.cells #[.int .i64 0, .int .i64 0] 52 (0, 0))
  ni : NI wr (w.heap.size + 4) u va vf (w.heap.size + 2) na (w.heap.size + 3) nf FA (placeF u.flows)
  bl : Below w.heap.size w wr
theorem CI.ext {w wr wx : World} {u : Un} {va vf : Value} {na nf : Nat} {FA : List UInt8 → Option Int} (h : CI w wr u va vf na nf FA) (g : Below wr.heap.size wr wx) : CI w wx u va vf na nf FA :=
  ⟨(g.block _ (Array.getElem?_eq_some_iff.1 h.bo).1).trans h.bo, (g.block _ (Array.getElem?_eq_some_iff.1 h.rs).1).trans h.rs, h.ni.ext g, ext_trans h.bl g⟩
theorem two_put {w0 w : World} {b : Nat} {v0 v1 : Value} {t : TypeId} (h : w.heap[b]? = some (.cells #[v0, v1] t (0, 0))) (hb : Below w0.heap.size w0 w) (hB : w0.heap.size ≤ b) (u0 u1 : Value) :
    ∃ wf, (w.setCell ⟨b, 0, none⟩ u0).setCell ⟨b, 1, none⟩ u1 = wf ∧ wf.heap[b]? = some (.cells #[u0, u1] t (0, 0)) ∧ Below w0.heap.size w0 wf := by
  have h1 := heap_setCell_same _ _ 0 _ _ u0 h
  have h2 := heap_setCell_same _ _ 1 _ _ u1 h1
  exact ⟨_, rfl, by rw [h2]; simp, ext_set (ext_set hb hB _) hB _⟩
theorem bodyPost_world2 {P : Program} {f : Func} {Q : Ending → World → Prop} {ex : Exit} {a : Act} {w w' : World} (h : w = w') (k : bodyPost P f Q ex a w') : bodyPost P f Q ex a w := by rw [h]; exact k
theorem two_of {w : World} {b : Nat} {v0 v1 : Value} {t : TypeId} (h : w.heap[b]? = some (.cells #[v0, v1] t (0, 0))) : (w.cell? ⟨b, 0, none⟩ = some v0 ∧ w.cell? ⟨b, 1, none⟩ = some v1) ∧ w.frozen? ⟨b, 0, none⟩ = false ∧ w.frozen? ⟨b, 1, none⟩ = false := by
  simp [World.cell?, World.frozen?, h]
theorem imap_made' {b : Nat} (w : World) (hb : b = w.heap.size) : IMap (w.alloc (.map #[] 0)) b 0 (fun _ => none) := by subst hb; exact imap_made w
theorem ars_wideU {A B : Nat → Prop} (hAB : ∀ b, A b → B b) {w : World} {v : Value} {L : List Ar} (h : ArsAt A w v L) : ArsAt B w v L := RowAt.wide (P := ArAt) (A := A) (B := B) hAB (fun h => h) h
def CkRes (u : Un) (e : Ending) : Prop := e = .returned (.tuple #[.int .i64 (wrongU u).1, .agg #[.int .i64 ((wrongU u).2.1 : Int), .int .i64 ((wrongU u).2.2 : Int)]])
theorem ck_res {u : Un} {a : Int} {i k : Nat} (h : wrongU u = (a, i, k)) : CkRes u (.returned (.tuple #[.int .i64 a, .agg #[.int .i64 (i : Int), .int .i64 (k : Int)]])) := by unfold CkRes; rw [h]
set_option maxRecDepth 100000 in
set_option maxHeartbeats 16000000 in
theorem check_any (v : Value) (u : Un) (w : World) (h : UnAt (fun k => k < w.heap.size) w v u) (hf : UnFit u) :
    Calls Tryd.prog 17 #[v] w fun e w' => CkRes u e ∧ Below w.heap.size w w' := by
  obtain ⟨va, vf, rfl, har, hfl⟩ := h
  obtain ⟨pa, capa, hva⟩ := row_slice har
  subst hva
  obtain ⟨pf, capf, hvf⟩ := row_slice hfl
  subst hvf
  obtain ⟨va, hva⟩ : ∃ va, va = Value.slice pa u.arrays.length capa := ⟨_, rfl⟩
  obtain ⟨vf, hvf⟩ : ∃ vf, vf = Value.slice pf u.flows.length capf := ⟨_, rfl⟩
  rw [← hva] at har ⊢
  rw [← hvf] at hfl ⊢
  have HVA := Lib.hid hva
  have HVF := Lib.hid hvf
  clear hva hvf
  have HF := Lib.hid hf
  have hmm := @run_makeMap Tryd.prog
  obtain ⟨W0, hW0⟩ : ∃ W0, ((((w.alloc (.cells #[va, vf] 27)).alloc (.cells #[.int .i64 0, .int .i64 0] 52)).alloc (.map #[] 0)).alloc (.map #[] 0)).alloc (.cells #[va, vf, .map (some (w.heap.size + 1 + 1)), .map (some (w.heap.size + 1 + 1 + 1))] 78) = W0 := ⟨_, rfl⟩
  have HB : Hid (Below w.heap.size w W0) := Lib.hid (by rw [← hW0]; exact ext_alloc (ext_alloc (ext_alloc (ext_alloc (ext_alloc (Below.refl _ _) _) _) _) _) _)
  have HBO : Hid (W0.heap[w.heap.size]? = some (.cells #[va, vf] 27 (0, 0))) := Lib.hid (by rw [← hW0]; exact (Lib.alloc_old _ _ _ (by simp <;> omega)).trans ((Lib.alloc_old _ _ _ (by simp <;> omega)).trans ((Lib.alloc_old _ _ _ (by simp <;> omega)).trans ((Lib.alloc_old _ _ _ (by simp <;> omega)).trans (heap_new _ _)))))
  have HRS : Hid (W0.heap[w.heap.size + 1]? = some (.cells #[.int .i64 0, .int .i64 0] 52 (0, 0))) := Lib.hid (by rw [← hW0]; exact (Lib.alloc_old _ _ _ (by simp <;> omega)).trans ((Lib.alloc_old _ _ _ (by simp <;> omega)).trans ((Lib.alloc_old _ _ _ (by simp <;> omega)).trans (heap_new' _ _ _ (by simp)))))
  have HMA : Hid (W0.heap[w.heap.size + 2]? = some (.map #[] 0)) := Lib.hid (by rw [← hW0]; exact (Lib.alloc_old _ _ _ (by simp <;> omega)).trans ((Lib.alloc_old _ _ _ (by simp <;> omega)).trans (heap_new' _ _ _ (by simp))))
  have HMF : Hid (W0.heap[w.heap.size + 3]? = some (.map #[] 0)) := Lib.hid (by rw [← hW0]; exact (Lib.alloc_old _ _ _ (by simp <;> omega)).trans (heap_new' _ _ _ (by simp)))
  have HNB : Hid (W0.heap[w.heap.size + 4]? = some (.cells #[va, vf, .map (some (w.heap.size + 2)), .map (some (w.heap.size + 3))] 78 (0, 0))) := Lib.hid (by rw [← hW0]; exact heap_new' _ _ _ (by simp))
  have hz0 : w.heap.size + 5 ≤ W0.heap.size := by rw [← hW0]; simp
  have hm1 : IMap W0 (w.heap.size + 2) 0 (fun _ => none) := (imap_made' (w.alloc (.cells #[va, vf] 27) |>.alloc (.cells #[.int .i64 0, .int .i64 0] 52)) (by simp)).same (HMA.out.trans (heap_new' _ _ _ (by simp)).symm)
  have hm2 : IMap W0 (w.heap.size + 3) 0 (fun _ => none) := (imap_made' ((w.alloc (.cells #[va, vf] 27) |>.alloc (.cells #[.int .i64 0, .int .i64 0] 52)).alloc (.map #[] 0)) (by simp)).same (HMF.out.trans (heap_new' _ _ _ (by simp)).symm)
  have HDI : Hid (DI W0 W0 (w.heap.size + 2) (w.heap.size + 4) (w.heap.size + 2) (w.heap.size + 3) u va vf 0 0 (fun _ => none) (fun _ => none)) := Lib.hid ⟨HNB.out, hm1, hm2, ars_kept (ars_wideU (fun b hb => by omega) har) (kept_below HB.out), fls_kept (fls_wide (fun b hb => by omega) hfl) (kept_below HB.out), Below.refl _ _, by omega, by omega, by omega, by omega, by omega, by omega⟩
  have HDC := Lib.hid (declare_any HDI.out hf.nm)
  clear hm1 hm2 har hf
  clear hfl
  have HDC2 := HDC
  have hva := HVA.out
  have hvf := HVF.out
  subst hva hvf
  go_enter Tryd.func17, Tryd.ntmps17
  go_upto_region 2 with (fail)
  clear hW0
  go_wp2_with fail
  refine (HDC.out).mono ?_
  rintro e w1 ⟨⟨rfl, hyes⟩, g1⟩
  have HBO1 := Lib.hid ((g1.block w.heap.size (by omega)).trans HBO.out)
  have HRS1 := Lib.hid ((g1.block (w.heap.size + 1) (by omega)).trans HRS.out)
  have HB1 : Hid (Below w.heap.size w w1) := Lib.hid (HB.out.trans (g1.mono (by omega)))
  have hz1 : w.heap.size + 5 ≤ w1.heap.size := by have := g1.size; omega
  have HYES := Lib.hid hyes
  clear hyes g1 HBO HRS HMA HMF HNB HB HDC HDC2
  cases hd : declB u with
  | false =>
    have HNO : Hid (wrongU u = (1, 0, 0)) := Lib.hid (by unfold wrongU; rw [if_neg (by rw [hd]; decide)])
    obtain ⟨wf, hwf, hhf, hbf⟩ := two_put HRS1.out HB1.out (by omega) (.int .i64 0) (.int .i64 0)
    have HWF := Lib.hid hwf
    have HHF := Lib.hid hhf
    have HBF := Lib.hid hbf
    obtain ⟨⟨d0, d1⟩, e0, e1⟩ := two_of HRS1.out
    clear hwf hhf hbf hd HYES
    go_wp2_with fail
    refine bodyPost_world2 HWF.out ?_
    clear d0 d1 e0 e1
    obtain ⟨c0, c1⟩ := two_cells HHF.out
    exact bodyPost_ret (v := .tuple #[.int .i64 1, .agg #[.int .i64 0, .int .i64 0]]) (by simp [results, Tryd.results17, go_sem, c0, c1]) rfl ⟨ck_res HNO.out, HBF.out⟩
  | true =>
    obtain ⟨na, nf, FA, hdi, hfa⟩ := HYES.out hd
    have HDD := Lib.hid hd
    have HCI : Hid (CI w w1 u (.slice pa u.arrays.length capa) (.slice pf u.flows.length capf) na nf FA) := Lib.hid ⟨HBO1.out, HRS1.out, hdi.ni, HB1.out⟩
    have HFA := Lib.hid hfa
    obtain ⟨_, _, _, hq, hfc⟩ := hdi.fl
    injection hq with hq1 hq2 hq3
    subst hq1 hq3
    have HFC := Lib.hid hfc
    obtain ⟨b0, b1⟩ := two_cells HBO1.out
    clear hd hdi hfa hfc HYES HBO1 HRS1 HB1
    go_wp2_with fail
    go_loopw [19] (fun iv wr => ∃ i : Nat, iv = .int .i64 i ∧ i ≤ u.flows.length ∧ CI w wr u (.slice pa u.arrays.length capa) (.slice pf u.flows.length capf) na nf FA ∧ Below w1.heap.size w1 wr ∧ Hid (∀ t (ht : t < i) (ht' : t < u.flows.length), flwB (u.flows[t]'ht') = true ∧ badBk u (u.flows[t]'ht') (u.flows[t]'ht').blocks 0 = none)) (fun iv wr => u.flows.length - slotN iv)
    case atStart => exact ⟨0, rfl, Nat.zero_le _, HCI.out, Below.refl _ _, Lib.hid (fun t ht => by omega)⟩
    case round =>
      obtain ⟨i, rfl, hi, hC, hbw, HALL⟩ := hrel
      have HC := Lib.hid hC
      have HBW := Lib.hid hbw
      have hzr : w.heap.size + 5 ≤ wr.heap.size := by have := hbw.size; omega
      clear hC hbw b0 b1
      by_cases hil : i < u.flows.length
      · obtain ⟨ax, rfl, hxb, kx⟩ := HFC.out i hil
        obtain ⟨vb, q0, q1, q2, q3, hvb⟩ := fl_get (fl_kept (A := fun _ => True) (w' := wr) (fl_wide (fun _ _ => trivial) kx) trivial (kept_below HBW.out))
        obtain ⟨pb, cb, hvb2⟩ := row_slice hvb
        subst hvb2
        have hax : (ax.add (i * 4)).block < wr.heap.size := cell_lt q0
        have hcn := HF.out.cn _ (List.getElem_mem hil)
        have HRF := Lib.hid (fun (w' : World) (g : Below wr.heap.size wr w') => rflow_any (u.flows[i]'hil).name (u.flows[i]'hil).params (u.flows[i]'hil).values _ (u.flows[i]'hil).blocks w' (bks_kept hvb (kept_below g)) hcn)
        have HW1 := Lib.hid (fun (hfb : flwB (u.flows[i]'hil) = false) => wrong_flow HDD.out hil (fun t ht => HALL.out t ht (by omega)) hfb)
        have HEQ : Hid (flwB ⟨(u.flows[i]'hil).name, (u.flows[i]'hil).params, (u.flows[i]'hil).values, (u.flows[i]'hil).blocks⟩ = flwB (u.flows[i]'hil)) := Lib.hid rfl
        have HVB := Lib.hid hvb
        clear kx hvb hcn
        unfold flV at HRF
        obtain ⟨nbk, hnbk⟩ : ∃ m : Nat, (u.flows[i]'hil).blocks.length = m := ⟨_, rfl⟩
        have HNBK := Lib.hid hnbk
        rw [hnbk] at q3 HVB HRF
        clear hnbk
        cases hfb : flwB (u.flows[i]'hil) with
        | false =>
          have HW := Lib.hid (HW1.out hfb)
          rw [HEQ.out, hfb] at HRF
          clear hfb
          go_wp2_with fail
          refine (HRF.out _ (ext_alloc (Below.refl _ _) _)).mono ?_; rintro e w2 ⟨rfl, g2⟩
          have HW2 := Lib.hid ((HC.out.ext (ext_alloc (Below.refl _ _) _)).ext g2)
          clear g2
          obtain ⟨wf, hwf, hhf, hbf⟩ := two_put HW2.out.rs HW2.out.bl (by omega) (.int .i64 i) (.int .i64 0)
          have HWF := Lib.hid hwf
          have HHF := Lib.hid hhf
          have HBF := Lib.hid hbf
          obtain ⟨⟨d0, d1⟩, e0, e1⟩ := two_of HW2.out.rs
          clear hwf hhf hbf
          go_wp2_with fail
          refine bodyPost_world2 HWF.out ?_
          clear d0 d1 e0 e1
          obtain ⟨c0, c1⟩ := two_cells HHF.out
          exact bodyPost_ret (v := .tuple #[.int .i64 70, .agg #[.int .i64 i, .int .i64 0]]) (by simp [results, Tryd.results17, go_sem, c0, c1]) rfl ⟨ck_res HW.out, HBF.out⟩
        | true =>
          obtain ⟨wo, rfl⟩ : ∃ wo, wo = wr := ⟨_, rfl⟩
          have HFB := Lib.hid hfb
          rw [HEQ.out, hfb] at HRF
          have HNX : Hid (∀ k t, t < i + 1 → ∀ (ht' : t < u.flows.length), (∀ t (ht : t < k) (ht' : t < (u.flows[i]'hil).blocks.length), blkB u (u.flows[i]'hil) ((u.flows[i]'hil).blocks[t]'ht') = true) → (u.flows[i]'hil).blocks.length ≤ k → flwB (u.flows[t]'ht') = true ∧ badBk u (u.flows[t]'ht') (u.flows[t]'ht').blocks 0 = none) := Lib.hid (fun k t ht ht' hb hk => by
            by_cases e : t = i
            · subst e
              exact ⟨HFB.out, block_none (fun t' h' => hb t' (by omega) h')⟩
            · exact HALL.out t (by omega) ht')
          clear hfb HEQ HW1
          go_wp2_with fail
          refine (HRF.out _ (ext_alloc (Below.refl _ _) _)).mono ?_; rintro e w2 ⟨rfl, g2⟩
          have HC2 := Lib.hid ((HC.out.ext (ext_alloc (Below.refl _ _) _)).ext g2)
          have HBW2 : Hid (Below wo.heap.size wo w2) := Lib.hid (ext_trans (ext_alloc (Below.refl _ _) _) g2)
          have HFL := Lib.hid ((g2.block wo.heap.size (by simp)).trans (heap_new _ _))
          have hz2 : wo.heap.size < w2.heap.size := by have := g2.size; simp at this; omega
          obtain ⟨y0, y1, y2, y3⟩ := four_at' HFL.out
          clear g2 q0 q1 q2 q3
          go_wp2_with fail
          go_loopw [32] (fun iv wr => ∃ k : Nat, iv = .int .i64 k ∧ k ≤ nbk ∧ CI w wr u (.slice pa u.arrays.length capa) (.slice (some ax) u.flows.length capf) na nf FA ∧ Below w2.heap.size w2 wr ∧ wr.heap[wo.heap.size]? = some (.cells #[.string (mk (u.flows[i]'hil).name), .int .i64 (u.flows[i]'hil).params, .int .i64 (u.flows[i]'hil).values, .slice pb nbk cb] 45 (0, 0)) ∧ Hid (∀ t (ht : t < k) (ht' : t < (u.flows[i]'hil).blocks.length), blkB u (u.flows[i]'hil) ((u.flows[i]'hil).blocks[t]'ht') = true)) (fun iv wr => nbk - slotN iv)
          case atStart => exact ⟨0, rfl, Nat.zero_le _, HC2.out, Below.refl _ _, HFL.out, Lib.hid (fun t ht => by omega)⟩
          case round =>
            obtain ⟨k, rfl, hk, hC, hbw, hfl, HBL⟩ := hrel
            have HC3 := Lib.hid hC
            have HB3 := Lib.hid hbw
            have HF3 := Lib.hid hfl
            have hz3 : wo.heap.size < wr.heap.size := by have := hbw.size; omega
            obtain ⟨y0, y1, y2, y3⟩ := four_at' hfl
            clear hC hbw hfl
            by_cases hkl : k < nbk
            · have hkb : k < (u.flows[i]'hil).blocks.length := by rw [HNBK.out]; exact hkl
              obtain ⟨_, _, _, hq, hbc⟩ := HVB.out
              obtain ⟨ay, hay, _, ky⟩ := hbc k hkb
              injection hq with hq1 hq2 hq3
              subst hq1 hq3
              subst hay
              clear hq2
              have hbb : Below wo.heap.size wo wr := ext_trans HBW2.out HB3.out
              obtain ⟨vi, p0, p1, p2, p3, p4, hvi⟩ := bk_get (bk_kept ky trivial (kept_below hbb))
              obtain ⟨pi, ci, hvi2⟩ := row_slice hvi
              subst hvi2
              have hay2 : (ay.add (k * 5)).block < wr.heap.size := cell_lt p0
              have HRB := Lib.hid (fun (w' : World) (g : Below wr.heap.size wr w') => rblk_any (HC3.out.ni.ext g) (u.flows[i]'hil).name (u.flows[i]'hil).params (u.flows[i]'hil).values (some ay) nbk cb ((u.flows[i]'hil).blocks[k]'hkb) _ (xns_kept hvi (kept_below g)) (fun x hx => xnok_of (HF.out.xn _ (List.getElem_mem hil) _ (List.getElem_mem hkb) x hx)))
              have HM : Hid (blkM u FA (placeF u.flows) (u.flows[i]'hil).values nbk ((u.flows[i]'hil).blocks[k]'hkb) = blkB u (u.flows[i]'hil) ((u.flows[i]'hil).blocks[k]'hkb)) := Lib.hid (by rw [← HNBK.out]; exact blkM_eq HFA.out _ _)
              have HWR := Lib.hid (fun hbf => wrong_block HDD.out hil (fun t ht => HALL.out t ht (by omega)) HFB.out hkb (fun t ht => HBL.out t ht (by omega)) hbf)
              have HST : Hid (blkB u (u.flows[i]'hil) ((u.flows[i]'hil).blocks[k]'hkb) = true → ∀ t (ht : t < k + 1) (ht' : t < (u.flows[i]'hil).blocks.length), blkB u (u.flows[i]'hil) ((u.flows[i]'hil).blocks[t]'ht') = true) := Lib.hid (fun hb t ht ht' => by
                by_cases e : t = k
                · subst e; exact hb
                · exact HBL.out t (by omega) ht')
              unfold flV bkVal at HRB
              clear ky hvi hbc hbb
              generalize blkM u FA (placeF u.flows) (u.flows[i]'hil).values nbk ((u.flows[i]'hil).blocks[k]'hkb) = bm at *
              generalize hbv : blkB u (u.flows[i]'hil) ((u.flows[i]'hil).blocks[k]'hkb) = bv at *
              clear hbv
              obtain ⟨mi, hmi⟩ : ∃ m : Nat, ((u.flows[i]'hil).blocks[k]'hkb).ins.length = m := ⟨_, rfl⟩
              rw [hmi] at p0 HRB
              clear hmi
              rw [HM.out] at HRB
              clear HM
              cases bv with
              | false =>
                have HW := Lib.hid (HWR.out rfl)
                go_wp2_with fail
                refine (HRB.out _ (ext_alloc (Below.refl _ _) _)).mono ?_; rintro e w4 ⟨rfl, g4⟩
                have HW2 := Lib.hid ((HC3.out.ext (ext_alloc (Below.refl _ _) _)).ext g4)
                clear g4
                obtain ⟨wf, hwf, hhf, hbf⟩ := two_put HW2.out.rs HW2.out.bl (by omega) (.int .i64 i) (.int .i64 k)
                have HWF := Lib.hid hwf
                have HHF := Lib.hid hhf
                have HBF := Lib.hid hbf
                obtain ⟨⟨d0, d1⟩, e0, e1⟩ := two_of HW2.out.rs
                clear hwf hhf hbf
                go_wp2_with fail
                refine bodyPost_world2 HWF.out ?_
                clear d0 d1 e0 e1
                obtain ⟨c0, c1⟩ := two_cells HHF.out
                exact bodyPost_ret (v := .tuple #[.int .i64 70, .agg #[.int .i64 i, .int .i64 k]]) (by simp [results, Tryd.results17, go_sem, c0, c1]) rfl ⟨ck_res HW.out, HBF.out⟩
              | true =>
                have HST2 := Lib.hid (HST.out rfl)
                go_wp2_with fail
                refine (HRB.out _ (ext_alloc (Below.refl _ _) _)).mono ?_; rintro e w4 ⟨rfl, g4⟩
                have HC4 := Lib.hid ((HC3.out.ext (ext_alloc (Below.refl _ _) _)).ext g4)
                have HB4 : Hid (Below wr.heap.size wr w4) := Lib.hid (ext_trans (ext_alloc (Below.refl _ _) _) g4)
                clear g4
                go_wp2_with fail
                go_roundw
                case rel => exact ⟨k + 1, by go_num, by omega, HC4.out, ext_trans HB3.out HB4.out, (HB4.out.block _ hz3).trans HF3.out, HST2⟩
                case measure => simp [slotN]; omega
            · obtain rfl : k = nbk := by omega
              have HNX2 : Hid (∀ t (ht : t < i + 1) (ht' : t < u.flows.length), flwB (u.flows[t]'ht') = true ∧ badBk u (u.flows[t]'ht') (u.flows[t]'ht').blocks 0 = none) := Lib.hid (fun t ht ht' => HNX.out k t ht ht' HBL.out (by rw [HNBK.out]; exact Nat.le_refl _))
              have HBX : Hid (Below w1.heap.size w1 wr) := Lib.hid (ext_trans HBW.out (ext_trans HBW2.out HB3.out))
              go_wp2_with fail
              go_roundw
              case rel => exact ⟨i + 1, by go_num, by omega, HC3.out, HBX.out, HNX2⟩
              case measure => simp [slotN]; omega
      · obtain rfl : i = u.flows.length := by omega
        have HW := Lib.hid (wrong_none HDD.out (fun t ht => HALL.out t ht ht))
        obtain ⟨wf, hwf, hhf, hbf⟩ := two_put HC.out.rs HC.out.bl (by omega) (.int .i64 0) (.int .i64 0)
        have HWF := Lib.hid hwf
        have HHF := Lib.hid hhf
        have HBF := Lib.hid hbf
        obtain ⟨⟨d0, d1⟩, e0, e1⟩ := two_of HC.out.rs
        clear hwf hhf hbf
        go_wp2_with fail
        refine bodyPost_world2 HWF.out ?_
        clear d0 d1 e0 e1
        obtain ⟨c0, c1⟩ := two_cells HHF.out
        exact bodyPost_ret (v := .tuple #[.int .i64 0, .agg #[.int .i64 0, .int .i64 0]]) (by simp [results, Tryd.results17, go_sem, c0, c1]) rfl ⟨ck_res HW.out, HBF.out⟩
end Go.Proofs.YtafapkljlajflaaDoor
