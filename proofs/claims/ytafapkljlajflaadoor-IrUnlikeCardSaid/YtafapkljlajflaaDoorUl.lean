/- The law's own unit of raw blocks: the walk. -/
import Derived.Test.YtafapkljlajflaaDoorRows
import Derived.WalkKit
import Derived.ProofKit
import Derived.OpenShut
import Derived.WalkLawsBesides
import Derived.WalkSpells
import Derived.Outline
import Derived.Handy
import Derived.Lib.Hide
import Derived.Lib.OthersKept
import Derived.KernelRfl
import Derived.Carry
import Derived.RegionTactic
import Derived.BigRegion
import Derived.Deep.AppendLies
import Derived.Deep.RegionLaw
import Derived.Deep.RegionHeldLaw
import Derived.Deep.RegionHeld3
import Derived.IntWalk
import Derived.Deep.Cut
import Derived.Deep.CutRange
import Derived.Deep.CutBlock
import Derived.Test.YtafapkljlajflaaDoorUj
import Derived.Test.YtafapkljlajflaaDoorUk
namespace Go.Proofs.YtafapkljlajflaaDoor
open Go.ChangeShapes Go.WideShapes Go.ChangeAt Go.RowKit
set_option linter.unusedVariables false
theorem bk_cells {A : Nat → Prop} {w : World} {a : Addr} {x : Bk} (h : BkAt A w a x) : ∃ v, w.cell? a = some v ∧ w.cell? ⟨a.block, a.off + 1, none⟩ = some (.int .i64 x.term.kind) ∧ w.cell? ⟨a.block, a.off + 2, none⟩ = some (.int .i64 x.term.a) ∧ w.cell? ⟨a.block, a.off + 3, none⟩ = some (.int .i64 x.term.to) ∧ w.cell? ⟨a.block, a.off + 4, none⟩ = some (.int .i64 x.term.els) ∧ XnsAt A w v x.ins := by
  obtain ⟨⟨v, h0, h8⟩, h1, h2, h3, h4⟩ := h
  exact ⟨v, h0, h1, h2, h3, h4, h8⟩
set_option maxRecDepth 100000 in
set_option maxHeartbeats 8000000 in
theorem lfit_own2 (raw : List Bk) (hr : ∀ b ∈ raw, AllK b) (rv : Value) (w : World) (hrv : BksAt (fun b => b < w.heap.size) w rv raw) :
    Calls Tryd.prog 9 #[rv] w fun e w' => (∃ v, e = .returned v ∧ FitOwn2 w.heap.size raw v w') ∧ Below w.heap.size w w' := by
  obtain ⟨hl, p, cap, rfl, hc⟩ := hrv
  have HC := Lib.hid hc
  have HR := Lib.hid hr
  clear hc hr
  go_enter Tryd.func9, Tryd.ntmps9
  go_wp2_with fail
  go_loopw [5] (fun kv wr => ∃ (k : Nat) (P : List (Fl × Value)) (vf : Value), kv = .int .i64 k ∧ k ≤ 3 ∧ UI w wr raw k P vf) (fun kv wr => 3 - slotN kv)
  case atStart => exact ⟨0, [], _, rfl, by decide, UI.start w raw⟩
  case round =>
    obtain ⟨k, P, vf, rfl, hk3, hU⟩ := hrel
    have hsz := hU.sz
    have hPl : P.length = k := by have := congrArg List.length hU.pf; simpa using this
    have HPL := Lib.hid hPl
    have hP3 : P.length ≤ 3 := by omega
    obtain ⟨pf, capf, hvf⟩ := own_slice hU.ow
    subst hvf
    have HU := Lib.hid hU
    have hl0 : w.heap.size < wr.heap.size := by omega
    have hl3 : w.heap.size + 1 + 1 + 1 < wr.heap.size := by omega
    have hlg : w.heap.size + 1 + 1 < wr.heap.size := by omega
    clear hU hPl
    by_cases h : k < 3
    · have hki : (k : Int) < 3 := by omega
      have hnm : wr.cell? ⟨w.heap.size + 1 + 1 + 1, k, none⟩ = some (.string (mk (namesL.getD k []))) := nms_cell (g := w.heap.size + 3) HU.out.nm h
      generalize hnn : namesL.getD k [] = nm at *
      have HNN := Lib.hid hnn
      clear hnn
      obtain ⟨wo, rfl⟩ : ∃ wo, wo = wr := ⟨_, rfl⟩
      have hlw : w.heap.size < wo.heap.size := hl0
      clear hl0 hl3 hlg
      go_wp2_with fail
      go_loopw [7] (fun iv wr => ∃ (i j : Nat) (Q : List (Bk × Value)) (vb : Value), iv = .int .i64 i ∧ Hid (i = k + 3 * j) ∧ j ≤ cntK raw.length k ∧ Hid (Q.map (·.1) = rawK raw k j) ∧ F1 w wo wr raw k P (.slice pf P.length capf) wo.heap.size Q vb) (fun iv wr => raw.length + 3 - slotN iv)
      case atStart => exact ⟨k, 0, [], _, rfl, Lib.hid (by omega), Nat.zero_le _, Lib.hid rfl, HU.out, ext_alloc (Below.refl _ _) _, Nat.le_refl _, by rw [HNN.out]; exact heap_new _ _, World.ownsRow_nil _ _ _ _, fun c hc => by cases hc⟩
      case round =>
        obtain ⟨i, j, Q, vb, rfl, HIJ, hj, HQ, hF⟩ := hrel
        have hQl : Q.length = j := by have := congrArg List.length HQ.out; rw [List.length_map, rawK_len] at this; exact this
        have hj8 := cntK_le raw.length k
        have hQ8 : Q.length ≤ 8 := by omega
        have HQL := Lib.hid hQl
        obtain ⟨pv, capv, hvv⟩ := own_slice hF.ow
        subst hvv
        have HF := Lib.hid hF
        have hFl : wo.heap.size < wr.heap.size := hF.lt
        have c3 := hF.cell
        clear hF hQl
        by_cases h : i < raw.length ∧ Q.length < 8
        · obtain ⟨h1, h2⟩ := h
          have h2i : (Q.length : Int) < 8 := by omega
          have hi26 : i ≤ 26 := by have := HIJ.out; have := HQL.out; omega
          have hj1 : j + 1 ≤ cntK raw.length k := cntK_more (by have := HIJ.out; omega) (by have := HQL.out; omega)
          obtain ⟨a, rfl, hab0, kk⟩ := HC.out i h1
          have hab1 : (a.add (i * 5)).block < w.heap.size := by rw [add_block]; exact hab0
          have hB : Below w.heap.size w wr := ext_trans HU.out.bl HF.out.bl
          obtain ⟨vx, q0, q1, q2, q3, q4, hvx⟩ := bk_cells (bk_kept kk hab1 (kept_below hB))
          obtain ⟨px, capx, hpx⟩ := row_slice hvx
          subst hpx
          have HVX := Lib.hid hvx
          have hab : (a.add (i * 5)).block < wr.heap.size := by omega
          have HIX : Hid (raw[k + 3 * j]? = some (raw[i]'h1)) := Lib.hid (by rw [← HIJ.out]; exact List.getElem?_eq_getElem h1)
          clear kk hvx hB
          obtain ⟨i0, hi0, hz0, hz1, hz2⟩ := info_parts infoB
          generalize raw[i]'h1 = x at *
          obtain ⟨xi, ⟨tk, ta, tt, te⟩⟩ := x
          have HNX : Hid ((Q ++ [((⟨xi, ⟨tk, ta, tt, te⟩⟩ : Bk), Value.slice px xi.length capx)]).map (·.1) = rawK raw k (j + 1)) := Lib.hid (by rw [rawK_next HIX.out, List.map_append, HQ.out]; rfl)
          simp only at q0 q1 q2 q3 q4 HVX
          go_wp2_with fail
          go_region_law ((refine step_append_lies _ (by rfl) _ _ _ (by rfl) (wo.heap.size + 1) 43 i0 _ 5 56 Tryd.underlying22 hi0 hz0 hz1 hz2 rfl (by omega) _ Q.length (Q.flatMap cellsB) (by rfl) (own_ext HF.out.ow (ext_alloc (ext_drew (Below.refl _ _)) _)) ⟨wr.heap.size, 0, none⟩ 1 1 (cellsB (⟨xi, ⟨tk, ta, tt, te⟩⟩, .slice px xi.length capx)) (by rfl) (by rfl) (World.news_of_block (cs := #[.slice px xi.length capx, .int .i64 tk, .int .i64 ta, .int .i64 tt, .int .i64 te]) (t := 43) (fr := (0, 0)) (heap_new' _ _ _ rfl)) (oneB _) (by omega) (by unfold maxLen; omega) (by omega) (by simp; omega) _ rfl ?_; intro gg cap6 w6 hown6 hg6 hat6 hlt6; have HF6 := Lib.hid (HF.out.next (⟨xi, ⟨tk, ta, tt, te⟩⟩, .slice px xi.length capx) (ext_alloc (ext_drew (Below.refl _ _)) _) HVX.out rfl hown6 hg6); have f3 := HF.out.fz (ext_alloc (ext_drew (Below.refl _ _)) _) hg6; have c3 := HF.out.cz (ext_alloc (ext_drew (Below.refl _ _)) _) hg6))
          all_goals
            go_wp2_with fail
            go_roundw
            case rel => exact ⟨i + 3, j + 1, _, _, by go_num, Lib.hid (by have := HIJ.out; omega), hj1, HNX, HF6.out⟩
            case measure => simp [slotN]; omega
        · have hjc : j = cntK raw.length k := cntK_end hj (fun hh => h ⟨by have := HIJ.out; omega, by have := HQL.out; omega⟩)
          have HJC := Lib.hid hjc
          obtain ⟨nb, hnb⟩ : ∃ nb, (bksOf raw k).length = nb := ⟨_, rfl⟩
          have hnb1 : 1 ≤ nb := by rw [← hnb]; exact (bksOf_len raw k).1
          have hnb8 : nb ≤ 8 := by rw [← hnb]; exact (bksOf_len raw k).2
          have HNB := Lib.hid hnb
          clear hnb hjc
          rcases (by omega : (¬ (i < raw.length) ∧ Q.length = 0) ∨ (¬ (i < raw.length) ∧ 0 < Q.length) ∨ (i < raw.length ∧ Q.length = 8)) with ⟨h1, h2⟩ | ⟨h1, h2⟩ | ⟨h1, h2⟩
          have hq : ((Q.length : Int) == 0) = true := beq_iff_eq.2 (by omega)
          have hqn : Q.length + 1 = 1 := by omega
          have HBK : Hid ((Q ++ [((zeroK : Bk), Value.slice none 0 0)]).map (·.1) = bksOf raw k) := Lib.hid (by
            rw [List.eq_nil_of_length_eq_zero h2]
            unfold bksOf
            rw [if_pos (by have := HJC.out; have := HQL.out; omega)]; rfl)
          clear h h2
          go_upto_region 13 with (at_builtin; refine app_at Tryd.underlying22 infoB rfl (by decide) (by decide) rfl _ _ rfl (wo.heap.size + 1) _ Q.length (Q.flatMap cellsB) rfl (own_ext HF.out.ow (ext_alloc (Below.refl _ _) _)) wr.heap.size 1 (cellsB (zeroK, .slice none 0 0)) rfl rfl (heap_new _ _) (oneB _) 1 hqn (by omega) (by simp; omega) ?_; intro gG capG w6 hown6 hg6 hat6; have HF6 := Lib.hid (HF.out.next (zeroK, .slice none 0 0) (ext_alloc (Below.refl _ _) _) RowAt.nil hqn hown6 hg6); have f3 := HF.out.fz (ext_alloc (Below.refl _ _) _) hg6; have c3 := HF.out.cz (ext_alloc (Below.refl _ _) _) hg6)
          obtain ⟨wx, hwx⟩ : ∃ wx, w6.setCell ⟨wo.heap.size, 3, none⟩ (.slice (some ⟨gG, 0, none⟩) 1 capG) = wx := ⟨_, rfl⟩
          have HF7 : Hid (F1 w wo wx raw k P (.slice pf P.length capf) wo.heap.size (Q ++ [((zeroK : Bk), Value.slice none 0 0)]) (.slice (some ⟨gG, 0, none⟩) 1 capG)) := Lib.hid (by rw [← hwx]; exact HF6.out)
          rw [hwx]
          clear hwx HF6 f3 c3 hg6 hown6 hat6
          obtain ⟨G, cG, hGe, h2⟩ := HF7.out.to2 HBK.out HNB.out
          have H2 := Lib.hid h2
          have HM : ∃ M, Hid (F2 w wo wx wx raw k P (.slice pf P.length capf) wo.heap.size G cG nb M 0 (bksOf raw k)) := ⟨_, H2⟩
          clear H2 h2 hGe HF7 HBK HF HQ HIJ hq hqn
          rotate_left
          have hq : ((Q.length : Int) == 0) = false := beq_eq_false_iff_ne.2 (by omega)
          have HBK : Hid (Q.map (·.1) = bksOf raw k) := Lib.hid (by rw [HQ.out, HJC.out]; unfold bksOf; rw [if_neg (by have := HJC.out; have := HQL.out; omega)])
          clear h h2
          go_upto_region 13 with (fail)
          try rw [hq]
          obtain ⟨wx, rfl⟩ : ∃ wx, wx = wr := ⟨_, rfl⟩
          obtain ⟨G, cG, hGe, h2⟩ := HF.out.to2 HBK.out HNB.out
          have H2 := Lib.hid h2
          have HM : ∃ M, Hid (F2 w wo wx wx raw k P (.slice pf P.length capf) wo.heap.size G cG nb M 0 (bksOf raw k)) := ⟨_, H2⟩
          clear H2 h2 hGe HBK HF HQ HIJ hq c3
          rotate_left
          have hq : ((Q.length : Int) == 0) = false := beq_eq_false_iff_ne.2 (by omega)
          have h6 : ¬ ((Q.length : Int) < 8) := by omega
          have HBK : Hid (Q.map (·.1) = bksOf raw k) := Lib.hid (by rw [HQ.out, HJC.out]; unfold bksOf; rw [if_neg (by have := HJC.out; have := HQL.out; omega)])
          clear h h2
          go_upto_region 13 with (fail)
          try rw [hq]
          obtain ⟨wx, rfl⟩ : ∃ wx, wx = wr := ⟨_, rfl⟩
          obtain ⟨G, cG, hGe, h2⟩ := HF.out.to2 HBK.out HNB.out
          have H2 := Lib.hid h2
          have HM : ∃ M, Hid (F2 w wo wx wx raw k P (.slice pf P.length capf) wo.heap.size G cG nb M 0 (bksOf raw k)) := ⟨_, H2⟩
          clear H2 h2 hGe HBK HF HQ HIJ hq c3 h6
          rotate_left
          all_goals
            obtain ⟨M0, HM⟩ := HM
            have c3 := HM.out.cell
            have hFl : wo.heap.size < wx.heap.size := by have := HM.out.hG; have := HM.out.hs; omega
            go_wp2_with fail
            go_loopw [9] (fun iv wr => ∃ (i : Nat) (M : List (Bk × Value)), iv = .int .i64 i ∧ i ≤ nb ∧ F2 w wo wx wr raw k P (.slice pf P.length capf) wo.heap.size G cG nb M i (bksOf raw k)) (fun iv wr => nb - slotN iv)
            case atStart => exact ⟨0, M0, rfl, Nat.zero_le _, HM.out⟩
            case round =>
              obtain ⟨i, M, rfl, hi, hM⟩ := hrel
              have HM2 := Lib.hid hM
              have c3 := hM.cell
              have hFl2 : wo.heap.size < wr.heap.size := by have := hM.hG; have := hM.hs; have := hM.hr; omega
              clear hM
              by_cases h : i < nb
              · have hi' : i < (bksOf raw k).length := by rw [HNB.out]; exact h
                have hib : (i : Int) < nb := by omega
                obtain ⟨v0, ⟨p0, p1, p2, p3, p4⟩, ⟨z0, z1, z2, z3, z4⟩, hx⟩ := HM2.out.row hi'
                have HALL := bksOf_all HR.out k _ (List.getElem_mem hi')
                have HLB := Lib.hid (fun (w' : World) (g : Below wr.heap.size wr w') => lblk_any ((bksOf raw k)[i]'hi') HALL v0 (nb : Int) (by omega) (w.heap.size + 3) w' (show NmsAt w' (w.heap.size + 3) from (g.block _ (by have := HM2.out.ui.sz; have := HM2.out.bl.size; omega)).trans ((HM2.out.bl.block _ (by have := HM2.out.ui.sz; omega)).trans HM2.out.ui.nm)) (xns_kept hx (kept_below g)))
                have HNX := Lib.hid (fun (w5 : World) (v5 : Value) (h5 : F2 w wo wx w5 raw k P (.slice pf P.length capf) wo.heap.size G cG nb M i (bksOf raw k)) hv => h5.next hi' v5 hv)
                have HFZ := Lib.hid (fun (w5 : World) (h5 : F2 w wo wx w5 raw k P (.slice pf P.length capf) wo.heap.size G cG nb M i (bksOf raw k)) => (h5.row hi'))
                have hGl : G < wr.heap.size := by have := HM2.out.hs; have := HM2.out.hr; omega
                have HWX : Hid (wx.heap.size ≤ wr.drew.heap.size) := Lib.hid HM2.out.hr
                have c3 : wr.drew.cell? ⟨wo.heap.size, 3, none⟩ = some (.slice (some ⟨G, 0, none⟩) nb cG) := c3
                unfold BkRes bkV at HLB
                clear hx HALL
                generalize (bksOf raw k)[i]'hi' = x at *
                generalize blkF x nb = y at *
                obtain ⟨yi, ⟨yk, ya, yt, ye⟩⟩ := y
                obtain ⟨xi, ⟨tk, ta, tt, te⟩⟩ := x
                simp only at p0 p1 p2 p3 p4 HLB HNX
                go_wp2_with fail
                go_region_law ((go_simp; go_at_call 20; refine (HLB.out _ (ext_drew (Below.refl _ _))).mono ?_; rintro e w5 ⟨⟨v5, rfl, hx5⟩, g5⟩; obtain ⟨p5, c5, hv5⟩ := row_slice hx5.1; subst hv5; have H5 := Lib.hid (HM2.out.ext (ext_trans (ext_drew (Below.refl _ _)) g5)); have HX5 := Lib.hid (HNX.out _ _ H5.out (XnsO.wide (fun b hb => Nat.le_trans HWX.out hb) hx5)); have c3 := (g5.cell (cell_lt c3)).trans c3; obtain ⟨vq, ⟨p0, p1, p2, p3, p4⟩, ⟨z0, z1, z2, z3, z4⟩, _⟩ := HFZ.out _ H5.out; clear hx5))
                all_goals
                  go_wp2_with fail
                  exact ⟨⟨i + 1, _, by go_num, by omega, HX5.out⟩, by simp [slotN]; omega⟩
              · obtain rfl : i = nb := by omega
                have HBS : Hid (BksAt (fun b => wo.heap.size ≤ b ∧ b < wr.heap.size) wr (.slice (some ⟨G, 0, none⟩) i cG) (flwF raw k).blocks) := Lib.hid (by
                  have := HM2.out.done hnb8
                  show BksAt _ wr _ ((bksOf raw k).map fun b => blkF b (bksOf raw k).length)
                  rw [HNB.out]
                  exact this)
                have HBZ : Hid (BRow wo.heap.size wr.heap.size wr (.slice (some ⟨G, 0, none⟩) i cG) (flwF raw k).blocks) := Lib.hid (by
                  have := HM2.out.fz
                  show BRow _ _ wr _ ((bksOf raw k).map fun b => blkF b (bksOf raw k).length)
                  rw [HNB.out]
                  exact this)
                have HU9 := Lib.hid (HM2.out.ui.ext HM2.out.bl)
                have HCF : Hid (cellsF (flwF raw k, Value.slice (some ⟨G, 0, none⟩) i cG) = cellsF ((⟨nm, k, 10, []⟩ : Fl), Value.slice (some ⟨G, 0, none⟩) i cG)) := Lib.hid (by rw [← HNN.out]; rfl)
                have hsz9 := HU9.out.sz
                have hu1 : w.heap.size + 1 + 1 < wr.heap.size := by omega
                obtain ⟨u0, u1⟩ := two_cells HU9.out.un
                obtain ⟨F0, F1c, F2c, F3⟩ := four_at HM2.out.fl
                rw [HNN.out] at F0
                go_wp2_with (at_builtin; refine app_at Tryd.underlying25 infoF rfl (by decide) (by decide) rfl _ _ rfl (w.heap.size + 4) _ P.length (P.flatMap cellsF) rfl (own_ext HU9.out.ow (ext_alloc (Below.refl _ _) _)) wr.heap.size 1 (cellsF ((⟨nm, k, 10, []⟩ : Fl), Value.slice (some ⟨G, 0, none⟩) i cG)) rfl rfl (heap_new _ _) (oneF _) _ rfl (by omega) (by simp; omega) ?_; intro gF capF w6 hown6 hg6 hat6; rw [← HCF.out] at hown6; have HU6 := Lib.hid (HM2.out.ui.next HM2.out.bl HBS.out HBZ.out (ext_alloc (Below.refl _ _) _) hown6 hg6 hat6); have u1 := HU9.out.cz (ext_alloc (Below.refl _ _) _) hg6; have y1 := HU9.out.fz (ext_alloc (Below.refl _ _) _) hg6)
                go_roundw
                case rel => exact ⟨k + 1, _, _, by go_num, by omega, HU6.out⟩
                case measure => simp [slotN]; omega
    · obtain rfl : k = 3 := by omega
      obtain ⟨wf, hwf, hhf, hbf, huf⟩ := HU.out.own
      have HWF := Lib.hid hwf
      have HHF := Lib.hid hhf
      have HBF := Lib.hid hbf
      have HUF := Lib.hid huf
      obtain ⟨c0, c1⟩ := two_cells HU.out.un
      obtain ⟨d0, d1⟩ := two_cells HU.out.rs
      obtain ⟨e0, e1⟩ := two_frozen HU.out.rs
      clear hwf hhf hbf huf
      go_wp2_with fail
      refine bodyPost_world HWF.out ?_
      clear c0 c1 d0 d1 e0 e1
      obtain ⟨c0, c1⟩ := two_cells HHF.out
      exact bodyPost_ret (v := .agg #[.slice (some ⟨w.heap.size + 1, 0, none⟩) 2 2, .slice pf P.length capf]) (by simp [results, Tryd.results9, go_sem, c0, c1]) rfl ⟨⟨_, rfl, HUF.out⟩, HBF.out⟩
theorem lfit_own (raw : List Bk) (hr : ∀ b ∈ raw, AllK b) (rv : Value) (w : World) (hrv : BksAt (fun b => b < w.heap.size) w rv raw) :
    Calls Tryd.prog 9 #[rv] w fun e w' => (∃ v, e = .returned v ∧ FitOwn w.heap.size raw v w') ∧ Below w.heap.size w w' := by
  refine (lfit_own2 raw hr rv w hrv).mono ?_
  rintro e w' ⟨⟨v, rfl, h⟩, g⟩
  exact ⟨⟨v, rfl, h.one⟩, g⟩
theorem lfit_any (raw : List Bk) (hr : ∀ b ∈ raw, AllK b) (rv : Value) (w : World) (hrv : BksAt (fun b => b < w.heap.size) w rv raw) :
    Calls Tryd.prog 9 #[rv] w fun e w' => FitAns w.heap.size raw e w' ∧ Below w.heap.size w w' := by
  refine (lfit_own raw hr rv w hrv).mono ?_
  rintro e w' ⟨⟨v, rfl, h⟩, g⟩
  exact ⟨⟨v, rfl, h.un⟩, g⟩
end Go.Proofs.YtafapkljlajflaaDoor
