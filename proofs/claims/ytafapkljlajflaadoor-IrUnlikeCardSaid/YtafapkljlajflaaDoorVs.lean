/- The document's own Same, of units that differ in their blocks alone. -/
import Derived.Test.YtafapkljlajflaaDoorRows
import Derived.WalkKit
import Derived.ProofKit
import Derived.OpenShut
import Derived.WalkLawsBesides
import Derived.WalkSpells
import Derived.Outline
import Derived.Handy
import Derived.Lib.Hide
import Derived.Lib.OthersKept
import Derived.KernelRfl
import Derived.Carry
import Derived.RegionTactic
import Derived.BigRegion
import Derived.OwnWalk
import Derived.Deep.Cut
import Derived.Deep.CutRange
import Derived.Deep.CutBlock
import Derived.IntWalk
import Derived.Deep.QuietTactic
import Derived.BigQuiet
import Derived.Deep.RegionHeld3
import Derived.Test.YtafapkljlajflaaDoorVb
import Derived.Test.YtafapkljlajflaaDoorUk
import Derived.Test.YtafapkljlajflaaDoorVr
namespace Go.Proofs.YtafapkljlajflaaDoor
open Go.ChangeShapes Go.WideShapes Go.ChangeAt Go.RowKit
set_option linter.unusedVariables false
structure BUX (T : TypeId) (w wr : World) (X Y : Array Value) : Prop where
  of ::
  b1 : wr.heap[w.heap.size]? = some (.cells X T (0, 0))
  b2 : wr.heap[w.heap.size + 1]? = some (.cells Y T (0, 0))
  bl : Below w.heap.size w wr
theorem BUX.lt {T : TypeId} {w wr : World} {X Y : Array Value} (h : BUX T w wr X Y) : w.heap.size + 1 < wr.heap.size := (Array.getElem?_eq_some_iff.1 h.b2).1
theorem BUX.new (T : TypeId) (w : World) (X Y : Array Value) : BUX T w ((w.alloc (.cells X T)).alloc (.cells Y T)) X Y := ⟨(Lib.alloc_old _ _ _ (by simp)).trans (heap_new w _), heap_new' _ _ _ (by simp), ext_alloc (ext_alloc (Below.refl _ _) _) _⟩
theorem BUX.ext {T : TypeId} {w wr wx : World} {X Y : Array Value} (h : BUX T w wr X Y) (g : Below wr.heap.size wr wx) : BUX T w wx X Y := ⟨(g.block _ (by have := h.lt; omega)).trans h.b1, (g.block _ h.lt).trans h.b2, ext_trans h.bl g⟩
theorem BUX.drew {T : TypeId} {w wr : World} {X Y : Array Value} (h : BUX T w wr X Y) (n : Nat) : BUX T w (wr.drewN n) X Y := ⟨h.b1, h.b2, ext_drewN h.bl n⟩
/-- Two units that differ in their blocks alone. -/
structure Near (u v : Un) : Prop where
  of ::
  ar : u.arrays = v.arrays
  fl : u.flows.length = v.flows.length
  hd : ∀ i (h : i < u.flows.length) (h' : i < v.flows.length), (u.flows[i]'h).name = (v.flows[i]'h').name ∧ (u.flows[i]'h).params = (v.flows[i]'h').params ∧ (u.flows[i]'h).values = (v.flows[i]'h').values
theorem near_eq {u v : Un} (h : Near u v) (hb : ∀ j (h : j < u.flows.length) (h' : j < v.flows.length), (u.flows[j]'h).blocks = (v.flows[j]'h').blocks) : u = v := by
  obtain ⟨ua, uf⟩ := u
  obtain ⟨va, vf⟩ := v
  obtain ⟨h1, h2, h3⟩ := h
  simp only at h1 h2 h3 hb
  subst h1
  have : uf = vf := List.ext_getElem h2 (fun j g g' => by
    obtain ⟨e1, e2, e3⟩ := h3 j g g'
    have e4 := hb j g g'
    generalize uf[j] = x at *
    generalize vf[j] = y at *
    obtain ⟨a, b, c, d⟩ := x
    obtain ⟨a', b', c', d'⟩ := y
    simp only at e1 e2 e3 e4
    rw [e1, e2, e3, e4])
  rw [this]
theorem blocks_ne {u v : Un} (i : Nat) (h : i < u.flows.length) (h' : i < v.flows.length) (hne : (u.flows[i]'h).blocks ≠ (v.flows[i]'h').blocks) : u ≠ v := fun e => hne (by subst e; rfl)
theorem item_ne {α : Type} {L M : List α} (i : Nat) (h : i < L.length) (h' : i < M.length) (hne : L[i]'h ≠ M[i]'h') : L ≠ M := fun e => hne (by subst e; rfl)
set_option maxRecDepth 100000 in
set_option maxHeartbeats 16000000 in
theorem same_any (u v : Un) (vu vv : Value) (w : World) (hu : UnAt (fun b => b < w.heap.size) w vu u) (hv : UnAt (fun b => b < w.heap.size) w vv v) (hn : Near u v) :
    Calls Tryd.prog 11 #[vu, vv] w fun e w' => e = .returned (.bool (decide (u = v))) ∧ Below w.heap.size w w' := by
  obtain ⟨res, hres⟩ : ∃ r : Bool, r = decide (u = v) := ⟨_, rfl⟩
  have HR1 : Hid (u = v → res = true) := Lib.hid (fun h => by rw [hres, h]; simp)
  have HR2 : Hid (u ≠ v → res = false) := Lib.hid (fun h => by rw [hres]; exact decide_eq_false h)
  rw [← hres]
  clear hres
  obtain ⟨va, vf, rfl, har, hfl⟩ := hu
  obtain ⟨vb, vg, rfl, hbr, hgl⟩ := hv
  have HN := Lib.hid hn
  rw [← hn.ar] at hbr
  obtain ⟨_, pa, ca, rfl, hac⟩ := har
  obtain ⟨_, pb, cb, rfl, hbc⟩ := hbr
  obtain ⟨_, pf, cf, rfl, hfc⟩ := hfl
  obtain ⟨_, pg, cg, rfl, hgc⟩ := hgl
  obtain ⟨na, hna⟩ : ∃ m : Nat, u.arrays.length = m := ⟨_, rfl⟩
  obtain ⟨nf, hnf⟩ : ∃ m : Nat, u.flows.length = m := ⟨_, rfl⟩
  have hng : v.flows.length = nf := by rw [← hn.fl]; exact hnf
  have HNA := Lib.hid hna
  have HNF := Lib.hid hnf
  have HNG := Lib.hid hng
  have HAC := Lib.hid hac
  have HBC := Lib.hid hbc
  have HFC := Lib.hid hfc
  have HGC := Lib.hid hgc
  clear hac hbc hfc hgc hn
  rw [hna, hnf, hng]
  clear hna hnf hng
  have HB1 : Hid (((w.alloc (.cells #[.slice pa na ca, .slice pf nf cf] 27)).alloc (.cells #[.slice pb na cb, .slice pg nf cg] 27)).heap[w.heap.size]? = some (.cells #[.slice pa na ca, .slice pf nf cf] 27 (0, 0))) := Lib.hid ((Lib.alloc_old _ _ _ (by simp)).trans (heap_new w _))
  have HB2 : Hid (((w.alloc (.cells #[.slice pa na ca, .slice pf nf cf] 27)).alloc (.cells #[.slice pb na cb, .slice pg nf cg] 27)).heap[w.heap.size + 1]? = some (.cells #[.slice pb na cb, .slice pg nf cg] 27 (0, 0))) := Lib.hid (heap_new' _ _ _ (by simp))
  have HG2 : Hid (Below w.heap.size w ((w.alloc (.cells #[.slice pa na ca, .slice pf nf cf] 27)).alloc (.cells #[.slice pb na cb, .slice pg nf cg] 27))) := Lib.hid (ext_alloc (ext_alloc (Below.refl _ _) _) _)
  go_enter Tryd.func11, Tryd.ntmps11
  go_wp2_with fail
  go_loopw [5] (fun iv wr => ∃ i : Nat, iv = .int .i64 i ∧ i ≤ na ∧ BUX 27 w wr #[.slice pa na ca, .slice pf nf cf] #[.slice pb na cb, .slice pg nf cg]) (fun iv wr => na - slotN iv)
  case atStart => exact ⟨0, rfl, Nat.zero_le _, HB1.out, HB2.out, HG2.out⟩
  case round =>
    obtain ⟨i, rfl, hi, hB⟩ := hrel
    have HB := Lib.hid hB
    obtain ⟨u0, u1⟩ := two_cells hB.b1
    obtain ⟨v0, v1⟩ := two_cells hB.b2
    have hz := hB.lt
    have hz0 : w.heap.size < wr.heap.size := by omega
    clear hB
    by_cases h : i < na
    · have hia : i < u.arrays.length := by rw [HNA.out]; exact h
      obtain ⟨aa, rfl, hab, ka⟩ := HAC.out i hia
      obtain ⟨bb, rfl, hbb, kb⟩ := HBC.out i hia
      have q0 := (HB.out.bl.cell (by rw [add_block]; exact hab)).trans ka.1
      have q1 := (HB.out.bl.cell (p := ⟨(aa.add (i * 2)).block, (aa.add (i * 2)).off + 1, none⟩) (by show (aa.add (i * 2)).block < _; rw [add_block]; exact hab)).trans ka.2
      have r0 := (HB.out.bl.cell (by rw [add_block]; exact hbb)).trans kb.1
      have r1 := (HB.out.bl.cell (p := ⟨(bb.add (i * 2)).block, (bb.add (i * 2)).off + 1, none⟩) (by show (bb.add (i * 2)).block < _; rw [add_block]; exact hbb)).trans kb.2
      have hij : (i : Int) < na := by omega
      have hl1 : (aa.add (i * 2)).block < wr.heap.size := cell_lt q0
      have hl2 : (bb.add (i * 2)).block < wr.heap.size := cell_lt r0
      clear ka kb
      generalize u.arrays[i]'hia = x at *
      obtain ⟨nm, sz⟩ := x
      simp only at q0 q1 r0 r1
      go_upto_region 6 with (fail)
      go_quiet (fail)
      go_wp2_with fail
      go_roundw
      case rel => exact ⟨i + 1, by go_num, by omega, HB.out.drew _⟩
      case measure => simp [slotN]; omega
    · obtain rfl : na = i := by omega
      go_wp2_with fail
      go_loopw [6] (fun iv wr => ∃ i : Nat, iv = .int .i64 i ∧ i ≤ nf ∧ BUX 27 w wr #[.slice pa na ca, .slice pf nf cf] #[.slice pb na cb, .slice pg nf cg] ∧ Hid (∀ j (h : j < u.flows.length) (h' : j < v.flows.length), j < i → (u.flows[j]'h).blocks = (v.flows[j]'h').blocks)) (fun iv wr => nf - slotN iv)
      case atStart => exact ⟨0, rfl, Nat.zero_le _, HB.out, Lib.hid (fun j h h' hj => absurd hj (Nat.not_lt_zero _))⟩
      case round =>
        clear u0 u1 v0 v1 hz hz0
        obtain ⟨i, rfl, hi, hB, HEQ⟩ := hrel
        have HBo := Lib.hid hB
        obtain ⟨u0, u1⟩ := two_cells hB.b1
        obtain ⟨v0, v1⟩ := two_cells hB.b2
        have hz := hB.lt
        have hz0 : w.heap.size < wr.heap.size := by omega
        clear hB
        by_cases h : i < nf
        · obtain ⟨wo, rfl⟩ : ∃ wo, wo = wr := ⟨_, rfl⟩
          have hiu : i < u.flows.length := by rw [HNF.out]; exact h
          have hiv : i < v.flows.length := by rw [HNG.out]; exact h
          obtain ⟨aa, rfl, hab, kx⟩ := HFC.out i hiu
          obtain ⟨bb, rfl, hbb, ky⟩ := HGC.out i hiv
          obtain ⟨vx, q0, q1, q2, q3, hvx⟩ := fl_get (fl_kept (A := fun k => k < w.heap.size) kx (by rw [add_block]; exact hab) (kept_below HBo.out.bl))
          obtain ⟨vy, r0, r1, r2, r3, hvy⟩ := fl_get (fl_kept (A := fun k => k < w.heap.size) ky (by rw [add_block]; exact hbb) (kept_below HBo.out.bl))
          obtain ⟨pbk, cbk, hvx2⟩ := row_slice hvx
          subst hvx2
          obtain ⟨pbl, cbl, hvy2⟩ := row_slice hvy
          subst hvy2
          have hl1 : (aa.add (i * 4)).block < wo.heap.size := cell_lt q0
          have hl2 : (bb.add (i * 4)).block < wo.heap.size := cell_lt r0
          have hij : (i : Int) < nf := by omega
          obtain ⟨e1, e2, e3⟩ := HN.out.hd i hiu hiv
          have HNEQ := Lib.hid (blocks_ne i hiu hiv)
          have HNX : Hid ((u.flows[i]'hiu).blocks = (v.flows[i]'hiv).blocks → ∀ j (h : j < u.flows.length) (h' : j < v.flows.length), j < i + 1 → (u.flows[j]'h).blocks = (v.flows[j]'h').blocks) := Lib.hid (fun hq j h h' hj => by
            rcases (by omega : j < i ∨ j = i) with hj | rfl
            · exact HEQ.out j h h' hj
            · exact hq)
          clear kx ky
          generalize u.flows[i]'hiu = f at *
          generalize v.flows[i]'hiv = g at *
          obtain ⟨nm, fp, fv, bs⟩ := f
          obtain ⟨nm', fp', fv', bs'⟩ := g
          simp only at e1 e2 e3 q0 q1 q2 q3 r0 r1 r2 r3 hvx hvy HNEQ HNX
          subst e1 e2 e3
          have HVX := Lib.hid hvx
          have HVY := Lib.hid hvy
          clear hvx hvy
          by_cases hm : bs.length = bs'.length
          rotate_left
          · have hr : res = false := HR2.out (HNEQ.out (fun e => hm (by rw [e])))
            subst hr
            have hm2 : ¬ ((bs.length : Int) = bs'.length) := by omega
            go_wp2_with fail
            go_ret
            exact ⟨rfl, ext_trans HBo.out.bl (ext_alloc (ext_alloc (Below.refl _ _) _) _)⟩
          obtain ⟨mb, hmb⟩ : ∃ m, bs.length = m := ⟨_, rfl⟩
          have hmc : bs'.length = mb := by rw [← hm]; exact hmb
          have HMB := Lib.hid hmb
          have HMC := Lib.hid hmc
          rw [hmb] at q3 HVX
          rw [hmc] at r3 HVY
          clear hm hmb hmc
          have HF0 := Lib.hid (BUX.new 45 wo #[.string (mk nm), .int .i64 fp, .int .i64 fv, .slice pbk mb cbk] #[.string (mk nm), .int .i64 fp, .int .i64 fv, .slice pbl mb cbl])
          go_wp2_with fail
          go_loopw [9] (fun kv wr => ∃ k : Nat, kv = .int .i64 k ∧ k ≤ mb ∧ BUX 45 wo wr #[.string (mk nm), .int .i64 fp, .int .i64 fv, .slice pbk mb cbk] #[.string (mk nm), .int .i64 fp, .int .i64 fv, .slice pbl mb cbl] ∧ Hid (bs.take k = bs'.take k)) (fun kv wr => mb - slotN kv)
          case atStart => exact ⟨0, rfl, Nat.zero_le _, HF0.out, Lib.hid rfl⟩
          case round =>
            clear q0 q1 q2 q3 r0 r1 r2 r3
            obtain ⟨k, rfl, hk, hF, HTK⟩ := hrel
            have HF := Lib.hid hF
            obtain ⟨f0, f1, f2, f3⟩ := four_at' hF.b1
            obtain ⟨g0, g1, g2, g3⟩ := four_at' hF.b2
            have hzf := hF.lt
            have hzf0 : wo.heap.size < wr.heap.size := by omega
            clear hF
            by_cases hkm : k < mb
            · obtain ⟨wp, rfl⟩ : ∃ wp, wp = wr := ⟨_, rfl⟩
              have hkb : k < bs.length := by rw [HMB.out]; exact hkm
              have hkc : k < bs'.length := by rw [HMC.out]; exact hkm
              have hwop : Kept (fun b => b < w.heap.size) wo wp := fun b hb hl => HF.out.bl.block b hl
              obtain ⟨_, _, _, hqx, hbx⟩ := bks_kept HVX.out hwop
              obtain ⟨_, _, _, hqy, hby⟩ := bks_kept HVY.out hwop
              obtain ⟨ax, hax, haxb, kx⟩ := hbx k hkb
              obtain ⟨ay, hay, hayb, ky⟩ := hby k hkc
              injection hqx with hx1 hx2 hx3
              injection hqy with hy1 hy2 hy3
              subst hx1 hx3 hy1 hy3
              subst hax hay
              clear hx2 hy2
              obtain ⟨vi, p0, p1, p2, p3, p4, hvi⟩ := bk_get kx
              obtain ⟨vj, s0, s1, s2, s3, s4, hvj⟩ := bk_get ky
              obtain ⟨pi, ci, hvi2⟩ := row_slice hvi
              subst hvi2
              obtain ⟨pj, cj, hvj2⟩ := row_slice hvj
              subst hvj2
              have hlx : (ax.add (k * 5)).block < wp.heap.size := cell_lt p0
              have hly : (ay.add (k * 5)).block < wp.heap.size := cell_lt s0
              have hki : (k : Int) < mb := by omega
              have HBNE := Lib.hid (item_ne (L := bs) (M := bs') k hkb hkc)
              have HS1 := Lib.hid (List.take_succ_eq_append_getElem hkb)
              have HS2 := Lib.hid (List.take_succ_eq_append_getElem hkc)
              have HVI := Lib.hid hvi
              have HVJ := Lib.hid hvj
              clear kx ky hbx hby hvi hvj
              generalize bs[k]'hkb = x at *
              generalize bs'[k]'hkc = y at *
              obtain ⟨xi, ⟨tk, ta, tt, te⟩⟩ := x
              obtain ⟨yi, ⟨tk', ta', tt', te'⟩⟩ := y
              simp only at p0 p1 p2 p3 p4 s0 s1 s2 s3 s4 HVI HVJ
              by_cases e : tk = tk'
              rotate_left
              · have hr : res = false := HR2.out (HNEQ.out (HBNE.out (fun q => e (congrArg (fun b : Bk => b.term.kind) q))))
                subst hr
                go_wp2_with fail
                go_ret
                exact ⟨rfl, ext_trans HBo.out.bl (ext_trans HF.out.bl (ext_alloc (ext_alloc (Below.refl _ _) _) _))⟩
              subst e
              by_cases e : ta = ta'
              rotate_left
              · have hr : res = false := HR2.out (HNEQ.out (HBNE.out (fun q => e (congrArg (fun b : Bk => b.term.a) q))))
                subst hr
                go_wp2_with fail
                go_ret
                exact ⟨rfl, ext_trans HBo.out.bl (ext_trans HF.out.bl (ext_alloc (ext_alloc (Below.refl _ _) _) _))⟩
              subst e
              by_cases e : tt = tt'
              rotate_left
              · have hr : res = false := HR2.out (HNEQ.out (HBNE.out (fun q => e (congrArg (fun b : Bk => b.term.to) q))))
                subst hr
                go_wp2_with fail
                go_ret
                exact ⟨rfl, ext_trans HBo.out.bl (ext_trans HF.out.bl (ext_alloc (ext_alloc (Below.refl _ _) _) _))⟩
              subst e
              by_cases e : te = te'
              rotate_left
              · have hr : res = false := HR2.out (HNEQ.out (HBNE.out (fun q => e (congrArg (fun b : Bk => b.term.els) q))))
                subst hr
                go_wp2_with fail
                go_ret
                exact ⟨rfl, ext_trans HBo.out.bl (ext_trans HF.out.bl (ext_alloc (ext_alloc (Below.refl _ _) _) _))⟩
              subst e
              by_cases hm : xi.length = yi.length
              rotate_left
              · have hr : res = false := HR2.out (HNEQ.out (HBNE.out (fun q => hm (congrArg (fun b : Bk => b.ins.length) q))))
                subst hr
                have hm2 : ¬ ((xi.length : Int) = yi.length) := by omega
                go_wp2_with fail
                go_ret
                exact ⟨rfl, ext_trans HBo.out.bl (ext_trans HF.out.bl (ext_alloc (ext_alloc (Below.refl _ _) _) _))⟩
              obtain ⟨mi, hmi⟩ : ∃ m, xi.length = m := ⟨_, rfl⟩
              have hmj : yi.length = mi := by rw [← hm]; exact hmi
              have HMI := Lib.hid hmi
              have HMJ := Lib.hid hmj
              rw [hmi] at p0 HVI
              rw [hmj] at s0 HVJ
              clear hm hmi hmj
              have HX0 := Lib.hid (BUX.new 43 wp #[.slice pi mi ci, .int .i64 tk, .int .i64 ta, .int .i64 tt, .int .i64 te] #[.slice pj mi cj, .int .i64 tk, .int .i64 ta, .int .i64 tt, .int .i64 te])
              go_wp2_with fail
              go_loopw [12] (fun lv wr => ∃ l : Nat, lv = .int .i64 l ∧ l ≤ mi ∧ BUX 43 wp wr #[.slice pi mi ci, .int .i64 tk, .int .i64 ta, .int .i64 tt, .int .i64 te] #[.slice pj mi cj, .int .i64 tk, .int .i64 ta, .int .i64 tt, .int .i64 te] ∧ Hid (xi.take l = yi.take l)) (fun lv wr => mi - slotN lv)
              case atStart => exact ⟨0, rfl, Nat.zero_le _, HX0.out, Lib.hid rfl⟩
              case round =>
                clear p0 p1 p2 p3 p4 s0 s1 s2 s3 s4 f0 f1 f2 f3 g0 g1 g2 g3
                obtain ⟨l, rfl, hl, hX, HTL⟩ := hrel
                have HXB := Lib.hid hX
                obtain ⟨x0, x1, x2, x3, x4⟩ := five_cells hX.b1
                obtain ⟨y0, y1, y2, y3, y4⟩ := five_cells hX.b2
                have hzx := hX.lt
                have hzx0 : wp.heap.size < wr.heap.size := by omega
                clear hX
                by_cases hlm : l < mi
                · have hla : l < xi.length := by rw [HMI.out]; exact hlm
                  have hlb : l < yi.length := by rw [HMJ.out]; exact hlm
                  have hwpr : Kept (fun b => b < w.heap.size) wp wr := fun b hb hl => HXB.out.bl.block b hl
                  obtain ⟨_, _, _, hqx, hbx⟩ := xns_kept HVI.out hwpr
                  obtain ⟨_, _, _, hqy, hby⟩ := xns_kept HVJ.out hwpr
                  obtain ⟨ax, hax, haxb, kx⟩ := hbx l hla
                  obtain ⟨ay, hay, hayb, ky⟩ := hby l hlb
                  injection hqx with hx1 hx2 hx3
                  injection hqy with hy1 hy2 hy3
                  subst hx1 hx3 hy1 hy3
                  subst hax hay
                  clear hx2 hy2
                  obtain ⟨va, p0, p1, p2, p3, p4, p5, p6, p7, hna⟩ := xn_get kx
                  obtain ⟨vb, s0, s1, s2, s3, s4, s5, s6, s7, hnb⟩ := xn_get ky
                  have hlx : (ax.add (l * 8)).block < wr.heap.size := cell_lt p0
                  have hly : (ay.add (l * 8)).block < wr.heap.size := cell_lt s0
                  have hli : (l : Int) < mi := by omega
                  have hwr : w.heap.size ≤ wr.heap.size := by omega
                  have HSI := Lib.hid (fun (w' : World) (g : Below wr.heap.size wr w') => same_ins (xi[l]'hla) (yi[l]'hlb) va vb w' (nums_wide (fun b (hb : b < w.heap.size) => (by have := g.size; omega : b < w'.heap.size)) (nums_kept hna (kept_below g))) (nums_wide (fun b (hb : b < w.heap.size) => (by have := g.size; omega : b < w'.heap.size)) (nums_kept hnb (kept_below g))))
                  have HINE := Lib.hid (item_ne (L := xi) (M := yi) l hla hlb)
                  have HL1 := Lib.hid (List.take_succ_eq_append_getElem hla)
                  have HL2 := Lib.hid (List.take_succ_eq_append_getElem hlb)
                  obtain ⟨pv, cv, hva⟩ := row_slice hna
                  subst hva
                  obtain ⟨pw, cw, hvb⟩ := row_slice hnb
                  subst hvb
                  clear kx ky hbx hby hna hnb
                  generalize xi[l]'hla = x at *
                  generalize yi[l]'hlb = y at *
                  obtain ⟨bq, hbq⟩ : ∃ b, decide (x = y) = b := ⟨_, rfl⟩
                  have HQ1 : Hid (bq = true → x = y) := Lib.hid (fun h => of_decide_eq_true (hbq.trans h))
                  have HQ2 : Hid (bq = false → x ≠ y) := Lib.hid (fun h => of_decide_eq_false (hbq.trans h))
                  rw [hbq] at HSI
                  clear hbq
                  obtain ⟨xk, xd, xa, xb, xo, xn, xm, xl⟩ := x
                  obtain ⟨yk, yd, ya, yb, yo, yn, ym, yl⟩ := y
                  simp only at p0 p1 p2 p3 p4 p5 p6 p7 s0 s1 s2 s3 s4 s5 s6 s7
                  unfold xnV at HSI
                  simp only at HSI
                  have HKP : Hid (∀ (w' : World), Below wr.heap.size wr w' → w'.cell? ⟨wp.heap.size, 0, none⟩ = some (.slice (some ax) mi ci) ∧ w'.cell? ⟨wp.heap.size + 1, 0, none⟩ = some (.slice (some ay) mi cj) ∧ w'.cell? (ax.add (l * 8)) = some (.int .i64 xk) ∧ w'.cell? ⟨(ax.add (l * 8)).block, (ax.add (l * 8)).off + 1, none⟩ = some (.int .i64 xd) ∧ w'.cell? ⟨(ax.add (l * 8)).block, (ax.add (l * 8)).off + 2, none⟩ = some (.int .i64 xa) ∧ w'.cell? ⟨(ax.add (l * 8)).block, (ax.add (l * 8)).off + 3, none⟩ = some (.int .i64 xb) ∧ w'.cell? ⟨(ax.add (l * 8)).block, (ax.add (l * 8)).off + 4, none⟩ = some (.int .i64 xo) ∧ w'.cell? ⟨(ax.add (l * 8)).block, (ax.add (l * 8)).off + 5, none⟩ = some (.int .i64 xn) ∧ w'.cell? ⟨(ax.add (l * 8)).block, (ax.add (l * 8)).off + 6, none⟩ = some (.string (mk xm)) ∧ w'.cell? ⟨(ax.add (l * 8)).block, (ax.add (l * 8)).off + 7, none⟩ = some (.slice pv xl.length cv) ∧ w'.cell? (ay.add (l * 8)) = some (.int .i64 yk) ∧ w'.cell? ⟨(ay.add (l * 8)).block, (ay.add (l * 8)).off + 1, none⟩ = some (.int .i64 yd) ∧ w'.cell? ⟨(ay.add (l * 8)).block, (ay.add (l * 8)).off + 2, none⟩ = some (.int .i64 ya) ∧ w'.cell? ⟨(ay.add (l * 8)).block, (ay.add (l * 8)).off + 3, none⟩ = some (.int .i64 yb) ∧ w'.cell? ⟨(ay.add (l * 8)).block, (ay.add (l * 8)).off + 4, none⟩ = some (.int .i64 yo) ∧ w'.cell? ⟨(ay.add (l * 8)).block, (ay.add (l * 8)).off + 5, none⟩ = some (.int .i64 yn) ∧ w'.cell? ⟨(ay.add (l * 8)).block, (ay.add (l * 8)).off + 6, none⟩ = some (.string (mk ym)) ∧ w'.cell? ⟨(ay.add (l * 8)).block, (ay.add (l * 8)).off + 7, none⟩ = some (.slice pw yl.length cw)) := Lib.hid (fun w' g => ⟨(g.cell (cell_lt x0)).trans x0, (g.cell (cell_lt y0)).trans y0, (g.cell (cell_lt p0)).trans p0, (g.cell (cell_lt p1)).trans p1, (g.cell (cell_lt p2)).trans p2, (g.cell (cell_lt p3)).trans p3, (g.cell (cell_lt p4)).trans p4, (g.cell (cell_lt p5)).trans p5, (g.cell (cell_lt p6)).trans p6, (g.cell (cell_lt p7)).trans p7, (g.cell (cell_lt s0)).trans s0, (g.cell (cell_lt s1)).trans s1, (g.cell (cell_lt s2)).trans s2, (g.cell (cell_lt s3)).trans s3, (g.cell (cell_lt s4)).trans s4, (g.cell (cell_lt s5)).trans s5, (g.cell (cell_lt s6)).trans s6, (g.cell (cell_lt s7)).trans s7⟩)
                  cases bq
                  · have hr : res = false := HR2.out (HNEQ.out (HBNE.out (fun q => HINE.out (HQ2.out rfl) (congrArg (fun b : Bk => b.ins) q))))
                    subst hr
                    go_upto_region 25 with (fail)
                    go_region_held3 (fun (w' : World) => w'.cell? ⟨wp.heap.size, 0, none⟩ = some (.slice (some ax) mi ci) ∧ w'.cell? ⟨wp.heap.size + 1, 0, none⟩ = some (.slice (some ay) mi cj) ∧ w'.cell? (ax.add (l * 8)) = some (.int .i64 xk) ∧ w'.cell? ⟨(ax.add (l * 8)).block, (ax.add (l * 8)).off + 1, none⟩ = some (.int .i64 xd) ∧ w'.cell? ⟨(ax.add (l * 8)).block, (ax.add (l * 8)).off + 2, none⟩ = some (.int .i64 xa) ∧ w'.cell? ⟨(ax.add (l * 8)).block, (ax.add (l * 8)).off + 3, none⟩ = some (.int .i64 xb) ∧ w'.cell? ⟨(ax.add (l * 8)).block, (ax.add (l * 8)).off + 4, none⟩ = some (.int .i64 xo) ∧ w'.cell? ⟨(ax.add (l * 8)).block, (ax.add (l * 8)).off + 5, none⟩ = some (.int .i64 xn) ∧ w'.cell? ⟨(ax.add (l * 8)).block, (ax.add (l * 8)).off + 6, none⟩ = some (.string (mk xm)) ∧ w'.cell? ⟨(ax.add (l * 8)).block, (ax.add (l * 8)).off + 7, none⟩ = some (.slice pv xl.length cv) ∧ w'.cell? (ay.add (l * 8)) = some (.int .i64 yk) ∧ w'.cell? ⟨(ay.add (l * 8)).block, (ay.add (l * 8)).off + 1, none⟩ = some (.int .i64 yd) ∧ w'.cell? ⟨(ay.add (l * 8)).block, (ay.add (l * 8)).off + 2, none⟩ = some (.int .i64 ya) ∧ w'.cell? ⟨(ay.add (l * 8)).block, (ay.add (l * 8)).off + 3, none⟩ = some (.int .i64 yb) ∧ w'.cell? ⟨(ay.add (l * 8)).block, (ay.add (l * 8)).off + 4, none⟩ = some (.int .i64 yo) ∧ w'.cell? ⟨(ay.add (l * 8)).block, (ay.add (l * 8)).off + 5, none⟩ = some (.int .i64 yn) ∧ w'.cell? ⟨(ay.add (l * 8)).block, (ay.add (l * 8)).off + 6, none⟩ = some (.string (mk ym)) ∧ w'.cell? ⟨(ay.add (l * 8)).block, (ay.add (l * 8)).off + 7, none⟩ = some (.slice pw yl.length cw)) (first | exact HKP.out _ (ext_drew (Below.refl _ _)) | exact HKP.out _ GG.out) ((go_at_call 27; refine (HSI.out _ (ext_drew (Below.refl _ _))).mono ?_; rintro e w5 ⟨rfl, g5⟩; have GG : Hid (Below wr.heap.size wr w5) := Lib.hid (ext_trans (ext_drew (Below.refl _ _)) g5); clear g5))
                    all_goals
                      go_wp2_with fail
                      go_ret
                      exact ⟨rfl, ext_trans HBo.out.bl (ext_trans HF.out.bl (ext_trans HXB.out.bl GG.out))⟩
                  · have HE := Lib.hid (HQ1.out rfl)
                    go_upto_region 25 with (fail)
                    go_region_held3 (fun (w' : World) => w'.cell? ⟨wp.heap.size, 0, none⟩ = some (.slice (some ax) mi ci) ∧ w'.cell? ⟨wp.heap.size + 1, 0, none⟩ = some (.slice (some ay) mi cj) ∧ w'.cell? (ax.add (l * 8)) = some (.int .i64 xk) ∧ w'.cell? ⟨(ax.add (l * 8)).block, (ax.add (l * 8)).off + 1, none⟩ = some (.int .i64 xd) ∧ w'.cell? ⟨(ax.add (l * 8)).block, (ax.add (l * 8)).off + 2, none⟩ = some (.int .i64 xa) ∧ w'.cell? ⟨(ax.add (l * 8)).block, (ax.add (l * 8)).off + 3, none⟩ = some (.int .i64 xb) ∧ w'.cell? ⟨(ax.add (l * 8)).block, (ax.add (l * 8)).off + 4, none⟩ = some (.int .i64 xo) ∧ w'.cell? ⟨(ax.add (l * 8)).block, (ax.add (l * 8)).off + 5, none⟩ = some (.int .i64 xn) ∧ w'.cell? ⟨(ax.add (l * 8)).block, (ax.add (l * 8)).off + 6, none⟩ = some (.string (mk xm)) ∧ w'.cell? ⟨(ax.add (l * 8)).block, (ax.add (l * 8)).off + 7, none⟩ = some (.slice pv xl.length cv) ∧ w'.cell? (ay.add (l * 8)) = some (.int .i64 yk) ∧ w'.cell? ⟨(ay.add (l * 8)).block, (ay.add (l * 8)).off + 1, none⟩ = some (.int .i64 yd) ∧ w'.cell? ⟨(ay.add (l * 8)).block, (ay.add (l * 8)).off + 2, none⟩ = some (.int .i64 ya) ∧ w'.cell? ⟨(ay.add (l * 8)).block, (ay.add (l * 8)).off + 3, none⟩ = some (.int .i64 yb) ∧ w'.cell? ⟨(ay.add (l * 8)).block, (ay.add (l * 8)).off + 4, none⟩ = some (.int .i64 yo) ∧ w'.cell? ⟨(ay.add (l * 8)).block, (ay.add (l * 8)).off + 5, none⟩ = some (.int .i64 yn) ∧ w'.cell? ⟨(ay.add (l * 8)).block, (ay.add (l * 8)).off + 6, none⟩ = some (.string (mk ym)) ∧ w'.cell? ⟨(ay.add (l * 8)).block, (ay.add (l * 8)).off + 7, none⟩ = some (.slice pw yl.length cw)) (first | exact HKP.out _ (ext_drew (Below.refl _ _)) | exact HKP.out _ GG.out) ((go_at_call 27; refine (HSI.out _ (ext_drew (Below.refl _ _))).mono ?_; rintro e w5 ⟨rfl, g5⟩; have GG : Hid (Below wr.heap.size wr w5) := Lib.hid (ext_trans (ext_drew (Below.refl _ _)) g5); clear g5))
                    all_goals
                      go_wp2_with fail
                      go_roundw
                      case rel => exact ⟨l + 1, by go_num, by omega, HXB.out.ext GG.out, Lib.hid (by rw [HL1.out, HL2.out, HTL.out, HE.out])⟩
                      case measure => simp [slotN]; omega
                · obtain rfl : l = mi := by omega
                  have hxy : xi = yi := by
                    have h := HTL.out
                    rwa [List.take_of_length_le (by rw [HMI.out]; exact Nat.le_refl _), List.take_of_length_le (by rw [HMJ.out]; exact Nat.le_refl _)] at h
                  have HXY := Lib.hid hxy
                  clear hxy
                  go_wp2_with fail
                  go_roundw
                  case rel => exact ⟨k + 1, by go_num, by omega, HF.out.ext HXB.out.bl, Lib.hid (by rw [HS1.out, HS2.out, HTK.out, HXY.out])⟩
                  case measure => simp [slotN]; omega
            · obtain rfl : k = mb := by omega
              go_wp2_with fail
              go_roundw
              case rel => exact ⟨i + 1, by go_num, by omega, HBo.out.ext HF.out.bl, Lib.hid (HNX.out (by
                have h := HTK.out
                rwa [List.take_of_length_le (by rw [HMB.out]; exact Nat.le_refl _), List.take_of_length_le (by rw [HMC.out]; exact Nat.le_refl _)] at h))⟩
              case measure => simp [slotN]; omega
        · obtain rfl : i = nf := by omega
          have hr : res = true := HR1.out (near_eq HN.out (fun j h h' => HEQ.out j h h' (by rw [← HNF.out]; exact h)))
          subst hr
          go_wp2_with fail
          go_ret
          exact ⟨rfl, HBo.out.bl⟩
end Go.Proofs.YtafapkljlajflaaDoor
