/- IrPlaces, walked. -/
import Derived.Test.YtafapkljlajflaaDoorRows
import Derived.WalkKit
import Derived.ProofKit
import Derived.OpenShut
import Derived.WalkLawsBesides
import Derived.WalkSpells
import Derived.Outline
import Derived.Handy
import Derived.Lib.Hide
import Derived.Lib.OthersKept
import Derived.KernelRfl
import Derived.Carry
import Derived.RegionTactic
import Derived.BigRegion
import Derived.OwnWalk
import Derived.Deep.Cut
import Derived.IntWalk
import Derived.Deep.QuietTactic
import Derived.BigQuiet
import Derived.Deep.RegionHeld3
import Derived.Test.YtafapkljlajflaaDoorVb
import Derived.Test.YtafapkljlajflaaDoorUl
namespace Go.Proofs.YtafapkljlajflaaDoor
open Go.ChangeShapes Go.WideShapes Go.ChangeAt Go.RowKit
set_option linter.unusedVariables false
theorem fit_places (raw : List Bk) (i : Nat) (h : i < (fitU raw).flows.length) : placV (fitU raw).flows ((fitU raw).flows[i]'h).name = (i : Int) := by
  have h3 : i < 3 := h
  rcases (by omega : i = 0 ∨ i = 1 ∨ i = 2) with rfl | rfl | rfl <;> rfl
theorem fit_noa (raw : List Bk) : placV (fitU raw).flows [97] = -1 := rfl
theorem fit_noh (raw : List Bk) : placV (fitU raw).flows [104] = -1 := rfl
structure PL (wr : World) (u : Un) (g : Nat) (pa : Option Addr) (ca : Nat) (pf : Option Addr) (cf : Nat) : Prop where
  of ::
  box : wr.heap[g]? = some (.cells #[.slice pa u.arrays.length ca, .slice pf u.flows.length cf] 27 (0, 0))
  un : UnAt (fun _ => True) wr (.agg #[.slice pa u.arrays.length ca, .slice pf u.flows.length cf]) u
theorem PL.lt {wr : World} {u : Un} {g ca cf : Nat} {pa pf : Option Addr} (h : PL wr u g pa ca pf cf) : g < wr.heap.size := (Array.getElem?_eq_some_iff.1 h.box).1
theorem PL.ext {wr w' : World} {u : Un} {g ca cf : Nat} {pa pf : Option Addr} (h : PL wr u g pa ca pf cf) (b : Below wr.heap.size wr w') : PL w' u g pa ca pf cf :=
  ⟨(b.block _ h.lt).trans h.box, h.un.ext b⟩
set_option maxRecDepth 100000 in
set_option maxHeartbeats 16000000 in
theorem irplaces_any (raw : List Bk) (hr : ∀ b ∈ raw, AllK b) (rv : Value) (w : World) (hrv : BksAt (fun b => b < w.heap.size) w rv raw) (hv : Env w) :
    Calls Tryd.prog 6 #[rv] w fun e w' => e = .returned (.bool true) ∧ Below w.heap.size w w' := by
  have HA := Lib.hid (awake_any w hv)
  have HF := Lib.hid (fun (w' : World) (g : Below w.heap.size w w') => lfit_any raw hr rv w' (bks_wide (fun b (hb : b < w.heap.size) => (by have := g.size; omega : b < w'.heap.size)) (bks_kept hrv (kept_below g))))
  have HP1 := Lib.hid (fit_places raw)
  have HP2 := Lib.hid (fit_noa raw)
  have HP3 := Lib.hid (fit_noh raw)
  unfold FitAns at HF
  obtain ⟨pr, cr, hrs⟩ := row_slice hrv
  subst hrs
  clear hrv hv hr
  generalize fitU raw = u at *
  generalize raw.length = nr at *
  go_enter Tryd.func6, Tryd.ntmps6
  go_wp2_with fail
  refine (HA.out).mono ?_; rintro e w1 ⟨rfl, g1⟩
  have G1 := Lib.hid g1; clear g1
  go_wp2_with fail
  refine (HF.out _ G1.out).mono ?_; rintro e w2 ⟨⟨v, rfl, va, vf, rfl, ha, hf⟩, g2⟩
  have G2 : Hid (Below w.heap.size w w2) := Lib.hid (ext_trans G1.out g2)
  clear g2
  obtain ⟨pa, ca, hva⟩ := row_slice ha
  subst hva
  obtain ⟨pf, cf, hvf⟩ := row_slice hf
  subst hvf
  have HUN : Hid (UnAt (fun _ => True) w2 (.agg #[.slice pa u.arrays.length ca, .slice pf u.flows.length cf]) u) := Lib.hid ⟨_, _, rfl, ars_wideU (fun _ _ => trivial) ha, fls_wide (fun _ _ => trivial) hf⟩
  have hfc : FlsAt (fun _ => True) w2 (.slice pf u.flows.length cf) u.flows := fls_wide (fun _ _ => trivial) hf
  obtain ⟨_, _, _, hq, hfc⟩ := hfc
  injection hq with hq1 hq2 hq3
  subst hq1 hq3
  have HFC := Lib.hid hfc
  clear hfc ha hf hq2
  have HP0 : Hid (PL (w2.alloc (.cells #[.slice pa u.arrays.length ca, .slice pf u.flows.length cf] 27)) u w2.heap.size pa ca pf cf) := Lib.hid ⟨heap_new _ _, HUN.out.ext (ext_alloc (Below.refl _ _) _)⟩
  go_upto_region 3 with (fail)
  go_wp2_with fail
  go_loopw [5] (fun iv wr => ∃ i : Nat, iv = .int .i64 i ∧ i ≤ u.flows.length ∧ PL wr u w2.heap.size pa ca pf cf ∧ Below w2.heap.size w2 wr) (fun iv wr => u.flows.length - slotN iv)
  case atStart => exact ⟨0, rfl, Nat.zero_le _, HP0.out, ext_alloc (Below.refl _ _) _⟩
  case round =>
    obtain ⟨i, rfl, hi, hP, hbw⟩ := hrel
    have HP := Lib.hid hP
    have HBW := Lib.hid hbw
    obtain ⟨c0, c1⟩ := two_cells hP.box
    have hg := hP.lt
    clear hP hbw
    by_cases hil : i < u.flows.length
    · obtain ⟨ax, rfl, _, kx⟩ := HFC.out i hil
      have HKX := Lib.hid kx
      clear kx
      obtain ⟨vb, q0, _, _, q3, hvb⟩ := fl_get (fl_kept (w' := wr) HKX.out trivial (kept_below HBW.out))
      obtain ⟨pb, cb, hvb2⟩ := row_slice hvb
      subst hvb2
      have hax : (ax.add (i * 4)).block < wr.heap.size := cell_lt q0
      have HPL := Lib.hid (fun (w' : World) (g : Below wr.heap.size wr w') => plac_any _ u (u.flows[i]'hil).name w' (HP.out.un.ext g))
      have HVB := Lib.hid hvb
      clear hvb
      have hp1 := HP1.out i hil
      obtain ⟨wo, rfl⟩ : ∃ wo, wo = wr := ⟨_, rfl⟩
      have e0 : wo.drew.cell? _ = _ := c0
      have e1 : wo.drew.cell? _ = _ := c1
      have e2 : wo.drew.cell? _ = _ := q0
      rw [hp1] at HPL
      clear hp1
      have hi3 : (i : Int) < u.flows.length := by omega
      go_wp2_with fail
      go_region_law ((go_simp; go_at_call 18; refine (HPL.out _ (ext_drew (Below.refl _ _))).mono ?_; rintro e w5 ⟨rfl, g5⟩; have HB5 : Hid (Below wo.heap.size wo w5) := Lib.hid (ext_trans (ext_drew (Below.refl _ _)) g5); clear g5))
      all_goals
        have HP6 := Lib.hid (HP.out.ext HB5.out)
        have HW6 : Hid (Below w2.heap.size w2 w5) := Lib.hid (ext_trans HBW.out HB5.out)
        clear e0 e1 e2 c0 c1 q0 q3 HPL HB5
        obtain ⟨c0, c1⟩ := two_cells HP6.out.box
        obtain ⟨nb, hnb⟩ : ∃ m : Nat, (u.flows[i]'hil).blocks.length = m := ⟨_, rfl⟩
        have HNB := Lib.hid hnb
        clear hnb
        have HVQ : Hid (FlAt (fun _ => True) wo (ax.add (i * 4)) (u.flows[i]'hil)) := Lib.hid (fl_kept HKX.out trivial (kept_below HBW.out))
        have HQ : Hid (∀ w', Below w2.heap.size w2 w' → ∃ pb cb, w'.cell? ⟨(ax.add (i * 4)).block, (ax.add (i * 4)).off + 3, none⟩ = some (.slice pb nb cb) ∧ BksAt (fun _ => True) w' (.slice pb nb cb) (u.flows[i]'hil).blocks) := Lib.hid (fun w' g => by
          obtain ⟨v, _, _, _, q, hv⟩ := fl_get (fl_kept (w' := w') HKX.out trivial (kept_below g))
          obtain ⟨pb, cb, e⟩ := row_slice hv
          subst e
          rw [HNB.out] at q hv
          exact ⟨pb, cb, q, hv⟩)
        obtain ⟨pb, cb, q3, hvb⟩ := HQ.out _ HW6.out
        clear hvb
        go_upto_region 8 with (fail)
        go_wp2_with fail
        go_loopw [6] (fun iv wr => ∃ k : Nat, iv = .int .i64 k ∧ k ≤ nb ∧ PL wr u w2.heap.size pa ca (some ax) cf ∧ Below w2.heap.size w2 wr) (fun iv wr => nb - slotN iv)
        case atStart => exact ⟨0, rfl, Nat.zero_le _, HP6.out, HW6.out⟩
        case round =>
          obtain ⟨k, rfl, hk, hP, hbw⟩ := hrel
          have HPk := Lib.hid hP
          have HBk := Lib.hid hbw
          clear c0 c1 q3
          obtain ⟨c0, c1⟩ := two_cells hP.box
          have hgk := hP.lt
          clear hP hbw
          obtain ⟨pb, cb, q3, hvb⟩ := HQ.out _ HBk.out
          by_cases hkl : k < nb
          · have hkb : k < (u.flows[i]'hil).blocks.length := by rw [HNB.out]; exact hkl
            obtain ⟨_, _, _, hq, hbc⟩ := hvb
            injection hq with hq1 hq2 hq3
            subst hq1 hq3
            obtain ⟨ay, hay, _, ky⟩ := hbc k hkb
            subst hay
            obtain ⟨vi, p0, p1, p2, p3, p4, _⟩ := bk_get ky
            generalize ((u.flows[i]'hil).blocks[k]'hkb).term = t at *
            obtain ⟨tk, ta, tt, te⟩ := t
            clear ky hbc hq2
            simp only at p1 p2 p3 p4
            have HNX := Lib.hid (fun (w' : World) => next_any ⟨tk, ta, tt, te⟩ w')
            unfold NumRes tmV at HNX
            simp only at HNX
            have HPn := Lib.hid (fun (w' : World) (g : Below wr.heap.size wr w') => HPk.out.ext g)
            rcases (by omega : tk = 1 ∨ (tk = 2 ∧ tt = te) ∨ (tk = 2 ∧ tt ≠ te) ∨ (tk ≠ 1 ∧ tk ≠ 2)) with h1 | ⟨h1, h2⟩ | ⟨h1, h2⟩ | ⟨h1, h2⟩
            · subst h1
              rw [show nextL ⟨1, ta, tt, te⟩ = [tt] from rfl] at HNX
              go_wp2_with fail
              refine (HNX.out _).mono ?_; rintro e w6 ⟨⟨v, rfl, hn⟩, g6⟩
              have G6 : Hid (Below wr.heap.size wr w6) := Lib.hid (ext_trans (ext_alloc (Below.refl _ _) _) g6)
              obtain ⟨y0, y1, y2, y3⟩ := four_at' ((g6.block wr.heap.size (by simp)).trans (heap_new _ _))
              obtain ⟨_, pl, cl, hv, hl⟩ := hn
              have hv : v = .slice pl 1 cl := hv
              subst hv
              obtain ⟨al, rfl, _, l0⟩ := hl 0 (Nat.zero_lt_succ _)
              have l1 : w6.cell? (al.add 0) = some (.int .i64 tt) := l0
              have l2 : w6.cell? al = some (.int .i64 tt) := l0
              clear hl g6 c0 c1 q3 p0 p1 p2 p3 p4
              go_upto_region 18 with (fail)
              go_quiet (fail)
              go_wp2_with fail
              go_roundw
              case rel => exact ⟨k + 1, by go_num, by omega, HPn.out _ (ext_drewN G6.out _), ext_trans HBk.out (ext_drewN G6.out _)⟩
              case measure => simp [slotN]; omega
            · subst h1 h2
              rw [show nextL ⟨2, ta, tt, tt⟩ = [tt] from by unfold nextL; simp] at HNX
              go_wp2_with fail
              refine (HNX.out _).mono ?_; rintro e w6 ⟨⟨v, rfl, hn⟩, g6⟩
              have G6 : Hid (Below wr.heap.size wr w6) := Lib.hid (ext_trans (ext_alloc (Below.refl _ _) _) g6)
              obtain ⟨y0, y1, y2, y3⟩ := four_at' ((g6.block wr.heap.size (by simp)).trans (heap_new _ _))
              obtain ⟨_, pl, cl, hv, hl⟩ := hn
              have hv : v = .slice pl 1 cl := hv
              subst hv
              obtain ⟨al, rfl, _, l0⟩ := hl 0 (Nat.zero_lt_succ _)
              have l1 : w6.cell? (al.add 0) = some (.int .i64 tt) := l0
              have l2 : w6.cell? al = some (.int .i64 tt) := l0
              clear hl g6 c0 c1 q3 p0 p1 p2 p3 p4
              go_upto_region 18 with (fail)
              go_quiet (fail)
              go_wp2_with fail
              go_roundw
              case rel => exact ⟨k + 1, by go_num, by omega, HPn.out _ (ext_drewN G6.out _), ext_trans HBk.out (ext_drewN G6.out _)⟩
              case measure => simp [slotN]; omega
            · subst h1
              have h3 : ¬ tt = te := h2
              rw [show nextL ⟨2, ta, tt, te⟩ = [tt, te] from by unfold nextL; simp [h2]] at HNX
              go_wp2_with fail
              refine (HNX.out _).mono ?_; rintro e w6 ⟨⟨v, rfl, hn⟩, g6⟩
              have G6 : Hid (Below wr.heap.size wr w6) := Lib.hid (ext_trans (ext_alloc (Below.refl _ _) _) g6)
              obtain ⟨y0, y1, y2, y3⟩ := four_at' ((g6.block wr.heap.size (by simp)).trans (heap_new _ _))
              obtain ⟨_, pl, cl, hv, hl⟩ := hn
              have hv : v = .slice pl 2 cl := hv
              subst hv
              obtain ⟨al, rfl, _, l0⟩ := hl 0 (Nat.zero_lt_succ _)
              obtain ⟨_, ea, _, m0⟩ := hl 1 (by simp)
              cases ea
              have l1 : w6.cell? (al.add 0) = some (.int .i64 tt) := l0
              have l2 : w6.cell? al = some (.int .i64 tt) := l0
              have m1 : w6.cell? (al.add 1) = some (.int .i64 te) := m0
              have m2 : w6.cell? ⟨al.block, al.off + 1, none⟩ = some (.int .i64 te) := m0
              clear hl g6 c0 c1 q3 p0 p1 p2 p3 p4
              go_upto_region 18 with (fail)
              go_quiet (fail)
              go_wp2_with fail
              go_roundw
              case rel => exact ⟨k + 1, by go_num, by omega, HPn.out _ (ext_drewN G6.out _), ext_trans HBk.out (ext_drewN G6.out _)⟩
              case measure => simp [slotN]; omega
            · have h3 : ¬ tk = 1 := h1
              have h4 : ¬ tk = 2 := h2
              rw [show nextL ⟨tk, ta, tt, te⟩ = [] from by unfold nextL; simp [h1, h2]] at HNX
              go_wp2_with fail
              refine (HNX.out _).mono ?_; rintro e w6 ⟨⟨v, rfl, hn⟩, g6⟩
              have G6 : Hid (Below wr.heap.size wr w6) := Lib.hid (ext_trans (ext_alloc (Below.refl _ _) _) g6)
              obtain ⟨y0, y1, y2, y3⟩ := four_at' ((g6.block wr.heap.size (by simp)).trans (heap_new _ _))
              obtain ⟨_, pl, cl, hv, hl⟩ := hn
              have hv : v = .slice pl 0 cl := hv
              subst hv
              clear hl g6 c0 c1 q3 p0 p1 p2 p3 p4
              go_upto_region 18 with (fail)
              go_quiet (fail)
              go_wp2_with fail
              go_roundw
              case rel => exact ⟨k + 1, by go_num, by omega, HPn.out _ (ext_drewN G6.out _), ext_trans HBk.out (ext_drewN G6.out _)⟩
              case measure => simp [slotN]; omega
          · obtain rfl : k = nb := by omega
            clear hvb
            go_wp2_with fail
            go_roundw
            case rel => exact ⟨i + 1, by go_num, by omega, HPk.out, HBk.out⟩
            case measure => simp [slotN]; omega
    · obtain rfl : i = u.flows.length := by omega
      have HPA := Lib.hid (fun (w' : World) (g : Below wr.heap.size wr w') => plac_any _ u [97] w' (HP.out.un.ext g))
      have HPH := Lib.hid (fun (w' : World) (g : Below wr.heap.size wr w') => plac_any _ u [104] w' (HP.out.un.ext g))
      rw [HP2.out] at HPA
      rw [HP3.out] at HPH
      unfold mk at HPA HPH
      go_wp2_with fail
      refine (HPA.out _ (Below.refl _ _)).mono ?_; rintro e w5 ⟨rfl, g5⟩
      have G5 := Lib.hid g5; clear g5 c0 c1
      obtain ⟨c0, c1⟩ := two_cells (HP.out.ext G5.out).box
      go_wp2_with fail
      refine (HPH.out _ G5.out).mono ?_; rintro e w6 ⟨rfl, g6⟩
      have G6 := Lib.hid (ext_trans G5.out g6)
      clear g6
      go_wp2_with fail
      go_ret
      exact ⟨rfl, ext_trans G2.out (ext_trans HBW.out G6.out)⟩
end Go.Proofs.YtafapkljlajflaaDoor
