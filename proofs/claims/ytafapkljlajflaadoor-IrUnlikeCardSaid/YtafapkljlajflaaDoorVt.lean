/- IrUnlike, walked. -/
import Derived.Test.YtafapkljlajflaaDoorRows
import Derived.WalkKit
import Derived.ProofKit
import Derived.OpenShut
import Derived.WalkLawsBesides
import Derived.WalkSpells
import Derived.Outline
import Derived.Handy
import Derived.Lib.Hide
import Derived.Lib.OthersKept
import Derived.KernelRfl
import Derived.Carry
import Derived.RegionTactic
import Derived.BigRegion
import Derived.OwnWalk
import Derived.Deep.Cut
import Derived.IntWalk
import Derived.Deep.QuietTactic
import Derived.BigQuiet
import Derived.Deep.RegionHeld3
import Derived.Test.YtafapkljlajflaaDoorVl
import Derived.Test.YtafapkljlajflaaDoorVq
import Derived.Test.YtafapkljlajflaaDoorVs
namespace Go.Proofs.YtafapkljlajflaaDoor
open Go.ChangeShapes Go.WideShapes Go.ChangeAt Go.RowKit
set_option linter.unusedVariables false
theorem near_fit (r s : List Bk) : Near (fitU r) (fitU s) := by
  refine ⟨rfl, rfl, fun i h h' => ?_⟩
  have h3 : i < 3 := h
  rcases (by omega : i = 0 ∨ i = 1 ∨ i = 2) with rfl | rfl | rfl <;> exact ⟨rfl, rfl, rfl⟩
set_option maxRecDepth 100000 in
set_option maxHeartbeats 16000000 in
theorem irunlike_any (r : List Bk) (hr : ∀ b ∈ r, AllK b) (rv : Value) (s : List Bk) (hs : ∀ b ∈ s, AllK b) (sv : Value) (w : World) (hrv : BksAt (fun b => b < w.heap.size) w rv r) (hsv : BksAt (fun b => b < w.heap.size) w sv s) (hv : Env w) :
    Calls Tryd.prog 3 #[rv, sv] w fun e w' => e = .returned (.bool true) ∧ Below w.heap.size w w' := by
  have HA := Lib.hid (awake_any w hv)
  have HF1 := Lib.hid (fun (w' : World) (g : Below w.heap.size w w') => lfit_any r hr rv w' (bks_wide (fun b (hb : b < w.heap.size) => (by have := g.size; omega : b < w'.heap.size)) (bks_kept hrv (kept_below g))))
  have HF2 := Lib.hid (fun (w' : World) (g : Below w.heap.size w w') => lfit_any s hs sv w' (bks_wide (fun b (hb : b < w.heap.size) => (by have := g.size; omega : b < w'.heap.size)) (bks_kept hsv (kept_below g))))
  have HV := Lib.hid hv
  have HPF1 := Lib.hid (pr_fit r hr)
  have HUF1 := Lib.hid (un_fit r)
  have HOK1 := Lib.hid (fit_ok r)
  have HPF2 := Lib.hid (pr_fit s hs)
  have HUF2 := Lib.hid (un_fit s)
  have HOK2 := Lib.hid (fit_ok s)
  have HINJ := Lib.hid (unit_inj r s hr hs)
  have HNE := Lib.hid (near_fit r s)
  unfold FitAns at HF1 HF2
  obtain ⟨pr, cr, hrs⟩ := row_slice hrv
  subst hrs
  obtain ⟨ps, cs, hss⟩ := row_slice hsv
  subst hss
  clear hrv hsv hv hr hs
  generalize fitU r = u at *
  generalize fitU s = v at *
  generalize r.length = nr at *
  generalize s.length = ns at *
  go_enter Tryd.func3, Tryd.ntmps3
  go_wp2_with fail
  refine (HA.out).mono ?_; rintro e w1 ⟨rfl, g1⟩
  have G1 := Lib.hid g1; clear g1
  go_wp2_with fail
  refine (HF1.out _ G1.out).mono ?_; rintro e w2 ⟨⟨va, rfl, hua⟩, g2⟩
  have G2 : Hid (Below w.heap.size w w2) := Lib.hid (ext_trans G1.out g2)
  have HUA := Lib.hid hua
  obtain ⟨a0, a1, ha, har, haf⟩ := hua
  subst ha
  obtain ⟨pa, ca, e⟩ := row_slice har
  subst e
  obtain ⟨pf, cf, e⟩ := row_slice haf
  subst e
  clear g2 har haf
  have HBA0 := Lib.hid (heap_new w2 (.cells #[.slice pa u.arrays.length ca, .slice pf u.flows.length cf] 27))
  have GA0 : Hid (Below w.heap.size w (w2.alloc (.cells #[.slice pa u.arrays.length ca, .slice pf u.flows.length cf] 27))) := Lib.hid (ext_trans G2.out (ext_alloc (Below.refl _ _) _))
  have HUA0 := Lib.hid (HUA.out.ext (ext_alloc (Below.refl _ _) (.cells #[.slice pa u.arrays.length ca, .slice pf u.flows.length cf] 27)))
  go_wp2_with fail
  refine (HF2.out _ GA0.out).mono ?_; rintro e w3 ⟨⟨vb, rfl, hub⟩, g3⟩
  have G3 : Hid (Below w.heap.size w w3) := Lib.hid (ext_trans GA0.out g3)
  have HBA3 := Lib.hid ((g3.block _ (Array.getElem?_eq_some_iff.1 HBA0.out).1).trans HBA0.out)
  have HUA3 := Lib.hid (HUA0.out.ext g3)
  have HUB := Lib.hid hub
  obtain ⟨b0, b1, hb, hbr, hbf⟩ := hub
  subst hb
  obtain ⟨pb, cb, e⟩ := row_slice hbr
  subst e
  obtain ⟨pg, cg, e⟩ := row_slice hbf
  subst e
  clear g3 hbr hbf
  obtain ⟨wb, hwb⟩ : ∃ wb, w3.alloc (.cells #[.slice pb v.arrays.length cb, .slice pg v.flows.length cg] 27) = wb := ⟨_, rfl⟩
  have HBB : Hid (wb.heap[w3.heap.size]? = some (.cells #[.slice pb v.arrays.length cb, .slice pg v.flows.length cg] 27 (0, 0))) := Lib.hid (by rw [← hwb]; exact heap_new _ _)
  have gwb : Below w3.heap.size w3 wb := by rw [← hwb]; exact ext_alloc (Below.refl _ _) _
  have GB : Hid (Below w.heap.size w wb) := Lib.hid (ext_trans G3.out gwb)
  have HBA : Hid (wb.heap[w2.heap.size]? = some (.cells #[.slice pa u.arrays.length ca, .slice pf u.flows.length cf] 27 (0, 0))) := Lib.hid ((gwb.block _ (Array.getElem?_eq_some_iff.1 HBA3.out).1).trans HBA3.out)
  have HUAb := Lib.hid (HUA3.out.ext gwb)
  have HUBb := Lib.hid (HUB.out.ext gwb)
  obtain ⟨c0, c1⟩ := two_cells HBA.out
  obtain ⟨d0, d1⟩ := two_cells HBB.out
  have hza : w2.heap.size < wb.heap.size := (Array.getElem?_eq_some_iff.1 HBA.out).1
  have hzb : w3.heap.size < wb.heap.size := (Array.getElem?_eq_some_iff.1 HBB.out).1
  clear gwb
  have HP1 := Lib.hid (print_all _ u _ (un_lt HUAb.out) HUF1.out HOK1.out HPF1.out (HV.out.ext GB.out))
  obtain ⟨T, hT⟩ : ∃ T, unT u = T := ⟨_, rfl⟩
  obtain ⟨S, hS⟩ : ∃ S, unT v = S := ⟨_, rfl⟩
  have HINT : Hid (T = S → u = v) := Lib.hid (fun h => HINJ.out (by rw [hT, hS]; exact h))
  have HSAME : Hid (u = v → T = S) := Lib.hid (fun h => by rw [← hT, ← hS, h])
  rw [hT] at HP1
  go_upto_region 5 with (fail)
  try rw [hwb]
  clear hwb
  go_wp2_with fail
  refine HP1.out.mono ?_; rintro e w4 ⟨rfl, g4⟩
  have G4 : Hid (Below w.heap.size w w4) := Lib.hid (ext_trans GB.out g4)
  have HUA4 := Lib.hid (HUAb.out.ext g4)
  have HUB4 := Lib.hid (HUBb.out.ext g4)
  have HBA4 := Lib.hid ((g4.block _ hza).trans HBA.out)
  have HBB4 := Lib.hid ((g4.block _ hzb).trans HBB.out)
  clear g4 c0 c1 d0 d1
  obtain ⟨c0, c1⟩ := two_cells HBA4.out
  obtain ⟨d0, d1⟩ := two_cells HBB4.out
  have hza4 : w2.heap.size < w4.heap.size := (Array.getElem?_eq_some_iff.1 HBA4.out).1
  have hzb4 : w3.heap.size < w4.heap.size := (Array.getElem?_eq_some_iff.1 HBB4.out).1
  have HP2 := Lib.hid (print_all _ v _ (un_lt HUB4.out) HUF2.out HOK2.out HPF2.out (HV.out.ext G4.out))
  rw [hS] at HP2
  clear hT hS
  go_wp2_with fail
  refine HP2.out.mono ?_; rintro e w5 ⟨rfl, g5⟩
  have G5 : Hid (Below w.heap.size w w5) := Lib.hid (ext_trans G4.out g5)
  have HBA5 := Lib.hid ((g5.block _ hza4).trans HBA4.out)
  have HBB5 := Lib.hid ((g5.block _ hzb4).trans HBB4.out)
  have HSM : Hid (∀ w', Below w5.heap.size w5 w' → Calls Tryd.prog 11 #[.agg #[.slice pa u.arrays.length ca, .slice pf u.flows.length cf], .agg #[.slice pb v.arrays.length cb, .slice pg v.flows.length cg]] w' fun e w'' => e = .returned (.bool (decide (u = v))) ∧ Below w'.heap.size w' w'') := Lib.hid (fun w' g => same_any u v _ _ w' (un_lt ((HUA4.out.ext g5).ext g)) (un_lt ((HUB4.out.ext g5).ext g)) HNE.out)
  clear g5 c0 c1 d0 d1
  obtain ⟨c0, c1⟩ := two_cells HBA5.out
  obtain ⟨d0, d1⟩ := two_cells HBB5.out
  have hza5 : w2.heap.size < w5.heap.size := (Array.getElem?_eq_some_iff.1 HBA5.out).1
  have hzb5 : w3.heap.size < w5.heap.size := (Array.getElem?_eq_some_iff.1 HBB5.out).1
  by_cases h : T = S
  · have hd : decide (u = v) = true := decide_eq_true (HINT.out h)
    rw [hd] at HSM
    subst h
    clear hd
    go_wp2_with fail
    refine (HSM.out _ (Below.refl _ _)).mono ?_; rintro e w6 ⟨rfl, g6⟩
    have G6 := Lib.hid (ext_trans G5.out g6)
    clear g6
    go_wp2_with fail
    go_ret
    exact ⟨rfl, G6.out⟩
  · have hd : decide (u = v) = false := decide_eq_false (fun e => h (HSAME.out e))
    rw [hd] at HSM
    clear hd
    have HNQ : Hid (((mk T).toList == (mk S).toList) = false) := Lib.hid (beq_eq_false_iff_ne.2 (by rw [mk_tl, mk_tl]; exact h))
    go_wp2_with fail
    refine (HSM.out _ (Below.refl _ _)).mono ?_; rintro e w6 ⟨rfl, g6⟩
    have G6 := Lib.hid (ext_trans G5.out g6)
    clear g6
    go_wp2_with fail
    go_ret
    exact ⟨by show Ending.returned (Value.bool (!((mk T).toList == (mk S).toList))) = _; rw [HNQ.out]; rfl, G6.out⟩
end Go.Proofs.YtafapkljlajflaaDoor
