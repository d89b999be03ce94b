/- The walk of MachBranch. -/
import Derived.Test.YtjimeengkfjihaaGreatDoorRows
import Derived.WalkKit
import Derived.ProofKit
import Derived.OpenShut
import Derived.WalkLawsBesides
import Derived.WalkSpells
import Derived.Outline
import Derived.Handy
import Derived.Lib.Hide
import Derived.Lib.OthersKept
import Derived.KernelRfl
import Derived.Carry
import Derived.IntWalk
import Derived.Test.YtjimeengkfjihaaGreatDoorMbD
import Derived.Test.YtjimeengkfjihaaGreatDoorMbP
namespace Go.Proofs.YtjimeengkfjihaaGreatDoor
open Go.ChangeShapes Go.WideShapes Go.ChangeAt Go.RowKit
set_option linter.unusedVariables false
set_option maxHeartbeats 4000000 in
set_option maxRecDepth 100000 in
theorem branch0t (a b wh : Int) (w : World) (ha : I64 a) (hb : I64 b) (hwh : I64 wh) (hv : Env w) (hk : pickN wh 4 = 0) (hg : (a == b) = true) : Calls Tryz.prog 9 #[.int .i64 a, .int .i64 b, .int .i64 wh] w fun e w' => e = .returned (.bool true) ∧ Below w.heap.size w w' := by
  have HAW := Lib.hid (awake9_any w hv)
  have P1 : Hid (∀ w, Calls Tryz.prog 13 #[.int .i64 wh, .int .i64 4] w fun e w' => e = .returned (.int .i64 0) ∧ w = w') :=
    Lib.hid (fun w => (pick9_any wh 4 w hwh (by decide)).mono fun e w' h => ⟨by rw [← hk]; exact h.1, h.2⟩)
  have HRN : Hid (∀ (v : Value) w', CdAt w' v (brC 21 a b) → Calls Tryz.prog 14 #[v, .slice none 0 0, .int .i64 9] w' fun e w'' => (∃ po co, e = .returned (.agg #[.int .i64 1, .int .i64 1, .slice po 0 co, .int .i64 6]) ∧ RnAt w'' (.agg #[.int .i64 1, .int .i64 1, .slice po 0 co, .int .i64 6]) ⟨1, 1, [], 6⟩) ∧ Below w'.heap.size w' w'') :=
    Lib.hid (fun v w' h => run_nil v _ w' h (br_fit _ _ _) (by show 0 ≤ 1000; decide) (br_n64 _ ha hb) 9 (by decide) ⟨1, 1, [], 6⟩ ((br_run21 a b true hg).trans (by simp)))
  clear hv hwh hk
  go_enter Tryz.func9, Tryz.ntmps9
  go_wp2_with fail
  refine HAW.out.mono ?_; rintro e w1 ⟨rfl, g1⟩
  have GA := Lib.hid g1
  clear g1
  go_wp2_with (first | (go_at_call 13; refine (P1.out _).mono ?_; rintro e wk ⟨rfl, rfl⟩) | (go_at_call 17; refine (line_any _ _ _ _ _ _ _).mono ?_; rintro e wk ⟨rfl, gk⟩; have GN : Hid (Below w.heap.size w wk) := Lib.hid (ext_trans GA.out gk); clear GA gk; have GA := GN; clear GN))
  have HX : Hid (∀ o1 o2, (((wk.alloc (.cells ((brC 21 a b).lines.flatMap cellsL).toArray 41)).alloc o1).alloc o2).heap[wk.heap.size]? = some (.cells ((brC 21 a b).lines.flatMap cellsL).toArray 41 (0, 0))) := Lib.hid (fun o1 o2 => (Lib.alloc_old _ _ _ (by simp; omega)).trans ((Lib.alloc_old _ _ _ (by simp)).trans (heap_new wk _)))
  refine (HRN.out _ _ (cd_of (c := brC 21 a b) (ars_none _) (lns_block (L := (brC 21 a b).lines) (HX.out _ _) (by show 8 ≤ 1000; decide)) (by show 0 ≤ 1000; decide) (by show 8 ≤ 1000; decide))).mono ?_; rintro e wr ⟨⟨po, co, rfl, hr⟩, gr⟩
  have HS := Lib.hid (rsame_any _ _ _ _ _ (hr.ext (ext_alloc (Below.refl wr.heap.size wr) (.cells #[.int .i64 1, .int .i64 1, .slice po 0 co, .int .i64 6] 31))) (rn_lit _ 1 1 6) (by decide) (by decide))
  rw [decide_eq_true (rfl : (⟨1, 1, [], 6⟩ : Rn) = ⟨1, 1, [], 6⟩)] at HS
  have GR := Lib.hid (ext_trans (ext_alloc (ext_alloc (ext_alloc GA.out _) _) _) gr)
  clear hr gr HX HRN GA
  go_wp2_with fail
  refine HS.out.mono ?_; rintro e w9 ⟨rfl, g9⟩
  have GZ := Lib.hid (ext_trans (ext_alloc GR.out _) g9)
  clear g9 HS
  go_wp2_with fail
  go_ret
  exact ⟨rfl, GZ.out⟩
set_option maxHeartbeats 4000000 in
set_option maxRecDepth 100000 in
theorem branch0f (a b wh : Int) (w : World) (ha : I64 a) (hb : I64 b) (hwh : I64 wh) (hv : Env w) (hk : pickN wh 4 = 0) (hg : (a == b) = false) : Calls Tryz.prog 9 #[.int .i64 a, .int .i64 b, .int .i64 wh] w fun e w' => e = .returned (.bool true) ∧ Below w.heap.size w w' := by
  have HAW := Lib.hid (awake9_any w hv)
  have P1 : Hid (∀ w, Calls Tryz.prog 13 #[.int .i64 wh, .int .i64 4] w fun e w' => e = .returned (.int .i64 0) ∧ w = w') :=
    Lib.hid (fun w => (pick9_any wh 4 w hwh (by decide)).mono fun e w' h => ⟨by rw [← hk]; exact h.1, h.2⟩)
  have HRN : Hid (∀ (v : Value) w', CdAt w' v (brC 21 a b) → Calls Tryz.prog 14 #[v, .slice none 0 0, .int .i64 9] w' fun e w'' => (∃ po co, e = .returned (.agg #[.int .i64 1, .int .i64 0, .slice po 0 co, .int .i64 5]) ∧ RnAt w'' (.agg #[.int .i64 1, .int .i64 0, .slice po 0 co, .int .i64 5]) ⟨1, 0, [], 5⟩) ∧ Below w'.heap.size w' w'') :=
    Lib.hid (fun v w' h => run_nil v _ w' h (br_fit _ _ _) (by show 0 ≤ 1000; decide) (br_n64 _ ha hb) 9 (by decide) ⟨1, 0, [], 5⟩ ((br_run21 a b false hg).trans (by simp)))
  clear hv hwh hk
  go_enter Tryz.func9, Tryz.ntmps9
  go_wp2_with fail
  refine HAW.out.mono ?_; rintro e w1 ⟨rfl, g1⟩
  have GA := Lib.hid g1
  clear g1
  go_wp2_with (first | (go_at_call 13; refine (P1.out _).mono ?_; rintro e wk ⟨rfl, rfl⟩) | (go_at_call 17; refine (line_any _ _ _ _ _ _ _).mono ?_; rintro e wk ⟨rfl, gk⟩; have GN : Hid (Below w.heap.size w wk) := Lib.hid (ext_trans GA.out gk); clear GA gk; have GA := GN; clear GN))
  have HX : Hid (∀ o1 o2, (((wk.alloc (.cells ((brC 21 a b).lines.flatMap cellsL).toArray 41)).alloc o1).alloc o2).heap[wk.heap.size]? = some (.cells ((brC 21 a b).lines.flatMap cellsL).toArray 41 (0, 0))) := Lib.hid (fun o1 o2 => (Lib.alloc_old _ _ _ (by simp; omega)).trans ((Lib.alloc_old _ _ _ (by simp)).trans (heap_new wk _)))
  refine (HRN.out _ _ (cd_of (c := brC 21 a b) (ars_none _) (lns_block (L := (brC 21 a b).lines) (HX.out _ _) (by show 8 ≤ 1000; decide)) (by show 0 ≤ 1000; decide) (by show 8 ≤ 1000; decide))).mono ?_; rintro e wr ⟨⟨po, co, rfl, hr⟩, gr⟩
  have HS := Lib.hid (rsame_any _ _ _ _ _ (hr.ext (ext_alloc (Below.refl wr.heap.size wr) (.cells #[.int .i64 1, .int .i64 0, .slice po 0 co, .int .i64 5] 31))) (rn_lit _ 1 0 5) (by decide) (by decide))
  rw [decide_eq_true (rfl : (⟨1, 0, [], 5⟩ : Rn) = ⟨1, 0, [], 5⟩)] at HS
  have GR := Lib.hid (ext_trans (ext_alloc (ext_alloc (ext_alloc GA.out _) _) _) gr)
  clear hr gr HX HRN GA
  go_wp2_with fail
  refine HS.out.mono ?_; rintro e w9 ⟨rfl, g9⟩
  have GZ := Lib.hid (ext_trans (ext_alloc GR.out _) g9)
  clear g9 HS
  go_wp2_with fail
  go_ret
  exact ⟨rfl, GZ.out⟩
set_option maxHeartbeats 4000000 in
set_option maxRecDepth 100000 in
theorem branch1t (a b wh : Int) (w : World) (ha : I64 a) (hb : I64 b) (hwh : I64 wh) (hv : Env w) (hk : pickN wh 4 = 1) (hg : (a != b) = true) : Calls Tryz.prog 9 #[.int .i64 a, .int .i64 b, .int .i64 wh] w fun e w' => e = .returned (.bool true) ∧ Below w.heap.size w w' := by
  have HAW := Lib.hid (awake9_any w hv)
  have P1 : Hid (∀ w, Calls Tryz.prog 13 #[.int .i64 wh, .int .i64 4] w fun e w' => e = .returned (.int .i64 1) ∧ w = w') :=
    Lib.hid (fun w => (pick9_any wh 4 w hwh (by decide)).mono fun e w' h => ⟨by rw [← hk]; exact h.1, h.2⟩)
  have HRN : Hid (∀ (v : Value) w', CdAt w' v (brC 22 a b) → Calls Tryz.prog 14 #[v, .slice none 0 0, .int .i64 9] w' fun e w'' => (∃ po co, e = .returned (.agg #[.int .i64 1, .int .i64 1, .slice po 0 co, .int .i64 6]) ∧ RnAt w'' (.agg #[.int .i64 1, .int .i64 1, .slice po 0 co, .int .i64 6]) ⟨1, 1, [], 6⟩) ∧ Below w'.heap.size w' w'') :=
    Lib.hid (fun v w' h => run_nil v _ w' h (br_fit _ _ _) (by show 0 ≤ 1000; decide) (br_n64 _ ha hb) 9 (by decide) ⟨1, 1, [], 6⟩ ((br_run22 a b true hg).trans (by simp)))
  clear hv hwh hk
  go_enter Tryz.func9, Tryz.ntmps9
  go_wp2_with fail
  refine HAW.out.mono ?_; rintro e w1 ⟨rfl, g1⟩
  have GA := Lib.hid g1
  clear g1
  go_wp2_with (first | (go_at_call 13; refine (P1.out _).mono ?_; rintro e wk ⟨rfl, rfl⟩) | (go_at_call 17; refine (line_any _ _ _ _ _ _ _).mono ?_; rintro e wk ⟨rfl, gk⟩; have GN : Hid (Below w.heap.size w wk) := Lib.hid (ext_trans GA.out gk); clear GA gk; have GA := GN; clear GN))
  have HX : Hid (∀ o1 o2, (((wk.alloc (.cells ((brC 22 a b).lines.flatMap cellsL).toArray 41)).alloc o1).alloc o2).heap[wk.heap.size]? = some (.cells ((brC 22 a b).lines.flatMap cellsL).toArray 41 (0, 0))) := Lib.hid (fun o1 o2 => (Lib.alloc_old _ _ _ (by simp; omega)).trans ((Lib.alloc_old _ _ _ (by simp)).trans (heap_new wk _)))
  refine (HRN.out _ _ (cd_of (c := brC 22 a b) (ars_none _) (lns_block (L := (brC 22 a b).lines) (HX.out _ _) (by show 8 ≤ 1000; decide)) (by show 0 ≤ 1000; decide) (by show 8 ≤ 1000; decide))).mono ?_; rintro e wr ⟨⟨po, co, rfl, hr⟩, gr⟩
  have HS := Lib.hid (rsame_any _ _ _ _ _ (hr.ext (ext_alloc (Below.refl wr.heap.size wr) (.cells #[.int .i64 1, .int .i64 1, .slice po 0 co, .int .i64 6] 31))) (rn_lit _ 1 1 6) (by decide) (by decide))
  rw [decide_eq_true (rfl : (⟨1, 1, [], 6⟩ : Rn) = ⟨1, 1, [], 6⟩)] at HS
  have GR := Lib.hid (ext_trans (ext_alloc (ext_alloc (ext_alloc GA.out _) _) _) gr)
  clear hr gr HX HRN GA
  go_wp2_with fail
  refine HS.out.mono ?_; rintro e w9 ⟨rfl, g9⟩
  have GZ := Lib.hid (ext_trans (ext_alloc GR.out _) g9)
  clear g9 HS
  go_wp2_with fail
  go_ret
  exact ⟨rfl, GZ.out⟩
set_option maxHeartbeats 4000000 in
set_option maxRecDepth 100000 in
theorem branch1f (a b wh : Int) (w : World) (ha : I64 a) (hb : I64 b) (hwh : I64 wh) (hv : Env w) (hk : pickN wh 4 = 1) (hg : (a != b) = false) : Calls Tryz.prog 9 #[.int .i64 a, .int .i64 b, .int .i64 wh] w fun e w' => e = .returned (.bool true) ∧ Below w.heap.size w w' := by
  have HAW := Lib.hid (awake9_any w hv)
  have P1 : Hid (∀ w, Calls Tryz.prog 13 #[.int .i64 wh, .int .i64 4] w fun e w' => e = .returned (.int .i64 1) ∧ w = w') :=
    Lib.hid (fun w => (pick9_any wh 4 w hwh (by decide)).mono fun e w' h => ⟨by rw [← hk]; exact h.1, h.2⟩)
  have HRN : Hid (∀ (v : Value) w', CdAt w' v (brC 22 a b) → Calls Tryz.prog 14 #[v, .slice none 0 0, .int .i64 9] w' fun e w'' => (∃ po co, e = .returned (.agg #[.int .i64 1, .int .i64 0, .slice po 0 co, .int .i64 5]) ∧ RnAt w'' (.agg #[.int .i64 1, .int .i64 0, .slice po 0 co, .int .i64 5]) ⟨1, 0, [], 5⟩) ∧ Below w'.heap.size w' w'') :=
    Lib.hid (fun v w' h => run_nil v _ w' h (br_fit _ _ _) (by show 0 ≤ 1000; decide) (br_n64 _ ha hb) 9 (by decide) ⟨1, 0, [], 5⟩ ((br_run22 a b false hg).trans (by simp)))
  clear hv hwh hk
  go_enter Tryz.func9, Tryz.ntmps9
  go_wp2_with fail
  refine HAW.out.mono ?_; rintro e w1 ⟨rfl, g1⟩
  have GA := Lib.hid g1
  clear g1
  go_wp2_with (first | (go_at_call 13; refine (P1.out _).mono ?_; rintro e wk ⟨rfl, rfl⟩) | (go_at_call 17; refine (line_any _ _ _ _ _ _ _).mono ?_; rintro e wk ⟨rfl, gk⟩; have GN : Hid (Below w.heap.size w wk) := Lib.hid (ext_trans GA.out gk); clear GA gk; have GA := GN; clear GN))
  have HX : Hid (∀ o1 o2, (((wk.alloc (.cells ((brC 22 a b).lines.flatMap cellsL).toArray 41)).alloc o1).alloc o2).heap[wk.heap.size]? = some (.cells ((brC 22 a b).lines.flatMap cellsL).toArray 41 (0, 0))) := Lib.hid (fun o1 o2 => (Lib.alloc_old _ _ _ (by simp; omega)).trans ((Lib.alloc_old _ _ _ (by simp)).trans (heap_new wk _)))
  refine (HRN.out _ _ (cd_of (c := brC 22 a b) (ars_none _) (lns_block (L := (brC 22 a b).lines) (HX.out _ _) (by show 8 ≤ 1000; decide)) (by show 0 ≤ 1000; decide) (by show 8 ≤ 1000; decide))).mono ?_; rintro e wr ⟨⟨po, co, rfl, hr⟩, gr⟩
  have HS := Lib.hid (rsame_any _ _ _ _ _ (hr.ext (ext_alloc (Below.refl wr.heap.size wr) (.cells #[.int .i64 1, .int .i64 0, .slice po 0 co, .int .i64 5] 31))) (rn_lit _ 1 0 5) (by decide) (by decide))
  rw [decide_eq_true (rfl : (⟨1, 0, [], 5⟩ : Rn) = ⟨1, 0, [], 5⟩)] at HS
  have GR := Lib.hid (ext_trans (ext_alloc (ext_alloc (ext_alloc GA.out _) _) _) gr)
  clear hr gr HX HRN GA
  go_wp2_with fail
  refine HS.out.mono ?_; rintro e w9 ⟨rfl, g9⟩
  have GZ := Lib.hid (ext_trans (ext_alloc GR.out _) g9)
  clear g9 HS
  go_wp2_with fail
  go_ret
  exact ⟨rfl, GZ.out⟩
set_option maxHeartbeats 4000000 in
set_option maxRecDepth 100000 in
theorem branch2t (a b wh : Int) (w : World) (ha : I64 a) (hb : I64 b) (hwh : I64 wh) (hv : Env w) (hk : pickN wh 4 = 2) (hg : decide (a < b) = true) : Calls Tryz.prog 9 #[.int .i64 a, .int .i64 b, .int .i64 wh] w fun e w' => e = .returned (.bool true) ∧ Below w.heap.size w w' := by
  have HAW := Lib.hid (awake9_any w hv)
  have P1 : Hid (∀ w, Calls Tryz.prog 13 #[.int .i64 wh, .int .i64 4] w fun e w' => e = .returned (.int .i64 2) ∧ w = w') :=
    Lib.hid (fun w => (pick9_any wh 4 w hwh (by decide)).mono fun e w' h => ⟨by rw [← hk]; exact h.1, h.2⟩)
  have HRN : Hid (∀ (v : Value) w', CdAt w' v (brC 23 a b) → Calls Tryz.prog 14 #[v, .slice none 0 0, .int .i64 9] w' fun e w'' => (∃ po co, e = .returned (.agg #[.int .i64 1, .int .i64 1, .slice po 0 co, .int .i64 6]) ∧ RnAt w'' (.agg #[.int .i64 1, .int .i64 1, .slice po 0 co, .int .i64 6]) ⟨1, 1, [], 6⟩) ∧ Below w'.heap.size w' w'') :=
    Lib.hid (fun v w' h => run_nil v _ w' h (br_fit _ _ _) (by show 0 ≤ 1000; decide) (br_n64 _ ha hb) 9 (by decide) ⟨1, 1, [], 6⟩ ((br_run23 a b true hg).trans (by simp)))
  clear hv hwh hk
  go_enter Tryz.func9, Tryz.ntmps9
  go_wp2_with fail
  refine HAW.out.mono ?_; rintro e w1 ⟨rfl, g1⟩
  have GA := Lib.hid g1
  clear g1
  go_wp2_with (first | (go_at_call 13; refine (P1.out _).mono ?_; rintro e wk ⟨rfl, rfl⟩) | (go_at_call 17; refine (line_any _ _ _ _ _ _ _).mono ?_; rintro e wk ⟨rfl, gk⟩; have GN : Hid (Below w.heap.size w wk) := Lib.hid (ext_trans GA.out gk); clear GA gk; have GA := GN; clear GN))
  have HX : Hid (∀ o1 o2, (((wk.alloc (.cells ((brC 23 a b).lines.flatMap cellsL).toArray 41)).alloc o1).alloc o2).heap[wk.heap.size]? = some (.cells ((brC 23 a b).lines.flatMap cellsL).toArray 41 (0, 0))) := Lib.hid (fun o1 o2 => (Lib.alloc_old _ _ _ (by simp; omega)).trans ((Lib.alloc_old _ _ _ (by simp)).trans (heap_new wk _)))
  refine (HRN.out _ _ (cd_of (c := brC 23 a b) (ars_none _) (lns_block (L := (brC 23 a b).lines) (HX.out _ _) (by show 8 ≤ 1000; decide)) (by show 0 ≤ 1000; decide) (by show 8 ≤ 1000; decide))).mono ?_; rintro e wr ⟨⟨po, co, rfl, hr⟩, gr⟩
  have HS := Lib.hid (rsame_any _ _ _ _ _ (hr.ext (ext_alloc (Below.refl wr.heap.size wr) (.cells #[.int .i64 1, .int .i64 1, .slice po 0 co, .int .i64 6] 31))) (rn_lit _ 1 1 6) (by decide) (by decide))
  rw [decide_eq_true (rfl : (⟨1, 1, [], 6⟩ : Rn) = ⟨1, 1, [], 6⟩)] at HS
  have GR := Lib.hid (ext_trans (ext_alloc (ext_alloc (ext_alloc GA.out _) _) _) gr)
  clear hr gr HX HRN GA
  go_wp2_with fail
  refine HS.out.mono ?_; rintro e w9 ⟨rfl, g9⟩
  have GZ := Lib.hid (ext_trans (ext_alloc GR.out _) g9)
  clear g9 HS
  go_wp2_with fail
  go_ret
  exact ⟨rfl, GZ.out⟩
set_option maxHeartbeats 4000000 in
set_option maxRecDepth 100000 in
theorem branch2f (a b wh : Int) (w : World) (ha : I64 a) (hb : I64 b) (hwh : I64 wh) (hv : Env w) (hk : pickN wh 4 = 2) (hg : decide (a < b) = false) : Calls Tryz.prog 9 #[.int .i64 a, .int .i64 b, .int .i64 wh] w fun e w' => e = .returned (.bool true) ∧ Below w.heap.size w w' := by
  have HAW := Lib.hid (awake9_any w hv)
  have P1 : Hid (∀ w, Calls Tryz.prog 13 #[.int .i64 wh, .int .i64 4] w fun e w' => e = .returned (.int .i64 2) ∧ w = w') :=
    Lib.hid (fun w => (pick9_any wh 4 w hwh (by decide)).mono fun e w' h => ⟨by rw [← hk]; exact h.1, h.2⟩)
  have HRN : Hid (∀ (v : Value) w', CdAt w' v (brC 23 a b) → Calls Tryz.prog 14 #[v, .slice none 0 0, .int .i64 9] w' fun e w'' => (∃ po co, e = .returned (.agg #[.int .i64 1, .int .i64 0, .slice po 0 co, .int .i64 5]) ∧ RnAt w'' (.agg #[.int .i64 1, .int .i64 0, .slice po 0 co, .int .i64 5]) ⟨1, 0, [], 5⟩) ∧ Below w'.heap.size w' w'') :=
    Lib.hid (fun v w' h => run_nil v _ w' h (br_fit _ _ _) (by show 0 ≤ 1000; decide) (br_n64 _ ha hb) 9 (by decide) ⟨1, 0, [], 5⟩ ((br_run23 a b false hg).trans (by simp)))
  clear hv hwh hk
  go_enter Tryz.func9, Tryz.ntmps9
  go_wp2_with fail
  refine HAW.out.mono ?_; rintro e w1 ⟨rfl, g1⟩
  have GA := Lib.hid g1
  clear g1
  go_wp2_with (first | (go_at_call 13; refine (P1.out _).mono ?_; rintro e wk ⟨rfl, rfl⟩) | (go_at_call 17; refine (line_any _ _ _ _ _ _ _).mono ?_; rintro e wk ⟨rfl, gk⟩; have GN : Hid (Below w.heap.size w wk) := Lib.hid (ext_trans GA.out gk); clear GA gk; have GA := GN; clear GN))
  have HX : Hid (∀ o1 o2, (((wk.alloc (.cells ((brC 23 a b).lines.flatMap cellsL).toArray 41)).alloc o1).alloc o2).heap[wk.heap.size]? = some (.cells ((brC 23 a b).lines.flatMap cellsL).toArray 41 (0, 0))) := Lib.hid (fun o1 o2 => (Lib.alloc_old _ _ _ (by simp; omega)).trans ((Lib.alloc_old _ _ _ (by simp)).trans (heap_new wk _)))
  refine (HRN.out _ _ (cd_of (c := brC 23 a b) (ars_none _) (lns_block (L := (brC 23 a b).lines) (HX.out _ _) (by show 8 ≤ 1000; decide)) (by show 0 ≤ 1000; decide) (by show 8 ≤ 1000; decide))).mono ?_; rintro e wr ⟨⟨po, co, rfl, hr⟩, gr⟩
  have HS := Lib.hid (rsame_any _ _ _ _ _ (hr.ext (ext_alloc (Below.refl wr.heap.size wr) (.cells #[.int .i64 1, .int .i64 0, .slice po 0 co, .int .i64 5] 31))) (rn_lit _ 1 0 5) (by decide) (by decide))
  rw [decide_eq_true (rfl : (⟨1, 0, [], 5⟩ : Rn) = ⟨1, 0, [], 5⟩)] at HS
  have GR := Lib.hid (ext_trans (ext_alloc (ext_alloc (ext_alloc GA.out _) _) _) gr)
  clear hr gr HX HRN GA
  go_wp2_with fail
  refine HS.out.mono ?_; rintro e w9 ⟨rfl, g9⟩
  have GZ := Lib.hid (ext_trans (ext_alloc GR.out _) g9)
  clear g9 HS
  go_wp2_with fail
  go_ret
  exact ⟨rfl, GZ.out⟩
set_option maxHeartbeats 4000000 in
set_option maxRecDepth 100000 in
theorem branch3t (a b wh : Int) (w : World) (ha : I64 a) (hb : I64 b) (hwh : I64 wh) (hv : Env w) (hk : pickN wh 4 = 3) (hg : decide (b ≤ a) = true) : Calls Tryz.prog 9 #[.int .i64 a, .int .i64 b, .int .i64 wh] w fun e w' => e = .returned (.bool true) ∧ Below w.heap.size w w' := by
  have HAW := Lib.hid (awake9_any w hv)
  have P1 : Hid (∀ w, Calls Tryz.prog 13 #[.int .i64 wh, .int .i64 4] w fun e w' => e = .returned (.int .i64 3) ∧ w = w') :=
    Lib.hid (fun w => (pick9_any wh 4 w hwh (by decide)).mono fun e w' h => ⟨by rw [← hk]; exact h.1, h.2⟩)
  have HRN : Hid (∀ (v : Value) w', CdAt w' v (brC 24 a b) → Calls Tryz.prog 14 #[v, .slice none 0 0, .int .i64 9] w' fun e w'' => (∃ po co, e = .returned (.agg #[.int .i64 1, .int .i64 1, .slice po 0 co, .int .i64 6]) ∧ RnAt w'' (.agg #[.int .i64 1, .int .i64 1, .slice po 0 co, .int .i64 6]) ⟨1, 1, [], 6⟩) ∧ Below w'.heap.size w' w'') :=
    Lib.hid (fun v w' h => run_nil v _ w' h (br_fit _ _ _) (by show 0 ≤ 1000; decide) (br_n64 _ ha hb) 9 (by decide) ⟨1, 1, [], 6⟩ ((br_run24 a b true hg).trans (by simp)))
  clear hv hwh hk
  go_enter Tryz.func9, Tryz.ntmps9
  go_wp2_with fail
  refine HAW.out.mono ?_; rintro e w1 ⟨rfl, g1⟩
  have GA := Lib.hid g1
  clear g1
  go_wp2_with (first | (go_at_call 13; refine (P1.out _).mono ?_; rintro e wk ⟨rfl, rfl⟩) | (go_at_call 17; refine (line_any _ _ _ _ _ _ _).mono ?_; rintro e wk ⟨rfl, gk⟩; have GN : Hid (Below w.heap.size w wk) := Lib.hid (ext_trans GA.out gk); clear GA gk; have GA := GN; clear GN))
  have HX : Hid (∀ o1 o2, (((wk.alloc (.cells ((brC 24 a b).lines.flatMap cellsL).toArray 41)).alloc o1).alloc o2).heap[wk.heap.size]? = some (.cells ((brC 24 a b).lines.flatMap cellsL).toArray 41 (0, 0))) := Lib.hid (fun o1 o2 => (Lib.alloc_old _ _ _ (by simp; omega)).trans ((Lib.alloc_old _ _ _ (by simp)).trans (heap_new wk _)))
  refine (HRN.out _ _ (cd_of (c := brC 24 a b) (ars_none _) (lns_block (L := (brC 24 a b).lines) (HX.out _ _) (by show 8 ≤ 1000; decide)) (by show 0 ≤ 1000; decide) (by show 8 ≤ 1000; decide))).mono ?_; rintro e wr ⟨⟨po, co, rfl, hr⟩, gr⟩
  have HS := Lib.hid (rsame_any _ _ _ _ _ (hr.ext (ext_alloc (Below.refl wr.heap.size wr) (.cells #[.int .i64 1, .int .i64 1, .slice po 0 co, .int .i64 6] 31))) (rn_lit _ 1 1 6) (by decide) (by decide))
  rw [decide_eq_true (rfl : (⟨1, 1, [], 6⟩ : Rn) = ⟨1, 1, [], 6⟩)] at HS
  have GR := Lib.hid (ext_trans (ext_alloc (ext_alloc (ext_alloc GA.out _) _) _) gr)
  clear hr gr HX HRN GA
  go_wp2_with fail
  refine HS.out.mono ?_; rintro e w9 ⟨rfl, g9⟩
  have GZ := Lib.hid (ext_trans (ext_alloc GR.out _) g9)
  clear g9 HS
  go_wp2_with fail
  go_ret
  exact ⟨rfl, GZ.out⟩
set_option maxHeartbeats 4000000 in
set_option maxRecDepth 100000 in
theorem branch3f (a b wh : Int) (w : World) (ha : I64 a) (hb : I64 b) (hwh : I64 wh) (hv : Env w) (hk : pickN wh 4 = 3) (hg : decide (b ≤ a) = false) : Calls Tryz.prog 9 #[.int .i64 a, .int .i64 b, .int .i64 wh] w fun e w' => e = .returned (.bool true) ∧ Below w.heap.size w w' := by
  have HAW := Lib.hid (awake9_any w hv)
  have P1 : Hid (∀ w, Calls Tryz.prog 13 #[.int .i64 wh, .int .i64 4] w fun e w' => e = .returned (.int .i64 3) ∧ w = w') :=
    Lib.hid (fun w => (pick9_any wh 4 w hwh (by decide)).mono fun e w' h => ⟨by rw [← hk]; exact h.1, h.2⟩)
  have HRN : Hid (∀ (v : Value) w', CdAt w' v (brC 24 a b) → Calls Tryz.prog 14 #[v, .slice none 0 0, .int .i64 9] w' fun e w'' => (∃ po co, e = .returned (.agg #[.int .i64 1, .int .i64 0, .slice po 0 co, .int .i64 5]) ∧ RnAt w'' (.agg #[.int .i64 1, .int .i64 0, .slice po 0 co, .int .i64 5]) ⟨1, 0, [], 5⟩) ∧ Below w'.heap.size w' w'') :=
    Lib.hid (fun v w' h => run_nil v _ w' h (br_fit _ _ _) (by show 0 ≤ 1000; decide) (br_n64 _ ha hb) 9 (by decide) ⟨1, 0, [], 5⟩ ((br_run24 a b false hg).trans (by simp)))
  clear hv hwh hk
  go_enter Tryz.func9, Tryz.ntmps9
  go_wp2_with fail
  refine HAW.out.mono ?_; rintro e w1 ⟨rfl, g1⟩
  have GA := Lib.hid g1
  clear g1
  go_wp2_with (first | (go_at_call 13; refine (P1.out _).mono ?_; rintro e wk ⟨rfl, rfl⟩) | (go_at_call 17; refine (line_any _ _ _ _ _ _ _).mono ?_; rintro e wk ⟨rfl, gk⟩; have GN : Hid (Below w.heap.size w wk) := Lib.hid (ext_trans GA.out gk); clear GA gk; have GA := GN; clear GN))
  have HX : Hid (∀ o1 o2, (((wk.alloc (.cells ((brC 24 a b).lines.flatMap cellsL).toArray 41)).alloc o1).alloc o2).heap[wk.heap.size]? = some (.cells ((brC 24 a b).lines.flatMap cellsL).toArray 41 (0, 0))) := Lib.hid (fun o1 o2 => (Lib.alloc_old _ _ _ (by simp; omega)).trans ((Lib.alloc_old _ _ _ (by simp)).trans (heap_new wk _)))
  refine (HRN.out _ _ (cd_of (c := brC 24 a b) (ars_none _) (lns_block (L := (brC 24 a b).lines) (HX.out _ _) (by show 8 ≤ 1000; decide)) (by show 0 ≤ 1000; decide) (by show 8 ≤ 1000; decide))).mono ?_; rintro e wr ⟨⟨po, co, rfl, hr⟩, gr⟩
  have HS := Lib.hid (rsame_any _ _ _ _ _ (hr.ext (ext_alloc (Below.refl wr.heap.size wr) (.cells #[.int .i64 1, .int .i64 0, .slice po 0 co, .int .i64 5] 31))) (rn_lit _ 1 0 5) (by decide) (by decide))
  rw [decide_eq_true (rfl : (⟨1, 0, [], 5⟩ : Rn) = ⟨1, 0, [], 5⟩)] at HS
  have GR := Lib.hid (ext_trans (ext_alloc (ext_alloc (ext_alloc GA.out _) _) _) gr)
  clear hr gr HX HRN GA
  go_wp2_with fail
  refine HS.out.mono ?_; rintro e w9 ⟨rfl, g9⟩
  have GZ := Lib.hid (ext_trans (ext_alloc GR.out _) g9)
  clear g9 HS
  go_wp2_with fail
  go_ret
  exact ⟨rfl, GZ.out⟩
theorem branch_walk (a b wh : Int) (w : World) (ha : I64 a) (hb : I64 b) (hwh : I64 wh) (hv : Env w) : Calls Tryz.prog 9 #[.int .i64 a, .int .i64 b, .int .i64 wh] w fun e w' => e = .returned (.bool true) ∧ Below w.heap.size w w' := by
  obtain ⟨k, hk, hk4⟩ := pick_nat9 wh 4 (by decide)
  rcases (show k = 0 ∨ k = 1 ∨ k = 2 ∨ k = 3 by omega) with rfl | rfl | rfl | rfl
  · cases h : (a == b)
    · exact branch0f a b wh w ha hb hwh hv hk h
    · exact branch0t a b wh w ha hb hwh hv hk h
  · cases h : (a != b)
    · exact branch1f a b wh w ha hb hwh hv hk h
    · exact branch1t a b wh w ha hb hwh hv hk h
  · cases h : decide (a < b)
    · exact branch2f a b wh w ha hb hwh hv hk h
    · exact branch2t a b wh w ha hb hwh hv hk h
  · cases h : decide (b ≤ a)
    · exact branch3f a b wh w ha hb hwh hv hk h
    · exact branch3t a b wh w ha hb hwh hv hk h
end Go.Proofs.YtjimeengkfjihaaGreatDoor
