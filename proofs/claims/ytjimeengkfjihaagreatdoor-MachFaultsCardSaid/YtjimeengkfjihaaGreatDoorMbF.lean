/- The walk of MachFaults. -/
import Derived.Test.YtjimeengkfjihaaGreatDoorRows
import Derived.WalkKit
import Derived.ProofKit
import Derived.OpenShut
import Derived.WalkLawsBesides
import Derived.WalkSpells
import Derived.Outline
import Derived.Handy
import Derived.Lib.Hide
import Derived.Lib.OthersKept
import Derived.KernelRfl
import Derived.Carry
import Derived.IntWalk
import Derived.Test.YtjimeengkfjihaaGreatDoorMbD
import Derived.Test.YtjimeengkfjihaaGreatDoorMbP
namespace Go.Proofs.YtjimeengkfjihaaGreatDoor
open Go.ChangeShapes Go.WideShapes Go.ChangeAt Go.RowKit
set_option linter.unusedVariables false
set_option maxHeartbeats 4000000 in
set_option maxRecDepth 100000 in
theorem faults0 (wh by_ : Int) (n : Nat) (w : World) (hwh : I64 wh) (hby : I64 by_) (hv : Env w) (hk : pickN wh 6 = 0) (hn : pickN by_ 1000 = (n : Int)) (hn2 : n < 1000) : Calls Tryz.prog 6 #[.int .i64 wh, .int .i64 by_] w fun e w' => e = .returned (.bool true) ∧ Below w.heap.size w w' := by
  have HAW := Lib.hid (awake9_any w hv)
  have P1 : Hid (∀ w, Calls Tryz.prog 13 #[.int .i64 by_, .int .i64 1000] w fun e w' => e = .returned (.int .i64 (n : Int)) ∧ w = w') :=
    Lib.hid (fun w => (pick9_any by_ 1000 w hby (by decide)).mono fun e w' h => ⟨by rw [← hn]; exact h.1, h.2⟩)
  have P2 : Hid (∀ w, Calls Tryz.prog 13 #[.int .i64 wh, .int .i64 6] w fun e w' => e = .returned (.int .i64 0) ∧ w = w') :=
    Lib.hid (fun w => (pick9_any wh 6 w hwh (by decide)).mono fun e w' h => ⟨by rw [← hk]; exact h.1, h.2⟩)
  have HRN : Hid (∀ (v : Value) w', CdAt w' v (plainC (faL 0 n) faA) → Calls Tryz.prog 14 #[v, .slice none 0 0, .int .i64 99] w' fun e w'' => (∃ po co, e = .returned (.agg #[.int .i64 6, .int .i64 0, .slice po 0 co, .int .i64 2]) ∧ RnAt w'' (.agg #[.int .i64 6, .int .i64 0, .slice po 0 co, .int .i64 2]) ⟨6, 0, [], 2⟩) ∧ Below w'.heap.size w' w'') :=
    Lib.hid (fun v w' h => run_nil v _ w' h (plain_fit (by unfold faL; simp) (by decide)) (by show 1 ≤ 1000; decide) (plain_n64 (fun x hx => by unfold faL at hx; simp at hx; rcases hx with rfl | rfl <;> (unfold I64; simp; try omega))) 99 (by decide) ⟨6, 0, [], 2⟩ (fa_run0 (by omega) (by omega)))
  clear hv hwh hby hk hn
  go_enter Tryz.func6, Tryz.ntmps6
  go_wp2_with fail
  refine HAW.out.mono ?_; rintro e w1 ⟨rfl, g1⟩
  have GA := Lib.hid g1
  have z0 := g1.size
  clear g1
  go_wp2_with (first | (go_at_call 13; (with_reducible refine (P1.out _).mono ?_); rintro e wk ⟨rfl, rfl⟩) | (go_at_call 13; (with_reducible refine (P2.out _).mono ?_); rintro e wk ⟨rfl, rfl⟩))
  refine (line_any _ _ _ _ _ _ _).mono ?_; rintro e v1 ⟨rfl, g⟩
  have HB := Lib.hid ((g.block (w1.heap.size + 1) (by simp)).trans (heap_new' _ _ _ (by simp)))
  have HT := Lib.hid ((g.block w1.heap.size (by simp; omega)).trans ((Lib.alloc_old _ _ _ (by simp)).trans (heap_new w1 _)))
  have GN := Lib.hid (ext_trans (ext_alloc (ext_alloc GA.out _) _) g)
  have z1 : w1.heap.size + 1 < v1.heap.size := (Array.getElem?_eq_some_iff.1 HB.out).1
  clear g GA
  go_wp2_with fail
  refine (line_any _ _ _ _ _ _ _).mono ?_; rintro e v2 ⟨rfl, g⟩
  have HB' := Lib.hid ((g.block (w1.heap.size + 1) z1).trans HB.out)
  have HT' := Lib.hid ((g.block w1.heap.size (by omega)).trans HT.out)
  have GN' := Lib.hid (ext_trans GN.out g)
  clear g GN HB HT
  have HB := HB'
  have HT := HT'
  have GN := GN'
  clear HB' HT' GN'
  have z2 : w1.heap.size + 1 < v2.heap.size := (Array.getElem?_eq_some_iff.1 HB.out).1
  have c1 := (two_cells HB.out).2
  have c0 := (two_cells HB.out).1
  have f1 := (two_frozen HB.out).2
  go_wp2_with fail
  have HX : Hid ((((v2.setCell ⟨w1.heap.size + 1, 1, none⟩ (.slice (some ⟨v2.heap.size, 0, none⟩) 2 2)).alloc (.cells ((plainC (faL 0 n) faA).lines.flatMap cellsL).toArray 41))).heap[v2.heap.size]? = some (.cells ((plainC (faL 0 n) faA).lines.flatMap cellsL).toArray 41 (0, 0))) := Lib.hid (heap_new' _ _ _ (by simp))
  have HTX : Hid ((((v2.setCell ⟨w1.heap.size + 1, 1, none⟩ (.slice (some ⟨v2.heap.size, 0, none⟩) 2 2)).alloc (.cells ((plainC (faL 0 n) faA).lines.flatMap cellsL).toArray 41))).heap[w1.heap.size]? = some (.cells (faA.flatMap cellsA).toArray 37 (0, 0))) := Lib.hid ((Lib.alloc_old _ _ _ (by simp; omega)).trans ((heap_setCell_other _ _ _ _ (by show w1.heap.size ≠ w1.heap.size + 1; omega)).trans HT.out))
  refine (HRN.out _ _ (cd_of (c := plainC (faL 0 n) faA) (ars_block (L := faA) HTX.out (by decide)) (lns_block (L := (plainC (faL 0 n) faA).lines) HX.out (by show 2 ≤ 1000; decide)) (by show 1 ≤ 1000; decide) (by show 2 ≤ 1000; decide))).mono ?_; rintro e wr ⟨⟨po, co, rfl, hr⟩, gr⟩
  have HS := Lib.hid (rsame_any _ _ _ _ _ hr (rn_lit _ 6 0 2) (by decide) (by decide))
  rw [decide_eq_true (rfl : (⟨6, 0, [], 2⟩ : Rn) = ⟨6, 0, [], 2⟩)] at HS
  have GR := Lib.hid (ext_trans (ext_alloc (ext_set GN.out (by show w.heap.size ≤ w1.heap.size + 1; omega) _) _) gr)
  clear hr gr HX HTX HRN GN HB HT c0 c1 f1
  go_wp2_with fail
  refine HS.out.mono ?_; rintro e w9 ⟨rfl, g9⟩
  have GZ := Lib.hid (ext_trans GR.out g9)
  clear g9 HS
  go_wp2_with fail
  go_ret
  exact ⟨rfl, GZ.out⟩
set_option maxHeartbeats 4000000 in
set_option maxRecDepth 100000 in
theorem faults1 (wh by_ : Int) (n : Nat) (w : World) (hwh : I64 wh) (hby : I64 by_) (hv : Env w) (hk : pickN wh 6 = 1) (hn : pickN by_ 1000 = (n : Int)) (hn2 : n < 1000) : Calls Tryz.prog 6 #[.int .i64 wh, .int .i64 by_] w fun e w' => e = .returned (.bool true) ∧ Below w.heap.size w w' := by
  have HAW := Lib.hid (awake9_any w hv)
  have P1 : Hid (∀ w, Calls Tryz.prog 13 #[.int .i64 by_, .int .i64 1000] w fun e w' => e = .returned (.int .i64 (n : Int)) ∧ w = w') :=
    Lib.hid (fun w => (pick9_any by_ 1000 w hby (by decide)).mono fun e w' h => ⟨by rw [← hn]; exact h.1, h.2⟩)
  have P2 : Hid (∀ w, Calls Tryz.prog 13 #[.int .i64 wh, .int .i64 6] w fun e w' => e = .returned (.int .i64 1) ∧ w = w') :=
    Lib.hid (fun w => (pick9_any wh 6 w hwh (by decide)).mono fun e w' h => ⟨by rw [← hk]; exact h.1, h.2⟩)
  have HRN : Hid (∀ (v : Value) w', CdAt w' v (plainC (faL 1 n) faA) → Calls Tryz.prog 14 #[v, .slice none 0 0, .int .i64 99] w' fun e w'' => (∃ po co, e = .returned (.agg #[.int .i64 6, .int .i64 0, .slice po 0 co, .int .i64 2]) ∧ RnAt w'' (.agg #[.int .i64 6, .int .i64 0, .slice po 0 co, .int .i64 2]) ⟨6, 0, [], 2⟩) ∧ Below w'.heap.size w' w'') :=
    Lib.hid (fun v w' h => run_nil v _ w' h (plain_fit (by unfold faL; simp) (by decide)) (by show 1 ≤ 1000; decide) (plain_n64 (fun x hx => by unfold faL at hx; simp at hx; rcases hx with rfl | rfl <;> (unfold I64; simp; try omega))) 99 (by decide) ⟨6, 0, [], 2⟩ (fa_run1 (by omega) (by omega)))
  clear hv hwh hby hk hn
  go_enter Tryz.func6, Tryz.ntmps6
  go_wp2_with fail
  refine HAW.out.mono ?_; rintro e w1 ⟨rfl, g1⟩
  have GA := Lib.hid g1
  have z0 := g1.size
  clear g1
  go_wp2_with (first | (go_at_call 13; (with_reducible refine (P1.out _).mono ?_); rintro e wk ⟨rfl, rfl⟩) | (go_at_call 13; (with_reducible refine (P2.out _).mono ?_); rintro e wk ⟨rfl, rfl⟩))
  refine (line_any _ _ _ _ _ _ _).mono ?_; rintro e v1 ⟨rfl, g⟩
  have HB := Lib.hid ((g.block (w1.heap.size + 1) (by simp)).trans (heap_new' _ _ _ (by simp)))
  have HT := Lib.hid ((g.block w1.heap.size (by simp; omega)).trans ((Lib.alloc_old _ _ _ (by simp)).trans (heap_new w1 _)))
  have GN := Lib.hid (ext_trans (ext_alloc (ext_alloc GA.out _) _) g)
  have z1 : w1.heap.size + 1 < v1.heap.size := (Array.getElem?_eq_some_iff.1 HB.out).1
  clear g GA
  go_wp2_with fail
  refine (line_any _ _ _ _ _ _ _).mono ?_; rintro e v2 ⟨rfl, g⟩
  have HB' := Lib.hid ((g.block (w1.heap.size + 1) z1).trans HB.out)
  have HT' := Lib.hid ((g.block w1.heap.size (by omega)).trans HT.out)
  have GN' := Lib.hid (ext_trans GN.out g)
  clear g GN HB HT
  have HB := HB'
  have HT := HT'
  have GN := GN'
  clear HB' HT' GN'
  have z2 : w1.heap.size + 1 < v2.heap.size := (Array.getElem?_eq_some_iff.1 HB.out).1
  have c1 := (two_cells HB.out).2
  have c0 := (two_cells HB.out).1
  have f1 := (two_frozen HB.out).2
  go_wp2_with fail
  have HX : Hid ((((v2.setCell ⟨w1.heap.size + 1, 1, none⟩ (.slice (some ⟨v2.heap.size, 0, none⟩) 2 2)).alloc (.cells ((plainC (faL 1 n) faA).lines.flatMap cellsL).toArray 41))).heap[v2.heap.size]? = some (.cells ((plainC (faL 1 n) faA).lines.flatMap cellsL).toArray 41 (0, 0))) := Lib.hid (heap_new' _ _ _ (by simp))
  have HTX : Hid ((((v2.setCell ⟨w1.heap.size + 1, 1, none⟩ (.slice (some ⟨v2.heap.size, 0, none⟩) 2 2)).alloc (.cells ((plainC (faL 1 n) faA).lines.flatMap cellsL).toArray 41))).heap[w1.heap.size]? = some (.cells (faA.flatMap cellsA).toArray 37 (0, 0))) := Lib.hid ((Lib.alloc_old _ _ _ (by simp; omega)).trans ((heap_setCell_other _ _ _ _ (by show w1.heap.size ≠ w1.heap.size + 1; omega)).trans HT.out))
  refine (HRN.out _ _ (cd_of (c := plainC (faL 1 n) faA) (ars_block (L := faA) HTX.out (by decide)) (lns_block (L := (plainC (faL 1 n) faA).lines) HX.out (by show 2 ≤ 1000; decide)) (by show 1 ≤ 1000; decide) (by show 2 ≤ 1000; decide))).mono ?_; rintro e wr ⟨⟨po, co, rfl, hr⟩, gr⟩
  have HS := Lib.hid (rsame_any _ _ _ _ _ hr (rn_lit _ 6 0 2) (by decide) (by decide))
  rw [decide_eq_true (rfl : (⟨6, 0, [], 2⟩ : Rn) = ⟨6, 0, [], 2⟩)] at HS
  have GR := Lib.hid (ext_trans (ext_alloc (ext_set GN.out (by show w.heap.size ≤ w1.heap.size + 1; omega) _) _) gr)
  clear hr gr HX HTX HRN GN HB HT c0 c1 f1
  go_wp2_with fail
  refine HS.out.mono ?_; rintro e w9 ⟨rfl, g9⟩
  have GZ := Lib.hid (ext_trans GR.out g9)
  clear g9 HS
  go_wp2_with fail
  go_ret
  exact ⟨rfl, GZ.out⟩
set_option maxHeartbeats 4000000 in
set_option maxRecDepth 100000 in
theorem faults2 (wh by_ : Int) (n : Nat) (w : World) (hwh : I64 wh) (hby : I64 by_) (hv : Env w) (hk : pickN wh 6 = 2) (hn : pickN by_ 1000 = (n : Int)) (hn2 : n < 1000) : Calls Tryz.prog 6 #[.int .i64 wh, .int .i64 by_] w fun e w' => e = .returned (.bool true) ∧ Below w.heap.size w w' := by
  have HAW := Lib.hid (awake9_any w hv)
  have P1 : Hid (∀ w, Calls Tryz.prog 13 #[.int .i64 by_, .int .i64 1000] w fun e w' => e = .returned (.int .i64 (n : Int)) ∧ w = w') :=
    Lib.hid (fun w => (pick9_any by_ 1000 w hby (by decide)).mono fun e w' h => ⟨by rw [← hn]; exact h.1, h.2⟩)
  have P2 : Hid (∀ w, Calls Tryz.prog 13 #[.int .i64 wh, .int .i64 6] w fun e w' => e = .returned (.int .i64 2) ∧ w = w') :=
    Lib.hid (fun w => (pick9_any wh 6 w hwh (by decide)).mono fun e w' h => ⟨by rw [← hk]; exact h.1, h.2⟩)
  have HRN : Hid (∀ (v : Value) w', CdAt w' v (plainC (faL 2 n) faA) → Calls Tryz.prog 14 #[v, .slice none 0 0, .int .i64 99] w' fun e w'' => (∃ po co, e = .returned (.agg #[.int .i64 6, .int .i64 0, .slice po 0 co, .int .i64 2]) ∧ RnAt w'' (.agg #[.int .i64 6, .int .i64 0, .slice po 0 co, .int .i64 2]) ⟨6, 0, [], 2⟩) ∧ Below w'.heap.size w' w'') :=
    Lib.hid (fun v w' h => run_nil v _ w' h (plain_fit (by unfold faL; simp) (by decide)) (by show 1 ≤ 1000; decide) (plain_n64 (fun x hx => by unfold faL at hx; simp at hx; rcases hx with rfl | rfl <;> (unfold I64; simp; try omega))) 99 (by decide) ⟨6, 0, [], 2⟩ (fa_run2 (by omega) (by omega)))
  clear hv hwh hby hk hn
  go_enter Tryz.func6, Tryz.ntmps6
  go_wp2_with fail
  refine HAW.out.mono ?_; rintro e w1 ⟨rfl, g1⟩
  have GA := Lib.hid g1
  have z0 := g1.size
  clear g1
  go_wp2_with (first | (go_at_call 13; (with_reducible refine (P1.out _).mono ?_); rintro e wk ⟨rfl, rfl⟩) | (go_at_call 13; (with_reducible refine (P2.out _).mono ?_); rintro e wk ⟨rfl, rfl⟩))
  refine (line_any _ _ _ _ _ _ _).mono ?_; rintro e v1 ⟨rfl, g⟩
  have HB := Lib.hid ((g.block (w1.heap.size + 1) (by simp)).trans (heap_new' _ _ _ (by simp)))
  have HT := Lib.hid ((g.block w1.heap.size (by simp; omega)).trans ((Lib.alloc_old _ _ _ (by simp)).trans (heap_new w1 _)))
  have GN := Lib.hid (ext_trans (ext_alloc (ext_alloc GA.out _) _) g)
  have z1 : w1.heap.size + 1 < v1.heap.size := (Array.getElem?_eq_some_iff.1 HB.out).1
  clear g GA
  go_wp2_with fail
  refine (line_any _ _ _ _ _ _ _).mono ?_; rintro e v2 ⟨rfl, g⟩
  have HB' := Lib.hid ((g.block (w1.heap.size + 1) z1).trans HB.out)
  have HT' := Lib.hid ((g.block w1.heap.size (by omega)).trans HT.out)
  have GN' := Lib.hid (ext_trans GN.out g)
  clear g GN HB HT
  have HB := HB'
  have HT := HT'
  have GN := GN'
  clear HB' HT' GN'
  have z2 : w1.heap.size + 1 < v2.heap.size := (Array.getElem?_eq_some_iff.1 HB.out).1
  have c1 := (two_cells HB.out).2
  have c0 := (two_cells HB.out).1
  have f1 := (two_frozen HB.out).2
  go_wp2_with fail
  have HX : Hid ((((v2.setCell ⟨w1.heap.size + 1, 1, none⟩ (.slice (some ⟨v2.heap.size, 0, none⟩) 2 2)).alloc (.cells ((plainC (faL 2 n) faA).lines.flatMap cellsL).toArray 41))).heap[v2.heap.size]? = some (.cells ((plainC (faL 2 n) faA).lines.flatMap cellsL).toArray 41 (0, 0))) := Lib.hid (heap_new' _ _ _ (by simp))
  have HTX : Hid ((((v2.setCell ⟨w1.heap.size + 1, 1, none⟩ (.slice (some ⟨v2.heap.size, 0, none⟩) 2 2)).alloc (.cells ((plainC (faL 2 n) faA).lines.flatMap cellsL).toArray 41))).heap[w1.heap.size]? = some (.cells (faA.flatMap cellsA).toArray 37 (0, 0))) := Lib.hid ((Lib.alloc_old _ _ _ (by simp; omega)).trans ((heap_setCell_other _ _ _ _ (by show w1.heap.size ≠ w1.heap.size + 1; omega)).trans HT.out))
  refine (HRN.out _ _ (cd_of (c := plainC (faL 2 n) faA) (ars_block (L := faA) HTX.out (by decide)) (lns_block (L := (plainC (faL 2 n) faA).lines) HX.out (by show 2 ≤ 1000; decide)) (by show 1 ≤ 1000; decide) (by show 2 ≤ 1000; decide))).mono ?_; rintro e wr ⟨⟨po, co, rfl, hr⟩, gr⟩
  have HS := Lib.hid (rsame_any _ _ _ _ _ hr (rn_lit _ 6 0 2) (by decide) (by decide))
  rw [decide_eq_true (rfl : (⟨6, 0, [], 2⟩ : Rn) = ⟨6, 0, [], 2⟩)] at HS
  have GR := Lib.hid (ext_trans (ext_alloc (ext_set GN.out (by show w.heap.size ≤ w1.heap.size + 1; omega) _) _) gr)
  clear hr gr HX HTX HRN GN HB HT c0 c1 f1
  go_wp2_with fail
  refine HS.out.mono ?_; rintro e w9 ⟨rfl, g9⟩
  have GZ := Lib.hid (ext_trans GR.out g9)
  clear g9 HS
  go_wp2_with fail
  go_ret
  exact ⟨rfl, GZ.out⟩
set_option maxHeartbeats 4000000 in
set_option maxRecDepth 100000 in
theorem faults3 (wh by_ : Int) (n : Nat) (w : World) (hwh : I64 wh) (hby : I64 by_) (hv : Env w) (hk : pickN wh 6 = 3) (hn : pickN by_ 1000 = (n : Int)) (hn2 : n < 1000) : Calls Tryz.prog 6 #[.int .i64 wh, .int .i64 by_] w fun e w' => e = .returned (.bool true) ∧ Below w.heap.size w w' := by
  have HAW := Lib.hid (awake9_any w hv)
  have P1 : Hid (∀ w, Calls Tryz.prog 13 #[.int .i64 by_, .int .i64 1000] w fun e w' => e = .returned (.int .i64 (n : Int)) ∧ w = w') :=
    Lib.hid (fun w => (pick9_any by_ 1000 w hby (by decide)).mono fun e w' h => ⟨by rw [← hn]; exact h.1, h.2⟩)
  have P2 : Hid (∀ w, Calls Tryz.prog 13 #[.int .i64 wh, .int .i64 6] w fun e w' => e = .returned (.int .i64 3) ∧ w = w') :=
    Lib.hid (fun w => (pick9_any wh 6 w hwh (by decide)).mono fun e w' h => ⟨by rw [← hk]; exact h.1, h.2⟩)
  have HRN : Hid (∀ (v : Value) w', CdAt w' v (plainC (faL 3 n) faA) → Calls Tryz.prog 14 #[v, .slice none 0 0, .int .i64 99] w' fun e w'' => (∃ po co, e = .returned (.agg #[.int .i64 6, .int .i64 0, .slice po 0 co, .int .i64 2]) ∧ RnAt w'' (.agg #[.int .i64 6, .int .i64 0, .slice po 0 co, .int .i64 2]) ⟨6, 0, [], 2⟩) ∧ Below w'.heap.size w' w'') :=
    Lib.hid (fun v w' h => run_nil v _ w' h (plain_fit (by unfold faL; simp) (by decide)) (by show 1 ≤ 1000; decide) (plain_n64 (fun x hx => by unfold faL at hx; simp at hx; rcases hx with rfl | rfl <;> (unfold I64; simp; try omega))) 99 (by decide) ⟨6, 0, [], 2⟩ (fa_run3 (by omega) (by omega)))
  clear hv hwh hby hk hn
  go_enter Tryz.func6, Tryz.ntmps6
  go_wp2_with fail
  refine HAW.out.mono ?_; rintro e w1 ⟨rfl, g1⟩
  have GA := Lib.hid g1
  have z0 := g1.size
  clear g1
  go_wp2_with (first | (go_at_call 13; (with_reducible refine (P1.out _).mono ?_); rintro e wk ⟨rfl, rfl⟩) | (go_at_call 13; (with_reducible refine (P2.out _).mono ?_); rintro e wk ⟨rfl, rfl⟩))
  refine (line_any _ _ _ _ _ _ _).mono ?_; rintro e v1 ⟨rfl, g⟩
  have HB := Lib.hid ((g.block (w1.heap.size + 1) (by simp)).trans (heap_new' _ _ _ (by simp)))
  have HT := Lib.hid ((g.block w1.heap.size (by simp; omega)).trans ((Lib.alloc_old _ _ _ (by simp)).trans (heap_new w1 _)))
  have GN := Lib.hid (ext_trans (ext_alloc (ext_alloc GA.out _) _) g)
  have z1 : w1.heap.size + 1 < v1.heap.size := (Array.getElem?_eq_some_iff.1 HB.out).1
  clear g GA
  go_wp2_with fail
  refine (line_any _ _ _ _ _ _ _).mono ?_; rintro e v2 ⟨rfl, g⟩
  have HB' := Lib.hid ((g.block (w1.heap.size + 1) z1).trans HB.out)
  have HT' := Lib.hid ((g.block w1.heap.size (by omega)).trans HT.out)
  have GN' := Lib.hid (ext_trans GN.out g)
  clear g GN HB HT
  have HB := HB'
  have HT := HT'
  have GN := GN'
  clear HB' HT' GN'
  have z2 : w1.heap.size + 1 < v2.heap.size := (Array.getElem?_eq_some_iff.1 HB.out).1
  have c1 := (two_cells HB.out).2
  have c0 := (two_cells HB.out).1
  have f1 := (two_frozen HB.out).2
  go_wp2_with fail
  have HX : Hid ((((v2.setCell ⟨w1.heap.size + 1, 1, none⟩ (.slice (some ⟨v2.heap.size, 0, none⟩) 2 2)).alloc (.cells ((plainC (faL 3 n) faA).lines.flatMap cellsL).toArray 41))).heap[v2.heap.size]? = some (.cells ((plainC (faL 3 n) faA).lines.flatMap cellsL).toArray 41 (0, 0))) := Lib.hid (heap_new' _ _ _ (by simp))
  have HTX : Hid ((((v2.setCell ⟨w1.heap.size + 1, 1, none⟩ (.slice (some ⟨v2.heap.size, 0, none⟩) 2 2)).alloc (.cells ((plainC (faL 3 n) faA).lines.flatMap cellsL).toArray 41))).heap[w1.heap.size]? = some (.cells (faA.flatMap cellsA).toArray 37 (0, 0))) := Lib.hid ((Lib.alloc_old _ _ _ (by simp; omega)).trans ((heap_setCell_other _ _ _ _ (by show w1.heap.size ≠ w1.heap.size + 1; omega)).trans HT.out))
  refine (HRN.out _ _ (cd_of (c := plainC (faL 3 n) faA) (ars_block (L := faA) HTX.out (by decide)) (lns_block (L := (plainC (faL 3 n) faA).lines) HX.out (by show 2 ≤ 1000; decide)) (by show 1 ≤ 1000; decide) (by show 2 ≤ 1000; decide))).mono ?_; rintro e wr ⟨⟨po, co, rfl, hr⟩, gr⟩
  have HS := Lib.hid (rsame_any _ _ _ _ _ hr (rn_lit _ 6 0 2) (by decide) (by decide))
  rw [decide_eq_true (rfl : (⟨6, 0, [], 2⟩ : Rn) = ⟨6, 0, [], 2⟩)] at HS
  have GR := Lib.hid (ext_trans (ext_alloc (ext_set GN.out (by show w.heap.size ≤ w1.heap.size + 1; omega) _) _) gr)
  clear hr gr HX HTX HRN GN HB HT c0 c1 f1
  go_wp2_with fail
  refine HS.out.mono ?_; rintro e w9 ⟨rfl, g9⟩
  have GZ := Lib.hid (ext_trans GR.out g9)
  clear g9 HS
  go_wp2_with fail
  go_ret
  exact ⟨rfl, GZ.out⟩
set_option maxHeartbeats 4000000 in
set_option maxRecDepth 100000 in
theorem faults4 (wh by_ : Int) (n : Nat) (w : World) (hwh : I64 wh) (hby : I64 by_) (hv : Env w) (hk : pickN wh 6 = 4) (hn : pickN by_ 1000 = (n : Int)) (hn2 : n < 1000) : Calls Tryz.prog 6 #[.int .i64 wh, .int .i64 by_] w fun e w' => e = .returned (.bool true) ∧ Below w.heap.size w w' := by
  have HAW := Lib.hid (awake9_any w hv)
  have P1 : Hid (∀ w, Calls Tryz.prog 13 #[.int .i64 by_, .int .i64 1000] w fun e w' => e = .returned (.int .i64 (n : Int)) ∧ w = w') :=
    Lib.hid (fun w => (pick9_any by_ 1000 w hby (by decide)).mono fun e w' h => ⟨by rw [← hn]; exact h.1, h.2⟩)
  have P2 : Hid (∀ w, Calls Tryz.prog 13 #[.int .i64 wh, .int .i64 6] w fun e w' => e = .returned (.int .i64 4) ∧ w = w') :=
    Lib.hid (fun w => (pick9_any wh 6 w hwh (by decide)).mono fun e w' h => ⟨by rw [← hk]; exact h.1, h.2⟩)
  have HRN : Hid (∀ (v : Value) w', CdAt w' v (plainC (faL 4 n) faA) → Calls Tryz.prog 14 #[v, .slice none 0 0, .int .i64 99] w' fun e w'' => (∃ po co, e = .returned (.agg #[.int .i64 6, .int .i64 0, .slice po 0 co, .int .i64 3]) ∧ RnAt w'' (.agg #[.int .i64 6, .int .i64 0, .slice po 0 co, .int .i64 3]) ⟨6, 0, [], 3⟩) ∧ Below w'.heap.size w' w'') :=
    Lib.hid (fun v w' h => run_nil v _ w' h (plain_fit (by unfold faL; simp) (by decide)) (by show 1 ≤ 1000; decide) (plain_n64 (fun x hx => by unfold faL at hx; simp at hx; rcases hx with rfl | rfl | rfl <;> (unfold I64; simp; try omega))) 99 (by decide) ⟨6, 0, [], 3⟩ (fa_run4 (by omega) (by omega)))
  clear hv hwh hby hk hn
  go_enter Tryz.func6, Tryz.ntmps6
  go_wp2_with fail
  refine HAW.out.mono ?_; rintro e w1 ⟨rfl, g1⟩
  have GA := Lib.hid g1
  have z0 := g1.size
  clear g1
  go_wp2_with (first | (go_at_call 13; (with_reducible refine (P1.out _).mono ?_); rintro e wk ⟨rfl, rfl⟩) | (go_at_call 13; (with_reducible refine (P2.out _).mono ?_); rintro e wk ⟨rfl, rfl⟩))
  refine (line_any _ _ _ _ _ _ _).mono ?_; rintro e v1 ⟨rfl, g⟩
  have HB := Lib.hid ((g.block (w1.heap.size + 1) (by simp)).trans (heap_new' _ _ _ (by simp)))
  have HT := Lib.hid ((g.block w1.heap.size (by simp; omega)).trans ((Lib.alloc_old _ _ _ (by simp)).trans (heap_new w1 _)))
  have GN := Lib.hid (ext_trans (ext_alloc (ext_alloc GA.out _) _) g)
  have z1 : w1.heap.size + 1 < v1.heap.size := (Array.getElem?_eq_some_iff.1 HB.out).1
  clear g GA
  go_wp2_with fail
  refine (line_any _ _ _ _ _ _ _).mono ?_; rintro e v2 ⟨rfl, g⟩
  have HB' := Lib.hid ((g.block (w1.heap.size + 1) z1).trans HB.out)
  have HT' := Lib.hid ((g.block w1.heap.size (by omega)).trans HT.out)
  have GN' := Lib.hid (ext_trans GN.out g)
  clear g GN HB HT
  have HB := HB'
  have HT := HT'
  have GN := GN'
  clear HB' HT' GN'
  have z2 : w1.heap.size + 1 < v2.heap.size := (Array.getElem?_eq_some_iff.1 HB.out).1
  go_wp2_with fail
  refine (line_any _ _ _ _ _ _ _).mono ?_; rintro e v3 ⟨rfl, g⟩
  have HB' := Lib.hid ((g.block (w1.heap.size + 1) z2).trans HB.out)
  have HT' := Lib.hid ((g.block w1.heap.size (by omega)).trans HT.out)
  have GN' := Lib.hid (ext_trans GN.out g)
  clear g GN HB HT
  have HB := HB'
  have HT := HT'
  have GN := GN'
  clear HB' HT' GN'
  have z3 : w1.heap.size + 1 < v3.heap.size := (Array.getElem?_eq_some_iff.1 HB.out).1
  have c1 := (two_cells HB.out).2
  have c0 := (two_cells HB.out).1
  have f1 := (two_frozen HB.out).2
  go_wp2_with fail
  have HX : Hid ((((v3.setCell ⟨w1.heap.size + 1, 1, none⟩ (.slice (some ⟨v3.heap.size, 0, none⟩) 3 3)).alloc (.cells ((plainC (faL 4 n) faA).lines.flatMap cellsL).toArray 41))).heap[v3.heap.size]? = some (.cells ((plainC (faL 4 n) faA).lines.flatMap cellsL).toArray 41 (0, 0))) := Lib.hid (heap_new' _ _ _ (by simp))
  have HTX : Hid ((((v3.setCell ⟨w1.heap.size + 1, 1, none⟩ (.slice (some ⟨v3.heap.size, 0, none⟩) 3 3)).alloc (.cells ((plainC (faL 4 n) faA).lines.flatMap cellsL).toArray 41))).heap[w1.heap.size]? = some (.cells (faA.flatMap cellsA).toArray 37 (0, 0))) := Lib.hid ((Lib.alloc_old _ _ _ (by simp; omega)).trans ((heap_setCell_other _ _ _ _ (by show w1.heap.size ≠ w1.heap.size + 1; omega)).trans HT.out))
  refine (HRN.out _ _ (cd_of (c := plainC (faL 4 n) faA) (ars_block (L := faA) HTX.out (by decide)) (lns_block (L := (plainC (faL 4 n) faA).lines) HX.out (by show 3 ≤ 1000; decide)) (by show 1 ≤ 1000; decide) (by show 3 ≤ 1000; decide))).mono ?_; rintro e wr ⟨⟨po, co, rfl, hr⟩, gr⟩
  have HS := Lib.hid (rsame_any _ _ _ _ _ hr (rn_lit _ 6 0 3) (by decide) (by decide))
  rw [decide_eq_true (rfl : (⟨6, 0, [], 3⟩ : Rn) = ⟨6, 0, [], 3⟩)] at HS
  have GR := Lib.hid (ext_trans (ext_alloc (ext_set GN.out (by show w.heap.size ≤ w1.heap.size + 1; omega) _) _) gr)
  clear hr gr HX HTX HRN GN HB HT c0 c1 f1
  go_wp2_with fail
  refine HS.out.mono ?_; rintro e w9 ⟨rfl, g9⟩
  have GZ := Lib.hid (ext_trans GR.out g9)
  clear g9 HS
  go_wp2_with fail
  go_ret
  exact ⟨rfl, GZ.out⟩
set_option maxHeartbeats 4000000 in
set_option maxRecDepth 100000 in
theorem faults5 (wh by_ : Int) (n : Nat) (w : World) (hwh : I64 wh) (hby : I64 by_) (hv : Env w) (hk : pickN wh 6 = 5) (hn : pickN by_ 1000 = (n : Int)) (hn2 : n < 1000) : Calls Tryz.prog 6 #[.int .i64 wh, .int .i64 by_] w fun e w' => e = .returned (.bool true) ∧ Below w.heap.size w w' := by
  have HAW := Lib.hid (awake9_any w hv)
  have P1 : Hid (∀ w, Calls Tryz.prog 13 #[.int .i64 by_, .int .i64 1000] w fun e w' => e = .returned (.int .i64 (n : Int)) ∧ w = w') :=
    Lib.hid (fun w => (pick9_any by_ 1000 w hby (by decide)).mono fun e w' h => ⟨by rw [← hn]; exact h.1, h.2⟩)
  have P2 : Hid (∀ w, Calls Tryz.prog 13 #[.int .i64 wh, .int .i64 6] w fun e w' => e = .returned (.int .i64 5) ∧ w = w') :=
    Lib.hid (fun w => (pick9_any wh 6 w hwh (by decide)).mono fun e w' h => ⟨by rw [← hk]; exact h.1, h.2⟩)
  have HRN : Hid (∀ (v : Value) w', CdAt w' v (plainC (faL 5 n) faA) → Calls Tryz.prog 14 #[v, .slice none 0 0, .int .i64 99] w' fun e w'' => (∃ po co, e = .returned (.agg #[.int .i64 6, .int .i64 0, .slice po 0 co, .int .i64 2]) ∧ RnAt w'' (.agg #[.int .i64 6, .int .i64 0, .slice po 0 co, .int .i64 2]) ⟨6, 0, [], 2⟩) ∧ Below w'.heap.size w' w'') :=
    Lib.hid (fun v w' h => run_nil v _ w' h (plain_fit (by unfold faL; simp) (by decide)) (by show 1 ≤ 1000; decide) (plain_n64 (fun x hx => by unfold faL at hx; simp at hx; rcases hx with rfl | rfl <;> (unfold I64; simp; try omega))) 99 (by decide) ⟨6, 0, [], 2⟩ (fa_run5 (by omega) (by omega)))
  clear hv hwh hby hk hn
  go_enter Tryz.func6, Tryz.ntmps6
  go_wp2_with fail
  refine HAW.out.mono ?_; rintro e w1 ⟨rfl, g1⟩
  have GA := Lib.hid g1
  have z0 := g1.size
  clear g1
  go_wp2_with (first | (go_at_call 13; (with_reducible refine (P1.out _).mono ?_); rintro e wk ⟨rfl, rfl⟩) | (go_at_call 13; (with_reducible refine (P2.out _).mono ?_); rintro e wk ⟨rfl, rfl⟩))
  refine (line_any _ _ _ _ _ _ _).mono ?_; rintro e v1 ⟨rfl, g⟩
  have HB := Lib.hid ((g.block (w1.heap.size + 1) (by simp)).trans (heap_new' _ _ _ (by simp)))
  have HT := Lib.hid ((g.block w1.heap.size (by simp; omega)).trans ((Lib.alloc_old _ _ _ (by simp)).trans (heap_new w1 _)))
  have GN := Lib.hid (ext_trans (ext_alloc (ext_alloc GA.out _) _) g)
  have z1 : w1.heap.size + 1 < v1.heap.size := (Array.getElem?_eq_some_iff.1 HB.out).1
  clear g GA
  go_wp2_with fail
  refine (line_any _ _ _ _ _ _ _).mono ?_; rintro e v2 ⟨rfl, g⟩
  have HB' := Lib.hid ((g.block (w1.heap.size + 1) z1).trans HB.out)
  have HT' := Lib.hid ((g.block w1.heap.size (by omega)).trans HT.out)
  have GN' := Lib.hid (ext_trans GN.out g)
  clear g GN HB HT
  have HB := HB'
  have HT := HT'
  have GN := GN'
  clear HB' HT' GN'
  have z2 : w1.heap.size + 1 < v2.heap.size := (Array.getElem?_eq_some_iff.1 HB.out).1
  have c1 := (two_cells HB.out).2
  have c0 := (two_cells HB.out).1
  have f1 := (two_frozen HB.out).2
  go_wp2_with fail
  have HX : Hid ((((v2.setCell ⟨w1.heap.size + 1, 1, none⟩ (.slice (some ⟨v2.heap.size, 0, none⟩) 2 2)).alloc (.cells ((plainC (faL 5 n) faA).lines.flatMap cellsL).toArray 41))).heap[v2.heap.size]? = some (.cells ((plainC (faL 5 n) faA).lines.flatMap cellsL).toArray 41 (0, 0))) := Lib.hid (heap_new' _ _ _ (by simp))
  have HTX : Hid ((((v2.setCell ⟨w1.heap.size + 1, 1, none⟩ (.slice (some ⟨v2.heap.size, 0, none⟩) 2 2)).alloc (.cells ((plainC (faL 5 n) faA).lines.flatMap cellsL).toArray 41))).heap[w1.heap.size]? = some (.cells (faA.flatMap cellsA).toArray 37 (0, 0))) := Lib.hid ((Lib.alloc_old _ _ _ (by simp; omega)).trans ((heap_setCell_other _ _ _ _ (by show w1.heap.size ≠ w1.heap.size + 1; omega)).trans HT.out))
  refine (HRN.out _ _ (cd_of (c := plainC (faL 5 n) faA) (ars_block (L := faA) HTX.out (by decide)) (lns_block (L := (plainC (faL 5 n) faA).lines) HX.out (by show 2 ≤ 1000; decide)) (by show 1 ≤ 1000; decide) (by show 2 ≤ 1000; decide))).mono ?_; rintro e wr ⟨⟨po, co, rfl, hr⟩, gr⟩
  have HS := Lib.hid (rsame_any _ _ _ _ _ hr (rn_lit _ 6 0 2) (by decide) (by decide))
  rw [decide_eq_true (rfl : (⟨6, 0, [], 2⟩ : Rn) = ⟨6, 0, [], 2⟩)] at HS
  have GR := Lib.hid (ext_trans (ext_alloc (ext_set GN.out (by show w.heap.size ≤ w1.heap.size + 1; omega) _) _) gr)
  clear hr gr HX HTX HRN GN HB HT c0 c1 f1
  go_wp2_with fail
  refine HS.out.mono ?_; rintro e w9 ⟨rfl, g9⟩
  have GZ := Lib.hid (ext_trans GR.out g9)
  clear g9 HS
  go_wp2_with fail
  go_ret
  exact ⟨rfl, GZ.out⟩
theorem faults_walk (wh by_ : Int) (w : World) (hwh : I64 wh) (hby : I64 by_) (hv : Env w) : Calls Tryz.prog 6 #[.int .i64 wh, .int .i64 by_] w fun e w' => e = .returned (.bool true) ∧ Below w.heap.size w w' := by
  obtain ⟨k, hk, hk4⟩ := pick_nat9 wh 6 (by decide)
  obtain ⟨n, hn, hn2⟩ := pick_nat9 by_ 1000 (by decide)
  rcases (show k = 0 ∨ k = 1 ∨ k = 2 ∨ k = 3 ∨ k = 4 ∨ k = 5 by omega) with rfl | rfl | rfl | rfl | rfl | rfl
  · exact faults0 wh by_ n w hwh hby hv hk hn hn2
  · exact faults1 wh by_ n w hwh hby hv hk hn hn2
  · exact faults2 wh by_ n w hwh hby hv hk hn hn2
  · exact faults3 wh by_ n w hwh hby hv hk hn hn2
  · exact faults4 wh by_ n w hwh hby hv hk hn hn2
  · exact faults5 wh by_ n w hwh hby hv hk hn hn2
end Go.Proofs.YtjimeengkfjihaaGreatDoor
