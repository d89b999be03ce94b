/- The walk of MachMoves. -/
import Derived.Test.YtjimeengkfjihaaGreatDoorRows
import Derived.WalkKit
import Derived.ProofKit
import Derived.OpenShut
import Derived.WalkLawsBesides
import Derived.WalkSpells
import Derived.Outline
import Derived.Handy
import Derived.Lib.Hide
import Derived.Lib.OthersKept
import Derived.KernelRfl
import Derived.Carry
import Derived.IntWalk
import Derived.Test.YtjimeengkfjihaaGreatDoorMbD
import Derived.Test.YtjimeengkfjihaaGreatDoorMbP
namespace Go.Proofs.YtjimeengkfjihaaGreatDoor
open Go.ChangeShapes Go.WideShapes Go.ChangeAt Go.RowKit
set_option linter.unusedVariables false
set_option maxHeartbeats 8000000 in
set_option maxRecDepth 100000 in
theorem moves_core (n x1 x2 x3 x4 : Int) (i j q d : Nat) (w : World) (hn : I64 n) (h1 : I64 x1) (h2 : I64 x2) (h3 : I64 x3) (h4 : I64 x4) (hv : Env w) (e1 : pickN x1 7 = (i : Int)) (e2 : pickN x2 7 = (j : Int)) (e3 : pickN x3 10 = (q : Int)) (e4 : pickN x4 200 = (d : Int)) (hi : i < 7) (hj : j < 7) (hq : q < 10) (hd : d < 200) :
    Calls Tryz.prog 4 #[.int .i64 n, .int .i64 x1, .int .i64 x2, .int .i64 x3, .int .i64 x4] w fun e w' => e = .returned (.bool true) ∧ Below w.heap.size w w' := by
  have HAW := Lib.hid (awake9_any w hv)
  have P1 : Hid (∀ w, Calls Tryz.prog 13 #[.int .i64 x1, .int .i64 7] w fun e w' => e = .returned (.int .i64 (i : Int)) ∧ w = w') := Lib.hid (fun w => (pick9_any x1 7 w h1 (by decide)).mono fun e w' h => ⟨by rw [← e1]; exact h.1, h.2⟩)
  have P2 : Hid (∀ w, Calls Tryz.prog 13 #[.int .i64 x2, .int .i64 7] w fun e w' => e = .returned (.int .i64 (j : Int)) ∧ w = w') := Lib.hid (fun w => (pick9_any x2 7 w h2 (by decide)).mono fun e w' h => ⟨by rw [← e2]; exact h.1, h.2⟩)
  have P3 : Hid (∀ w, Calls Tryz.prog 13 #[.int .i64 x3, .int .i64 10] w fun e w' => e = .returned (.int .i64 (q : Int)) ∧ w = w') := Lib.hid (fun w => (pick9_any x3 10 w h3 (by decide)).mono fun e w' h => ⟨by rw [← e3]; exact h.1, h.2⟩)
  have P4 : Hid (∀ w, Calls Tryz.prog 13 #[.int .i64 x4, .int .i64 200] w fun e w' => e = .returned (.int .i64 (d : Int)) ∧ w = w') := Lib.hid (fun w => (pick9_any x4 200 w h4 (by decide)).mono fun e w' h => ⟨by rw [← e4]; exact h.1, h.2⟩)
  have HRN : Hid (∀ (v : Value) w', CdAt w' v (plainC (moL n (18 + (i : Int)) (25 + (j : Int)) (8 * (q : Int)) (-8 * (1 + (d : Int)))) faA) → Calls Tryz.prog 14 #[v, .slice none 0 0, .int .i64 99] w' fun e w'' => (∃ po co, e = .returned (.agg #[.int .i64 1, .int .i64 0, .slice po 2 co, .int .i64 15]) ∧ RnAt w'' (.agg #[.int .i64 1, .int .i64 0, .slice po 2 co, .int .i64 15]) ⟨1, 0, [n, 0], 15⟩) ∧ Below w'.heap.size w' w'') :=
    Lib.hid (fun v w' h => run_nil v _ w' h (plain_fit (by simp [moL]) (by decide)) (by show 1 ≤ 1000; decide) (plain_n64 (fun x hx => by simp [moL] at hx; rcases hx with rfl | rfl | rfl | rfl | rfl | rfl | rfl | rfl | rfl | rfl | rfl | rfl | rfl | rfl | rfl <;> first | exact hn | (unfold I64; dsimp only; omega))) 99 (by decide) ⟨1, 0, [n, 0], 15⟩ (mo_run (by omega) (by omega) (by omega) (by omega) (by omega) (by omega)))
  clear hv h1 h2 h3 h4 e1 e2 e3 e4
  go_enter Tryz.func4, Tryz.ntmps4
  go_wp2_with fail
  refine HAW.out.mono ?_; rintro e w1 ⟨rfl, g1⟩
  have GA := Lib.hid g1
  have z0 := g1.size
  clear g1
  go_wp2_with fail
  refine (P1.out _).mono ?_; rintro e wk ⟨rfl, rfl⟩
  go_wp2_with fail
  refine (P2.out _).mono ?_; rintro e wk ⟨rfl, rfl⟩
  go_wp2_with fail
  refine (P3.out _).mono ?_; rintro e wk ⟨rfl, rfl⟩
  go_wp2_with fail
  refine (P4.out _).mono ?_; rintro e wk ⟨rfl, rfl⟩
  go_wp2_with fail
  refine (line_any _ _ _ _ _ _ _).mono ?_; rintro e wk ⟨rfl, g⟩
  have HT := Lib.hid ((g.block w1.heap.size (by simp)).trans (heap_new w1 _))
  have GN := Lib.hid (ext_trans (ext_alloc GA.out _) g)
  have zk : w1.heap.size < wk.heap.size := (Array.getElem?_eq_some_iff.1 HT.out).1
  clear g GA
  go_wp2_with (go_at_call 17; refine (line_any _ _ _ _ _ _ _).mono ?_; rintro e wl ⟨rfl, g⟩; have HT2 := Lib.hid ((g.block w1.heap.size zk).trans HT.out); have GN2 : Hid (Below w.heap.size w wl) := Lib.hid (ext_trans GN.out g); clear HT GN zk g; have HT := HT2; have GN := GN2; have zk : w1.heap.size < wl.heap.size := (Array.getElem?_eq_some_iff.1 HT.out).1; clear HT2 GN2)
  have htm : Int.tmod (8 * (q : Int) + 8) 80 = (8 * (q : Int) + 8) % 80 := Int.tmod_eq_emod_of_nonneg (by omega)
  try simp only [htm]
  have HX : Hid (((wl.alloc (.cells ((plainC (moL n (18 + (i : Int)) (25 + (j : Int)) (8 * (q : Int)) (-8 * (1 + (d : Int)))) faA).lines.flatMap cellsL).toArray 41)).alloc (.cells #[.slice (some ⟨w1.heap.size, 0, none⟩) 1 1, .slice (some ⟨wl.heap.size, 0, none⟩) 15 15] 27)).heap[wl.heap.size]? = some (.cells ((plainC (moL n (18 + (i : Int)) (25 + (j : Int)) (8 * (q : Int)) (-8 * (1 + (d : Int)))) faA).lines.flatMap cellsL).toArray 41 (0, 0))) := Lib.hid ((Lib.alloc_old _ _ _ (by simp)).trans (heap_new wl _))
  have HTX : Hid (((wl.alloc (.cells ((plainC (moL n (18 + (i : Int)) (25 + (j : Int)) (8 * (q : Int)) (-8 * (1 + (d : Int)))) faA).lines.flatMap cellsL).toArray 41)).alloc (.cells #[.slice (some ⟨w1.heap.size, 0, none⟩) 1 1, .slice (some ⟨wl.heap.size, 0, none⟩) 15 15] 27)).heap[w1.heap.size]? = some (.cells (faA.flatMap cellsA).toArray 37 (0, 0))) := Lib.hid ((Lib.alloc_old _ _ _ (by simp; omega)).trans ((Lib.alloc_old _ _ _ zk).trans HT.out))
  refine (HRN.out _ _ (cd_of (c := (plainC (moL n (18 + (i : Int)) (25 + (j : Int)) (8 * (q : Int)) (-8 * (1 + (d : Int)))) faA)) (ars_block (L := faA) HTX.out (by decide)) (lns_block (L := (plainC (moL n (18 + (i : Int)) (25 + (j : Int)) (8 * (q : Int)) (-8 * (1 + (d : Int)))) faA).lines) HX.out (by show 15 ≤ 1000; decide)) (by show 1 ≤ 1000; decide) (by show 15 ≤ 1000; decide))).mono ?_; rintro e wr ⟨⟨po, co, rfl, hr⟩, gr⟩
  have GR := Lib.hid (ext_trans (ext_alloc (ext_alloc GN.out _) _) gr)
  have HR := Lib.hid hr
  clear hr gr HX HTX HRN GN HT htm
  go_wp2_with fail
  refine (rsame_any _ _ _ _ _ (HR.out.ext (ext_alloc (ext_alloc (Below.refl _ _) _) _)) (rn_blk2 (x := n) (y := 0) (heap_new' _ _ _ (by simp)) 1 0 15) (by show 2 ≤ 1000000; decide) (by show 2 ≤ 1000000; decide)).mono ?_; rintro e w9 ⟨rfl, g9⟩
  rw [decide_eq_true (rfl : (⟨1, 0, [n, 0], 15⟩ : Rn) = ⟨1, 0, [n, 0], 15⟩)]
  have GZ := Lib.hid (ext_trans (ext_alloc (ext_alloc GR.out _) _) g9)
  clear g9
  go_wp2_with fail
  go_ret
  exact ⟨rfl, GZ.out⟩
theorem moves_walk (n x1 x2 x3 x4 : Int) (w : World) (hn : I64 n) (h1 : I64 x1) (h2 : I64 x2) (h3 : I64 x3) (h4 : I64 x4) (hv : Env w) : Calls Tryz.prog 4 #[.int .i64 n, .int .i64 x1, .int .i64 x2, .int .i64 x3, .int .i64 x4] w fun e w' => e = .returned (.bool true) ∧ Below w.heap.size w w' := by
  obtain ⟨i, e1, hi⟩ := pick_nat9 x1 7 (by decide)
  obtain ⟨j, e2, hj⟩ := pick_nat9 x2 7 (by decide)
  obtain ⟨q, e3, hq⟩ := pick_nat9 x3 10 (by decide)
  obtain ⟨d, e4, hd⟩ := pick_nat9 x4 200 (by decide)
  exact moves_core n x1 x2 x3 x4 i j q d w hn h1 h2 h3 h4 hv e1 e2 e3 e4 hi hj hq hd
end Go.Proofs.YtjimeengkfjihaaGreatDoor
