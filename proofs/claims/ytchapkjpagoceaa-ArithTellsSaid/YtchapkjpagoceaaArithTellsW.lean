/- The walk of the law 'counterproof/counterprooflaw01.ArithTells': the call answers true and leaves what was there as it was. -/
import Derived.Test.YtchapkjpagoceaaRows
import Derived.WalkKit
import Derived.ProofKit
import Derived.OpenShut
import Derived.ShutString
import Derived.Handy
import Derived.Lib.Hide
import Derived.Laws.Rows
import Derived.Test.YtchapkjpagoceaaArT
namespace Go.Proofs.Ytchapkjpagoceaa.arithTells
open Go.ChangeShapes Go.WideShapes Go.ChangeAt Go.RowKit
open Go.ChangeMaps (open_string shut_string)
set_option linter.unusedVariables false      -- a walk need not use every 'w<i>' (that an integer argument fits its kind)
theorem cell_row {w : World} {b : Nat} {cs : Array Value} {t : TypeId} (h : w.heap[b]? = some (.cells cs t (0, 0))) (i : Nat) : w.cell? ⟨b, i, none⟩ = cs[i]? := by
  simp [World.cell?, h]
theorem six_at (a b c d e f : Int) (k : Nat) (h : k < 6) : ∃ y : Int, (#[.int .i64 a, .int .i64 b, .int .i64 c, .int .i64 d, .int .i64 e, .int .i64 f] : Array Value)[k]? = some (.int .i64 y) := by
  rcases (show k = 0 ∨ k = 1 ∨ k = 2 ∨ k = 3 ∨ k = 4 ∨ k = 5 by omega) with rfl | rfl | rfl | rfl | rfl | rfl
  all_goals exact ⟨_, rfl⟩
theorem two_at (a b : Int) (k : Nat) (h : k < 2) : ∃ y : Int, (#[.int .i64 a, .int .i64 b] : Array Value)[k]? = some (.int .i64 y) := by
  rcases (show k = 0 ∨ k = 1 by omega) with rfl | rfl
  all_goals exact ⟨_, rfl⟩
theorem heap_new (w : World) (o : Obj) : (w.alloc o).heap[w.heap.size]? = some o := by show (w.heap.push o)[w.heap.size]? = _; simp

set_option maxHeartbeats 2000000 in
set_option maxRecDepth 100000 in
theorem walk (a0 : Int) (a1 : Int) (a2 : Int) (w0 : (Lit.int .i64 a0).wf = true) (w1 : (Lit.int .i64 a1).wf = true) (w2 : (Lit.int .i64 a2).wf = true) (w : World) :
    Calls Try.prog 3 #[.int .i64 a0, .int .i64 a1, .int .i64 a2] w fun e w' => e = .returned (.bool true) ∧ Below w.heap.size w w' := by
  have b0 := bounds_i64 w0
  have hp := Lib.hid (fun w => pick_any a0 21 w b0.1 b0.2 (by omega))
  generalize pickN a0 21 = p at *
  clear b0 w0 w1 w2
  go_enter Try.func3, Try.ntmps3
  go_wp2_with fail
  refine (awake_any _).mono ?_; rintro e w1 ⟨rfl, g1⟩
  go_wp2_with fail
  refine (hp.out _).mono ?_; rintro e w' ⟨rfl, rfl⟩
  go_wp2_with fail
  go_loopw [30] (fun i wr => ∃ k : Nat, k ≤ 2 ∧ i = .int .i64 k ∧ Below (w1.heap.size + 1) (w1.alloc (.cells #[.int .i64 a0, .int .i64 p] 3)) wr) (fun i _ => 2 - (intOf i).toNat)
  case atStart => exact ⟨0, by omega, rfl, Below.refl _ _⟩
  case round =>
    obtain ⟨k, hk, rfl, hb⟩ := hrel
    by_cases hlt : k < 2
    · have hblk := (hb.block w1.heap.size (by omega)).trans (heap_new _ _)
      obtain ⟨o, ho⟩ := two_at a0 p k hlt
      have hc := (cell_row hblk k).trans ho
      clear hblk ho
      have hd : decide ((k : Int) < 2) = true := decide_eq_true (by omega)
      have hsz := hb.size
      simp only [World.size_alloc] at hsz
      obtain ⟨wo, rfl⟩ : ∃ wo : World, wo = wr := ⟨_, rfl⟩
      go_wp2_with fail
      go_loopw [38] (fun i wi => ∃ j : Nat, j ≤ 6 ∧ i = .int .i64 j ∧ Below (wo.heap.size + 1) (wo.alloc (.cells #[.int .i64 a2, .int .i64 a1, .int .i64 0, .int .i64 1, .int .i64 (-1), .int .i64 (-9223372036854775808)] 3)) wi) (fun i _ => 6 - (intOf i).toNat)
      case atStart => exact ⟨0, by omega, rfl, Below.refl _ _⟩
      case round =>
        obtain ⟨j, hj, rfl, hbi⟩ := hrel
        by_cases hlj : j < 6
        · have hblk := (hbi.block wo.heap.size (by omega)).trans (heap_new _ _)
          obtain ⟨y, hy⟩ := six_at a2 a1 0 1 (-1) (-9223372036854775808) j hlj
          have hcj := (cell_row hblk j).trans hy
          clear hblk hy
          have hsi := hbi.size
          simp only [World.size_alloc] at hsi
          go_wp2_with fail
          refine (two_any _ _ _ _).mono ?_; rintro e w2 ⟨rfl, g2⟩
          go_wp2_with fail
          refine (rtwo_any _ _ _ _).mono ?_; rintro e w3 ⟨rfl, g3⟩
          go_wp2_with (first | (go_at_call 17; refine (div_any _ _ _).mono ?_; rintro e w' ⟨rfl, rfl⟩) | (go_at_call 18; refine (rdiv_any _ _ _).mono ?_; rintro e w' ⟨rfl, rfl⟩) | (go_at_call 19; refine (rem_any _ _ _).mono ?_; rintro e w' ⟨rfl, rfl⟩) | (go_at_call 20; refine (rrem_any _ _ _).mono ?_; rintro e w' ⟨rfl, rfl⟩) | (go_at_call 21; refine (less_any _ _ _).mono ?_; rintro e w' ⟨rfl, rfl⟩) | (go_at_call 22; refine (rless_any _ _ _).mono ?_; rintro e w' ⟨rfl, rfl⟩))
          go_roundw
          case rel => first | exact ⟨j + 1, by omega, by go_num, hbi.trans ((ext_trans g2 g3).mono (by omega))⟩ | ((repeat apply Exists.intro); exact ⟨⟨j + 1, by omega, by go_num, hbi.trans ((ext_trans g2 g3).mono (by omega))⟩, rfl⟩)
          case measure => simp [intOf]; omega
        · obtain rfl : j = 6 := by omega
          have hsi := hbi.size
          simp only [World.size_alloc] at hsi
          go_wp2_with fail
          refine (one_any _ _ _).mono ?_; rintro e w2 ⟨rfl, g2⟩
          go_wp2_with fail
          refine (rone_any _ _ _).mono ?_; rintro e w3 ⟨rfl, g3⟩
          go_wp2_with fail
          refine (sign_any _ _).mono ?_; rintro e w4 ⟨rfl, g4⟩
          go_wp2_with fail
          refine (rsign_any _ _).mono ?_; rintro e w5 ⟨rfl, g5⟩
          go_wp2_with fail
          refine (level_any _ _).mono ?_; rintro e w6 ⟨rfl, g6⟩
          go_wp2_with fail
          refine (rlevel_any _ _).mono ?_; rintro e w7 ⟨rfl, g7⟩
          go_wp2_with fail
          go_roundw
          case rel => exact ⟨k + 1, by omega, by go_num, (hb.alloc (by omega) _).trans ((hbi.mono (by omega)).trans ((ext_trans (ext_trans (ext_trans (ext_trans (ext_trans g2 g3) g4) g5) g6) g7).mono (by omega)))⟩
          case measure => simp [intOf]; omega
    · go_wp2_with fail
      go_ret
      exact ⟨rfl, (ext_alloc g1 _).trans (hb.mono (by have := g1.size; omega))⟩


end Go.Proofs.Ytchapkjpagoceaa.arithTells
