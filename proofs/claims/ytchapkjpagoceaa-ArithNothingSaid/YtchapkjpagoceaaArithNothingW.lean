/- The walk of the law 'counterproof/counterprooflaw01.ArithNothing': the call answers true and leaves what was there as it was. -/
import Derived.Test.YtchapkjpagoceaaRows
import Derived.WalkKit
import Derived.ProofKit
import Derived.OpenShut
import Derived.ShutString
import Derived.Handy
import Derived.Lib.Hide
import Derived.Test.YtchapkjpagoceaaArE
namespace Go.Proofs.Ytchapkjpagoceaa.arithNothing
open Go.ChangeShapes Go.WideShapes Go.ChangeAt Go.RowKit
open Go.ChangeMaps (open_string shut_string)
set_option linter.unusedVariables false      -- a walk need not use every 'w<i>' (that an integer argument fits its kind)
theorem cells_at {w : World} {b : Nat} {x y z : Value} {t : TypeId} (h : w.heap[b]? = some (.cells #[x, y, z] t (0, 0))) :
    w.cell? ⟨b, 0, none⟩ = some x ∧ w.cell? ⟨b, 1, none⟩ = some y ∧ w.cell? ⟨b, 2, none⟩ = some z := by
  simp [World.cell?, h]

theorem walk (a0 : Int) (a1 : Int) (a2 : Int) (w0 : (Lit.int .i64 a0).wf = true) (w1 : (Lit.int .i64 a1).wf = true) (w2 : (Lit.int .i64 a2).wf = true) (w : World) :
    Calls Try.prog 12 #[.int .i64 a0, .int .i64 a1, .int .i64 a2] w fun e w' => e = .returned (.bool true) ∧ Below w.heap.size w w' := by
  have b0 := bounds_i64 w0
  have p1 := pickN_lo a0 1099511627776 (by omega)
  have p2 := pickN_hi a0 1099511627776 (by omega)
  have hp := Lib.hid (fun w => pick_any a0 1099511627776 w b0.1 b0.2 (by omega))
  generalize pickN a0 1099511627776 = p at *
  clear b0 w0 w1 w2
  go_enter Try.func12, Try.ntmps12
  go_wp2_with fail
  refine (awake_any _).mono ?_; rintro e w1 ⟨rfl, g1⟩
  go_wp2_with fail
  refine (hp.out _).mono ?_; rintro e w' ⟨rfl, rfl⟩
  go_wp2_with fail
  go_loopw [26] (fun i wr => ∃ k : Nat, k ≤ 3 ∧ i = .int .i64 k ∧ Below (w1.heap.size + 1) (w1.alloc (.cells #[.int .i64 (20 + p), .int .i64 (-(20 + p)), .int .i64 0] 3)) wr) (fun i _ => 3 - (intOf i).toNat)
  case atStart => exact ⟨0, by omega, rfl, Below.refl _ _⟩
  case round =>
    obtain ⟨k, hk, rfl, hb⟩ := hrel
    have hblk := hb.block w1.heap.size (by omega)
    have hblk' : wr.heap[w1.heap.size]? = some (.cells #[.int .i64 (20 + p), .int .i64 (-(20 + p)), .int .i64 0] 3 (0, 0)) := by
      rw [hblk]; show (w1.heap.push _)[w1.heap.size]? = _; simp
    clear hblk
    by_cases hlt : k < 3
    · obtain ⟨c0, c1, c2⟩ := cells_at hblk'
      obtain ⟨x, hx, hc⟩ : ∃ x : Int, (x < 1 ∨ 19 < x) ∧ wr.cell? ⟨w1.heap.size, k, none⟩ = some (.int .i64 x) := by
        rcases (show k = 0 ∨ k = 1 ∨ k = 2 by omega) with rfl | rfl | rfl
        · exact ⟨_, by omega, c0⟩
        · exact ⟨_, by omega, c1⟩
        · exact ⟨_, by omega, c2⟩
      clear hblk' c0 c1 c2
      have H1 := Lib.hid (show x < 1 ∨ 16 < x by omega)
      have H2 := Lib.hid (show x < 17 ∨ 19 < x by omega)
      have H3 := Lib.hid hx
      clear hx
      go_wp2_with fail
      refine (two_no _ _ _ _ H1.out).mono ?_; rintro e w3 ⟨rfl, g3⟩
      go_wp2_with fail
      refine (one_no _ _ _ H2.out).mono ?_; rintro e w4 ⟨rfl, g4⟩
      go_wp2_with fail
      refine (sign_no _ _ H3.out).mono ?_; rintro e w5 ⟨rfl, g5⟩
      go_wp2_with fail
      refine (level_no _ _ H1.out).mono ?_; rintro e w6 ⟨rfl, g6⟩
      go_wp2_with fail
      go_roundw
      case rel => exact ⟨k + 1, by omega, by go_num, hb.trans ((ext_trans (ext_trans (ext_trans g3 g4) g5) g6).mono (by have := hb.size; simpa using this))⟩
      case measure => simp [intOf]; omega
    · clear hblk'
      go_wp2_with fail
      go_ret
      exact ⟨rfl, (ext_alloc g1 _).trans (hb.mono (by have := g1.size; omega))⟩


end Go.Proofs.Ytchapkjpagoceaa.arithNothing
