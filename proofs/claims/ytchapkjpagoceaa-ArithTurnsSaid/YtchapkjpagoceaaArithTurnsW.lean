/- The walk of the law 'counterproof/counterprooflaw01.ArithTurns': the call answers true and leaves what was there as it was. -/
import Derived.Test.YtchapkjpagoceaaRows
import Derived.WalkKit
import Derived.ProofKit
import Derived.OpenShut
import Derived.ShutString
import Derived.Handy
import Derived.Lib.Hide
import Derived.Test.YtchapkjpagoceaaArE
namespace Go.Proofs.Ytchapkjpagoceaa.arithTurns
open Go.ChangeShapes Go.WideShapes Go.ChangeAt Go.RowKit
open Go.ChangeMaps (open_string shut_string)
set_option linter.unusedVariables false      -- a walk need not use every 'w<i>' (that an integer argument fits its kind)
theorem inv_lin (a : Int) (h1 : -9223372036854775808 ≤ a) (h2 : a ≤ 9223372036854775807) : bits .xor .i64 (-1) a = -1 - a := by
  have h : (BitVec.ofInt 64 (-1) ^^^ BitVec.ofInt 64 a) = BitVec.ofInt 64 (-1 - a) := by
    have e : BitVec.ofInt 64 (-1) = BitVec.allOnes 64 := by decide
    rw [e, BitVec.allOnes_xor, BitVec.not_eq_neg_add, ← BitVec.ofInt_neg, show (-1 - a) = -a + (-1) by omega, BitVec.ofInt_add, e, ← BitVec.neg_one_eq_allOnes, BitVec.sub_eq_add_neg]
  show IntKind.i64.wrap ((BitVec.ofInt 64 (-1) ^^^ BitVec.ofInt 64 a).toNat : Nat) = -1 - a
  rw [h, BitVec.toNat_ofInt, IntKind.wrap_i64]
  omega

theorem walk (a0 : Int) (w0 : (Lit.int .i64 a0).wf = true) (w : World) :
    Calls Try.prog 11 #[.int .i64 a0] w fun e w' => e = .returned (.bool true) ∧ Below w.heap.size w w' := by
  have b0 := bounds_i64 w0
  have i1 := inv_lin a0 b0.1 b0.2
  have i2 := inv_lin (-1 - a0) (by omega) (by omega)
  have e1 : bits .xor .i64 (-1) (bits .xor .i64 (-1) a0) = a0 := by rw [i1, i2]; omega
  have e2 : wrap64 (-(wrap64 (-a0))) = a0 := by unfold wrap64; omega
  have e3 : (bits .xor .i64 (-1) a0 == wrap64 (wrap64 (-a0) - 1)) = true := by rw [beq_iff_eq, i1]; unfold wrap64; omega
  have hb1 : bi true = 1 := rfl
  have hb0 : bi false = 0 := rfl
  clear i1 i2 w0
  cases ez : (a0 == 0)
  all_goals
    go_enter Try.func11, Try.ntmps11
    go_wp2_with fail
    refine (awake_any _).mono ?_; rintro e w1 ⟨rfl, g1⟩
    go_wp2_with fail
    refine (one_19 _ _).mono ?_; rintro e w2 ⟨rfl, g2⟩
    go_wp2_with fail
    refine (one_19 _ _).mono ?_; rintro e w3 ⟨rfl, g3⟩
    go_wp2_with fail
    refine (one_17 _ _).mono ?_; rintro e w4 ⟨rfl, g4⟩
    go_wp2_with fail
    refine (one_17 _ _).mono ?_; rintro e w5 ⟨rfl, g5⟩
    go_wp2_with fail
    refine (one_18 _ _).mono ?_; rintro e w6 ⟨rfl, g6⟩
    go_wp2_with fail
    refine (one_18 _ _).mono ?_; rintro e w7 ⟨rfl, g7⟩
    go_wp2_with fail
    go_ret
    exact ⟨rfl, ext_trans (ext_trans (ext_trans (ext_trans (ext_trans (ext_trans g1 g2) g3) g4) g5) g6) g7⟩


end Go.Proofs.Ytchapkjpagoceaa.arithTurns
