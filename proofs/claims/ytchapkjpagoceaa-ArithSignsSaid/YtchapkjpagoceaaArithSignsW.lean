/- The walk of the law 'counterproof/counterprooflaw01.ArithSigns': the call answers true and leaves what was there as it was. -/
import Derived.Test.YtchapkjpagoceaaRows
import Derived.WalkKit
import Derived.ProofKit
import Derived.OpenShut
import Derived.ShutString
import Derived.Handy
import Derived.Lib.Hide
import Derived.Test.YtchapkjpagoceaaArE
namespace Go.Proofs.Ytchapkjpagoceaa.arithSigns
open Go.ChangeShapes Go.WideShapes Go.ChangeAt Go.RowKit
open Go.ChangeMaps (open_string shut_string)
set_option linter.unusedVariables false      -- a walk need not use every 'w<i>' (that an integer argument fits its kind)
/-- What Sign tells of the sixteen operators of two numbers. -/
def signL (k : Int) : ByteArray :=
  if k = 1 then ⟨#[43]⟩ else if k = 2 then ⟨#[45]⟩ else if k = 3 then ⟨#[42]⟩ else if k = 4 then ⟨#[47]⟩ else if k = 5 then ⟨#[37]⟩ else if k = 6 then ⟨#[38]⟩
  else if k = 7 then ⟨#[124]⟩ else if k = 8 then ⟨#[94]⟩ else if k = 9 then ⟨#[60, 60]⟩ else if k = 10 then ⟨#[62, 62]⟩ else if k = 11 then ⟨#[60]⟩ else if k = 12 then ⟨#[60, 61]⟩
  else if k = 13 then ⟨#[62]⟩ else if k = 14 then ⟨#[62, 61]⟩ else if k = 15 then ⟨#[61, 61]⟩ else ⟨#[33, 61]⟩
def levelL (k : Int) : Int := if k = 1 ∨ k = 2 then 7 else if k = 3 ∨ k = 4 ∨ k = 5 then 8 else if k = 6 then 3 else if k = 7 then 1 else if k = 8 then 2 else if k = 9 ∨ k = 10 then 6 else if k ≤ 14 then 5 else 4
theorem sixteen {k : Int} (h1 : 1 ≤ k) (h2 : k ≤ 16) : k = 1 ∨ k = 2 ∨ k = 3 ∨ k = 4 ∨ k = 5 ∨ k = 6 ∨ k = 7 ∨ k = 8 ∨ k = 9 ∨ k = 10 ∨ k = 11 ∨ k = 12 ∨ k = 13 ∨ k = 14 ∨ k = 15 ∨ k = 16 := by omega
theorem sign_all (k : Int) (w : World) (h1 : 1 ≤ k) (h2 : k ≤ 16) :
    Calls Try.prog 25 #[.int .i64 k] w fun e w' => e = .returned (.tuple #[.string (signL k), .bool true]) ∧ Below w.heap.size w w' := by
  rcases sixteen h1 h2 with rfl | rfl | rfl | rfl | rfl | rfl | rfl | rfl | rfl | rfl | rfl | rfl | rfl | rfl | rfl | rfl
  · exact sign_1 w
  · exact sign_2 w
  · exact sign_3 w
  · exact sign_4 w
  · exact sign_5 w
  · exact sign_6 w
  · exact sign_7 w
  · exact sign_8 w
  · exact sign_9 w
  · exact sign_10 w
  · exact sign_11 w
  · exact sign_12 w
  · exact sign_13 w
  · exact sign_14 w
  · exact sign_15 w
  · exact sign_16 w
theorem level_all (k : Int) (w : World) (h1 : 1 ≤ k) (h2 : k ≤ 16) :
    Calls Try.prog 27 #[.int .i64 k] w fun e w' => e = .returned (.int .i64 (levelL k)) ∧ Below w.heap.size w w' := by
  rcases sixteen h1 h2 with rfl | rfl | rfl | rfl | rfl | rfl | rfl | rfl | rfl | rfl | rfl | rfl | rfl | rfl | rfl | rfl
  · exact level_1 w
  · exact level_2 w
  · exact level_3 w
  · exact level_4 w
  · exact level_5 w
  · exact level_6 w
  · exact level_7 w
  · exact level_8 w
  · exact level_9 w
  · exact level_10 w
  · exact level_11 w
  · exact level_12 w
  · exact level_13 w
  · exact level_14 w
  · exact level_15 w
  · exact level_16 w
theorem two_11 (k : Int) (w : World) (h1 : 1 ≤ k) (h2 : k ≤ 16) :
    Calls Try.prog 15 #[.int .i64 k, .int .i64 1, .int .i64 1] w fun e w' => ∃ v, e = .returned (.tuple #[.int .i64 v, .bool true]) ∧ Below w.heap.size w w' := by
  rcases sixteen h1 h2 with rfl | rfl | rfl | rfl | rfl | rfl | rfl | rfl | rfl | rfl | rfl | rfl | rfl | rfl | rfl | rfl
  · exact (two_1 1 1 w).mono fun _ _ h => ⟨_, h⟩
  · exact (two_2 1 1 w).mono fun _ _ h => ⟨_, h⟩
  · exact (two_3 1 1 w).mono fun _ _ h => ⟨_, h⟩
  · exact (two_4 1 1 w (by decide)).mono fun _ _ h => ⟨_, h⟩
  · exact (two_5 1 1 w (by decide)).mono fun _ _ h => ⟨_, h⟩
  · exact (two_6 1 1 w).mono fun _ _ h => ⟨_, h⟩
  · exact (two_7 1 1 w).mono fun _ _ h => ⟨_, h⟩
  · exact (two_8 1 1 w).mono fun _ _ h => ⟨_, h⟩
  · exact (two_9 1 1 w).mono fun _ _ h => ⟨_, h⟩
  · exact (two_10 1 1 w).mono fun _ _ h => ⟨_, h⟩
  · exact (Proofs.Ytchapkjpagoceaa.two_11 1 1 w).mono fun _ _ h => ⟨_, h⟩
  · exact (two_12 1 1 w).mono fun _ _ h => ⟨_, h⟩
  · exact (two_13 1 1 w).mono fun _ _ h => ⟨_, h⟩
  · exact (two_14 1 1 w).mono fun _ _ h => ⟨_, h⟩
  · exact (two_15 1 1 w).mono fun _ _ h => ⟨_, h⟩
  · exact (two_16 1 1 w).mono fun _ _ h => ⟨_, h⟩
theorem unlike (k l : Int) (h1 : 1 ≤ k) (h2 : k ≤ 16) (h3 : 1 ≤ l) (h4 : l ≤ 16) : ((signL k).toList == (signL l).toList) = (k == l) := by
  rcases sixteen h1 h2 with rfl | rfl | rfl | rfl | rfl | rfl | rfl | rfl | rfl | rfl | rfl | rfl | rfl | rfl | rfl | rfl
  all_goals rcases sixteen h3 h4 with rfl | rfl | rfl | rfl | rfl | rfl | rfl | rfl | rfl | rfl | rfl | rfl | rfl | rfl | rfl | rfl
  all_goals kernel_rfl
theorem level_bd (k : Int) (h1 : 1 ≤ k) (h2 : k ≤ 16) : 1 ≤ levelL k ∧ levelL k ≤ 8 := by
  rcases sixteen h1 h2 with rfl | rfl | rfl | rfl | rfl | rfl | rfl | rfl | rfl | rfl | rfl | rfl | rfl | rfl | rfl | rfl
  all_goals decide

theorem walk (a0 : Int) (a1 : Int) (w0 : (Lit.int .i64 a0).wf = true) (w1 : (Lit.int .i64 a1).wf = true) (w : World) :
    Calls Try.prog 7 #[.int .i64 a0, .int .i64 a1] w fun e w' => e = .returned (.bool true) ∧ Below w.heap.size w w' := by
  have b0 := bounds_i64 w0
  have b1 := bounds_i64 w1
  have p1 := pickN_lo a0 16 (by omega)
  have p2 := pickN_hi a0 16 (by omega)
  have p3 := pickN_lo a1 16 (by omega)
  have p4 := pickN_hi a1 16 (by omega)
  have hp := Lib.hid (fun w => pick_any a0 16 w b0.1 b0.2 (by omega))
  have hq := Lib.hid (fun w => pick_any a1 16 w b1.1 b1.2 (by omega))
  generalize pickN a0 16 = p at *
  generalize pickN a1 16 = q at *
  clear b0 b1 w0 w1
  have hs := unlike (1 + p) (1 + q) (by omega) (by omega) (by omega) (by omega)
  have hl := level_bd (1 + p) (by omega) (by omega)
  obtain ⟨hl1, hl2⟩ := hl
  have hpq : ((1 + p == 1 + q) = true ∧ ((signL (1 + p)).toList == (signL (1 + q)).toList) = true) ∨ ((1 + p == 1 + q) = false ∧ ((signL (1 + p)).toList == (signL (1 + q)).toList) = false) := by
    rw [hs]; cases (1 + p == 1 + q) <;> simp
  clear hs
  rcases hpq with ⟨h1, h2⟩ | ⟨h1, h2⟩
  all_goals
    go_enter Try.func7, Try.ntmps7
    go_wp2_with fail
    refine (awake_any _).mono ?_; rintro e w1 ⟨rfl, g1⟩
    go_wp2_with fail
    refine (hp.out _).mono ?_; rintro e w' ⟨rfl, rfl⟩
    go_wp2_with fail
    refine (hq.out _).mono ?_; rintro e w' ⟨rfl, rfl⟩
    go_wp2_with fail
    refine (sign_all _ _ (by omega) (by omega)).mono ?_; rintro e w2 ⟨rfl, g2⟩
    go_wp2_with fail
    refine (sign_all _ _ (by omega) (by omega)).mono ?_; rintro e w3 ⟨rfl, g3⟩
    go_wp2_with fail
    refine (one_no _ _ _ (by omega)).mono ?_; rintro e w4 ⟨rfl, g4⟩
    go_wp2_with fail
    refine (two_11 _ _ (by omega) (by omega)).mono ?_; rintro e w5 ⟨v, rfl, g5⟩
    go_wp2_with fail
    refine (level_all _ _ (by omega) (by omega)).mono ?_; rintro e w6 ⟨rfl, g6⟩
    go_wp2_with fail
    refine (level_all _ _ (by omega) (by omega)).mono ?_; rintro e w7 ⟨rfl, g7⟩
    go_wp2_with fail
    refine (level_no _ _ (by omega)).mono ?_; rintro e w8 ⟨rfl, g8⟩
    go_wp2_with fail
    go_ret
    exact ⟨rfl, ext_trans (ext_trans (ext_trans (ext_trans (ext_trans (ext_trans (ext_trans g1 g2) g3) g4) g5) g6) g7) g8⟩


end Go.Proofs.Ytchapkjpagoceaa.arithSigns
