/- The walk of the law 'counterproof/counterprooflaw01.ArithOrder': the call answers true and leaves what was there as it was. -/
import Derived.Test.YtchapkjpagoceaaRows
import Derived.WalkKit
import Derived.ProofKit
import Derived.OpenShut
import Derived.ShutString
import Derived.Handy
import Derived.Lib.Hide
import Derived.Laws.Rows
import Derived.Test.YtchapkjpagoceaaArE
namespace Go.Proofs.Ytchapkjpagoceaa.arithOrder
open Go.ChangeShapes Go.WideShapes Go.ChangeAt Go.RowKit
open Go.ChangeMaps (open_string shut_string)
set_option linter.unusedVariables false      -- a walk need not use every 'w<i>' (that an integer argument fits its kind)
theorem six {k : Int} (h1 : 11 ≤ k) (h2 : k ≤ 16) : k = 11 ∨ k = 12 ∨ k = 13 ∨ k = 14 ∨ k = 15 ∨ k = 16 := by omega
theorem ord_all (k a b : Int) (w : World) (h1 : 11 ≤ k) (h2 : k ≤ 16) :
    Calls Try.prog 15 #[.int .i64 k, .int .i64 a, .int .i64 b] w fun e w' => e = .returned (.tuple #[.int .i64 (twoV k a b), .bool true]) ∧ Below w.heap.size w w' := by
  rcases six h1 h2 with rfl | rfl | rfl | rfl | rfl | rfl
  · exact two_11 a b w
  · exact two_12 a b w
  · exact two_13 a b w
  · exact two_14 a b w
  · exact two_15 a b w
  · exact two_16 a b w
theorem bi_and (c : Bool) : bi c = 0 ∨ bi c = 1 := by cases c <;> simp [bi]
theorem ord (a b : Int) : ∃ V : Int → Int,
    (∀ o w, 11 ≤ o → o ≤ 16 → Calls Try.prog 15 #[.int .i64 o, .int .i64 a, .int .i64 b] w fun e w' => e = .returned (.tuple #[.int .i64 (V o), .bool true]) ∧ Below w.heap.size w w') ∧
    (∀ w, Calls Try.prog 15 #[.int .i64 11, .int .i64 b, .int .i64 a] w fun e w' => e = .returned (.tuple #[.int .i64 (V 13), .bool true]) ∧ Below w.heap.size w w') ∧
    (∀ o, 11 ≤ o → o ≤ 16 → V o = 0 ∨ V o = 1) ∧ V 11 + V 15 + V 13 = 1 ∧ V 12 = 1 - V 13 ∧ V 14 = 1 - V 11 ∧ V 16 = 1 - V 15 := by
  refine ⟨fun o => twoV o a b, fun o w h1 h2 => ord_all o a b w h1 h2, fun w => two_11 b a w, fun o h1 h2 => ?_, ?_⟩
  · show twoV o a b = 0 ∨ twoV o a b = 1
    rcases six h1 h2 with rfl | rfl | rfl | rfl | rfl | rfl
    all_goals exact bi_and _
  · show bi (decide (a < b)) + bi (a == b) + bi (decide (b < a)) = 1 ∧ bi (decide (a ≤ b)) = 1 - bi (decide (b < a)) ∧ bi (decide (b ≤ a)) = 1 - bi (decide (a < b)) ∧ bi (a != b) = 1 - bi (a == b)
    rcases Int.lt_trichotomy a b with h | h | h
    · rw [decide_eq_true h, decide_eq_true (show a ≤ b by omega), decide_eq_false (show ¬ b < a by omega), decide_eq_false (show ¬ b ≤ a by omega), show (a == b) = false by simp; omega, show (a != b) = true by simp; omega]
      decide
    · subst h
      rw [decide_eq_false (show ¬ a < a by omega), decide_eq_true (show a ≤ a by omega), show (a == a) = true by simp, show (a != a) = false by simp]
      decide
    · rw [decide_eq_false (show ¬ a < b by omega), decide_eq_false (show ¬ a ≤ b by omega), decide_eq_true h, decide_eq_true (show b ≤ a by omega), show (a == b) = false by simp; omega, show (a != b) = true by simp; omega]
      decide
/-- The seventeen numbers behind k rounds. -/
def ordA (V : Int → Int) : Nat → Array Value
  | 0 => #[.int .i64 0, .int .i64 0, .int .i64 0, .int .i64 0, .int .i64 0, .int .i64 0, .int .i64 0, .int .i64 0, .int .i64 0, .int .i64 0, .int .i64 0, .int .i64 0, .int .i64 0, .int .i64 0, .int .i64 0, .int .i64 0, .int .i64 0]
  | k + 1 => (ordA V k).setIfInBounds (11 + k) (.int .i64 (V (11 + (k : Int))))
theorem ordA_next (V : Int → Int) (k : Nat) (h : k < 6) : (ordA V k)[11 + k]? = some (.int .i64 0) := by
  rcases (show k = 0 ∨ k = 1 ∨ k = 2 ∨ k = 3 ∨ k = 4 ∨ k = 5 by omega) with rfl | rfl | rfl | rfl | rfl | rfl
  all_goals rfl
theorem ordA_end (V : Int → Int) : (ordA V 6)[11]? = some (.int .i64 (V 11)) ∧ (ordA V 6)[12]? = some (.int .i64 (V 12)) ∧ (ordA V 6)[13]? = some (.int .i64 (V 13)) ∧
    (ordA V 6)[14]? = some (.int .i64 (V 14)) ∧ (ordA V 6)[15]? = some (.int .i64 (V 15)) ∧ (ordA V 6)[16]? = some (.int .i64 (V 16)) := by simp [ordA]
theorem cell_row {w : World} {b : Nat} {cs : Array Value} {t : TypeId} (h : w.heap[b]? = some (.cells cs t (0, 0))) (i : Nat) : w.cell? ⟨b, i, none⟩ = cs[i]? := by
  simp [World.cell?, h]

set_option maxHeartbeats 1000000 in
theorem walk (a0 : Int) (a1 : Int) (w0 : (Lit.int .i64 a0).wf = true) (w1 : (Lit.int .i64 a1).wf = true) (w : World) :
    Calls Try.prog 5 #[.int .i64 a0, .int .i64 a1] w fun e w' => e = .returned (.bool true) ∧ Below w.heap.size w w' := by
  clear w0 w1
  obtain ⟨V, hc, hd, h01, f1, f2, f3, f4⟩ := ord a0 a1
  have HC := Lib.hid hc; have HD := Lib.hid hd; have H01 := Lib.hid h01
  clear hc hd h01
  have F1 := Lib.hid f1; have F2 := Lib.hid f2; have F3 := Lib.hid f3; have F4 := Lib.hid f4
  clear f1 f2 f3 f4
  go_enter Try.func5, Try.ntmps5
  go_wp2_with fail
  refine (awake_any _).mono ?_; rintro e w1 ⟨rfl, g1⟩
  go_wp2_with fail
  go_loopw [7] (fun i wr => ∃ k : Nat, k ≤ 6 ∧ i = .int .i64 (11 + k) ∧ w1.heap.size < wr.heap.size ∧ Below w1.heap.size w1 wr ∧ wr.heap[w1.heap.size]? = some (.cells (ordA V k) 33 (0, 0))) (fun i _ => 17 - (intOf i).toNat)
  case atStart => exact ⟨0, by omega, rfl, by simp, (Below.refl _ _).alloc (Nat.le_refl _) _, by show (w1.heap.push _)[w1.heap.size]? = _; simp [ordA]⟩
  case round =>
    obtain ⟨k, hk, rfl, hz, hb, hblk⟩ := hrel
    by_cases hlt : k < 6
    · rcases H01.out (11 + k) (by omega) (by omega) with hv | hv
      all_goals
        have hv0 : (V (11 + k) != 0) = false ∨ ((V (11 + k) != 0) = true ∧ (V (11 + k) != 1) = false) := by rw [hv]; decide
        clear hv
        rcases hv0 with hv0 | ⟨hv0, hv1⟩
        all_goals
          have HB := Lib.hid hblk
          clear hblk
          go_wp2_with fail
          refine (HC.out _ _ (by omega) (by omega)).mono ?_; rintro e w2 ⟨rfl, g2⟩
          have hblk2 := (g2.block w1.heap.size hz).trans HB.out
          have hc2 := (cell_row hblk2 (11 + k)).trans (ordA_next V k hlt)
          have hf2 := frozen_of_row w2 w1.heap.size (11 + k) _ _ hblk2
          have HB2 := Lib.hid hblk2
          clear hblk2
          have hz2 := g2.size
          go_wp2_with fail
          go_roundw
          case rel => exact ⟨k + 1, by omega, by go_num, by simp; omega, (hb.trans (g2.mono (by omega))).setCell (by simp) _, (heap_setCell_same _ _ _ _ _ _ HB2.out).trans rfl⟩
          case measure => simp [intOf]; omega
    · obtain rfl : k = 6 := by omega
      have HB := Lib.hid hblk
      clear hblk
      go_wp2_with fail
      refine (HD.out _).mono ?_; rintro e w2 ⟨rfl, g2⟩
      have hblk2 := (g2.block w1.heap.size hz).trans HB.out
      have c11 : w2.cell? ⟨w1.heap.size, 11, none⟩ = some (.int .i64 (V 11)) := (cell_row hblk2 11).trans (ordA_end V).1
      have c12 : w2.cell? ⟨w1.heap.size, 12, none⟩ = some (.int .i64 (V 12)) := (cell_row hblk2 12).trans (ordA_end V).2.1
      have c13 : w2.cell? ⟨w1.heap.size, 13, none⟩ = some (.int .i64 (V 13)) := (cell_row hblk2 13).trans (ordA_end V).2.2.1
      have c14 : w2.cell? ⟨w1.heap.size, 14, none⟩ = some (.int .i64 (V 14)) := (cell_row hblk2 14).trans (ordA_end V).2.2.2.1
      have c15 : w2.cell? ⟨w1.heap.size, 15, none⟩ = some (.int .i64 (V 15)) := (cell_row hblk2 15).trans (ordA_end V).2.2.2.2.1
      have c16 : w2.cell? ⟨w1.heap.size, 16, none⟩ = some (.int .i64 (V 16)) := (cell_row hblk2 16).trans (ordA_end V).2.2.2.2.2
      clear hblk2
      have v11 : 0 ≤ V 11 ∧ V 11 ≤ 1 := by have := H01.out 11 (by omega) (by omega); omega
      have v13 : 0 ≤ V 13 ∧ V 13 ≤ 1 := by have := H01.out 13 (by omega) (by omega); omega
      have v15 : 0 ≤ V 15 ∧ V 15 ≤ 1 := by have := H01.out 15 (by omega) (by omega); omega
      obtain ⟨l11, u11⟩ := v11
      obtain ⟨l13, u13⟩ := v13
      obtain ⟨l15, u15⟩ := v15
      have t1 : (V 11 + V 15 + V 13 == 1) = true := by rw [F1.out]; rfl
      have t2 : (V 12 == 1 - V 13) = true := by rw [F2.out]; simp
      have t3 : (V 14 == 1 - V 11) = true := by rw [F3.out]; simp
      have t4 : (V 16 == 1 - V 15) = true := by rw [F4.out]; simp
      go_wp2_with fail
      go_ret
      exact ⟨rfl, g1.trans ((hb.mono g1.size).trans (g2.mono (by have := g1.size; omega)))⟩


end Go.Proofs.Ytchapkjpagoceaa.arithOrder
