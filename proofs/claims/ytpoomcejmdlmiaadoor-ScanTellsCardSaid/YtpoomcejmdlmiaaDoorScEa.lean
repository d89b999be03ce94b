/- The document's own answer: its small functions. -/
import Derived.Test.YtpoomcejmdlmiaaDoorRows
import Derived.WalkKit
import Derived.ProofKit
import Derived.OpenShut
import Derived.WalkLawsBesides
import Derived.WalkSpells
import Derived.Outline
import Derived.Handy
import Derived.Lib.Hide
import Derived.Lib.OthersKept
import Derived.KernelRfl
import Derived.Test.YtpoomcejmdlmiaaDoorScU
namespace Go.Proofs.YtpoomcejmdlmiaaDoor
open Go.ChangeShapes Go.WideShapes Go.ChangeAt Go.RowKit
set_option linter.unusedVariables false
theorem rdigit_any (r : Int) (w : World) : Calls Tryd.prog 20 #[.int .u8 r] w fun e w' => e = .returned (.bool (digitR r)) ∧ w = w' := by
  have hc : (r < 48 ∧ digitR r = false) ∨ ((48 ≤ r ∧ r ≤ 57) ∧ digitR r = true) ∨ (57 < r ∧ digitR r = false) := by unfold digitR; simp only [decide_eq_true_iff, decide_eq_false_iff_not]; omega
  rcases hc with ⟨h, e⟩ | ⟨h, e⟩ | ⟨h, e⟩
  all_goals
    rw [e]
    have E := Lib.hid e; clear e
    try (obtain ⟨h1, h2⟩ := h)
    go_enter Tryd.func20, Tryd.ntmps20
    go_wp2_with fail
    go_ret
    exact ⟨by first | rfl | exact ret_b (by simp; omega), rfl⟩
theorem rletter_any (r : Int) (w : World) : Calls Tryd.prog 19 #[.int .u8 r] w fun e w' => e = .returned (.bool (letterR r)) ∧ w = w' := by
  have hc : (r < 65 ∧ letterR r = false) ∨ ((65 ≤ r ∧ r ≤ 90) ∧ letterR r = true) ∨ ((90 < r ∧ r < 95) ∧ letterR r = false) ∨ (r = 95 ∧ letterR r = true) ∨ (r = 96 ∧ letterR r = false) ∨ ((97 ≤ r ∧ r ≤ 122) ∧ letterR r = true) ∨ (122 < r ∧ letterR r = false) := by unfold letterR; simp only [decide_eq_true_iff, decide_eq_false_iff_not]; omega
  rcases hc with ⟨h, e⟩ | ⟨h, e⟩ | ⟨h, e⟩ | ⟨h, e⟩ | ⟨h, e⟩ | ⟨h, e⟩ | ⟨h, e⟩
  all_goals
    rw [e]
    have E := Lib.hid e; clear e
    try (obtain ⟨h1, h2⟩ := h)
    go_enter Tryd.func19, Tryd.ntmps19
    go_wp2_with fail
    go_ret
    exact ⟨by first | rfl | exact ret_b (by simp; omega), rfl⟩
/-- The words, each between two blanks. -/
def namesL : List UInt8 := [32, 105, 110, 116, 32, 105, 102, 32, 101, 108, 115, 101, 32, 119, 104, 105, 108, 101, 32, 98, 114, 101, 97, 107, 32, 99, 111, 110, 116, 105, 110, 117, 101, 32, 114, 101, 116, 117, 114, 110, 32, 112, 114, 105, 110, 116, 32, 114, 101, 97, 100, 32, 116, 114, 97, 112, 32]
/-- What stands between two blanks there, with no blank in it, is a word. -/
def midB (i n : Nat) : Bool := !((namesL.drop i).take (n + 2) == 32 :: ((namesL.drop (i + 1)).take n ++ [32])) || ((namesL.drop (i + 1)).take n).contains 32 || n == 0 || wordTexts.contains ((namesL.drop (i + 1)).take n)
theorem mid_all : ∀ i : Fin 57, ∀ n : Fin 57, midB i.val n.val = true := by decide +kernel
theorem mid_word (i : Nat) (s : List UInt8) (h : (namesL.drop i).take (s.length + 2) = 32 :: (s ++ [32])) (hs : ∀ c ∈ s, c ≠ 32) (h0 : s ≠ []) : s ∈ wordTexts := by
  have hl := congrArg List.length h
  rw [List.length_take, List.length_drop] at hl
  have hn : namesL.length = 57 := rfl
  simp at hl
  have hs1 : (namesL.drop (i + 1)).take s.length = s := by
    have e : namesL.drop (i + 1) = (namesL.drop i).drop 1 := by rw [List.drop_drop]
    have e2 : ((namesL.drop i).take (s.length + 2)).drop 1 = ((namesL.drop i).drop 1).take (s.length + 1) := by rw [List.drop_take]; rfl
    rw [h] at e2
    have e3 : (s ++ [32]).take s.length = s := List.take_left' rfl
    rw [e]
    have e4 : ((namesL.drop i).drop 1).take (s.length + 1) = s ++ [32] := e2.symm
    have e5 : (((namesL.drop i).drop 1).take (s.length + 1)).take s.length = ((namesL.drop i).drop 1).take s.length := by rw [List.take_take]; congr 1; omega
    rw [← e5, e4, e3]
  have hb := mid_all ⟨i, by omega⟩ ⟨s.length, by omega⟩
  unfold midB at hb
  simp only [hs1, h, beq_self_eq_true, Bool.not_true, Bool.false_or] at hb
  have hc : s.contains 32 = false := by
    cases hh : s.contains 32
    · rfl
    · exact absurd rfl (hs 32 (List.contains_iff_mem.1 hh))
  have hz : (s.length == 0) = false := by
    rw [beq_eq_false_iff_ne]
    intro k; exact h0 (List.length_eq_zero_iff.1 k)
  rw [hc, hz] at hb
  exact List.contains_iff_mem.1 (by simpa using hb)
end Go.Proofs.YtpoomcejmdlmiaaDoor
