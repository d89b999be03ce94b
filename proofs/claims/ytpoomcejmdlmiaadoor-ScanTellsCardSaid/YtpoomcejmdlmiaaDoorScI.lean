/- Names; the law's own small helpers. -/
import Derived.Test.YtpoomcejmdlmiaaDoorRows
import Derived.WalkKit
import Derived.ProofKit
import Derived.OpenShut
import Derived.WalkLawsBesides
import Derived.WalkSpells
import Derived.Outline
import Derived.Handy
import Derived.Lib.Hide
import Derived.Lib.OthersKept
import Derived.Test.YtpoomcejmdlmiaaDoorSc0
import Derived.RegionTactic
import Derived.BigRegion
import Derived.Test.YtpoomcejmdlmiaaDoorScH
namespace Go.Proofs.YtpoomcejmdlmiaaDoor
open Go.ChangeShapes Go.WideShapes Go.ChangeAt Go.RowKit
set_option linter.unusedVariables false
def nameB (s : ByteArray) : Bool := decide (1 ≤ s.size) && decide (s.size ≤ 20) && !(wordB s) && letterR ((s.data.toList.getD 0 0).toNat) && (spanL inNameR s == s.size)
theorem name_calls (s : ByteArray) (w : World) (hs : s.size ≤ 9223372036854775807) : Calls Tryd.prog 8 #[.string s] w fun e w' => e = .returned (.bool (nameB s)) ∧ Below w.heap.size w w' := by
  have hsp := Lib.hid (fun w => spanN_any s w)
  have hwo := Lib.hid (fun w => word_any s w)
  unfold nameB
  by_cases h1 : 1 ≤ s.size
  case neg =>
    rw [decide_eq_false h1]
    have h1' : s.size < 1 := by omega
    go_enter Tryd.func8, Tryd.ntmps8
    go_wp2_with fail
    go_ret
    exact ⟨rfl, Below.refl _ _⟩
  rw [decide_eq_true h1]
  by_cases h2 : s.size ≤ 20
  case neg =>
    rw [decide_eq_false h2]
    have h2' : 20 < s.size := by omega
    go_enter Tryd.func8, Tryd.ntmps8
    go_wp2_with fail
    go_ret
    exact ⟨rfl, Below.refl _ _⟩
  rw [decide_eq_true h2, first_byte s h1]
  cases h3 : wordB s
  case true =>
    rw [h3] at hwo
    go_enter Tryd.func8, Tryd.ntmps8
    go_wp2_with (go_at_call 10; refine (hwo.out _).mono ?_; rintro e w' ⟨rfl, rfl⟩)
    go_ret
    exact ⟨rfl, Below.refl _ _⟩
  rw [h3] at hwo
  have h32 : wrap32 ((s[0]'h1).toNat : Int) = ((s[0]'h1).toNat : Int) := by
    have := UInt8.toNat_lt (s[0]'h1)
    unfold wrap32; omega
  have hle : Hid (∀ w, Calls Tryd.prog 16 #[.int .i32 (wrap32 ((s[0]'h1).toNat : Int))] w fun e w' => e = .returned (.bool (letterR ((s[0]'h1).toNat : Int))) ∧ w = w') := Lib.hid (fun w => by rw [h32]; exact letter_any _ w)
  clear h32
  cases h4 : letterR ((s[0]'h1).toNat : Int)
  all_goals
    rw [h4] at hle
    generalize hn : spanL inNameR s = n at *
    have he : ((n : Int) == (s.size : Int)) = (n == s.size) := by rw [Bool.eq_iff_iff]; simp only [beq_iff_eq]; omega
    generalize hb : (n == s.size) = b at *
    clear hn hb h4 h3
    go_enter Tryd.func8, Tryd.ntmps8
    go_wp2_with (first | (go_at_call 10; refine (hwo.out _).mono ?_; rintro e w' ⟨rfl, rfl⟩) | (go_at_call 16; refine (hle.out _).mono ?_; rintro e w' ⟨rfl, rfl⟩) | (go_at_call 17; refine (hsp.out _).mono ?_; rintro e w' ⟨rfl, g⟩))
  · go_ret
    exact ⟨rfl, Below.refl _ _⟩
  · go_ret
    exact ⟨rfl, g⟩
end Go.Proofs.YtpoomcejmdlmiaaDoor
