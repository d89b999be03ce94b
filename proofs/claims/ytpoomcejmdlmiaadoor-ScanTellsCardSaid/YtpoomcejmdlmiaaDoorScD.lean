/- Signs, and characters between quotes. -/
import Derived.Test.YtpoomcejmdlmiaaDoorRows
import Derived.WalkKit
import Derived.ProofKit
import Derived.OpenShut
import Derived.WalkLawsBesides
import Derived.WalkSpells
import Derived.Outline
import Derived.Handy
import Derived.Lib.Hide
import Derived.Lib.OthersKept
import Derived.Test.YtpoomcejmdlmiaaDoorSc0
import Derived.RegionTactic
import Derived.BigRegion
import Derived.Test.YtpoomcejmdlmiaaDoorShelf
import Derived.Test.YtpoomcejmdlmiaaDoorScB
namespace Go.Proofs.YtpoomcejmdlmiaaDoor
open Go.ChangeShapes Go.WideShapes Go.ChangeAt Go.RowKit
set_option linter.unusedVariables false
theorem bytes_first (s : ByteArray) (h : 0 < s.size) : s.data.toList[0]'(by simpa using h) = s[0]'h := by
  simp; rfl
def two (s : ByteArray) : Bool := decide (1 < s.size) && ((s.extract 0 2).toList == [61, 61] || (s.extract 0 2).toList == [33, 61] || (s.extract 0 2).toList == [60, 61] || (s.extract 0 2).toList == [62, 61] || (s.extract 0 2).toList == [60, 60] || (s.extract 0 2).toList == [62, 62])
def signs : List UInt8 := [40, 41, 123, 125, 91, 93, 44, 59, 61, 124, 94, 38, 43, 45, 42, 47, 37, 33, 126, 60, 62]
def signN (s : ByteArray) (h : 0 < s.size) : Nat := if two s then 2 else if 0 ≤ Lib.indexByte signs (s[0]'h) then 1 else 0
theorem sign_calls (s : ByteArray) (w : World) (h : 0 < s.size) : Calls Tryd.prog 27 #[.string s] w fun e w' => e = .returned (.int .i64 (signN s h)) ∧ w = w' := by
  have hib := Lib.hid (fun w => Tryd.strings_IndexByte ⟨#[40, 41, 123, 125, 91, 93, 44, 59, 61, 124, 94, 38, 43, 45, 42, 47, 37, 33, 126, 60, 62]⟩ ((s[0]'h).toNat : Int) w)
  have hdat : (⟨#[40, 41, 123, 125, 91, 93, 44, 59, 61, 124, 94, 38, 43, 45, 42, 47, 37, 33, 126, 60, 62]⟩ : ByteArray).data.toList = signs := rfl
  have hib2 := Lib.hid (fun w => (hib.out w).mono fun e w' (k : e = .returned (.int .i64 (Lib.indexByte signs (((s[0]'h).toNat : Int).toNat.toUInt8))) ∧ w' = w) => (k : _ ∧ _))
  have hb0 : ((s[0]'h).toNat : Int).toNat.toUInt8 = s[0]'h := by simp
  have hv := Lib.hid (fun w => (hib.out w).mono fun e w' (k : e = .returned (.int .i64 (Lib.indexByte signs (((s[0]'h).toNat : Int).toNat.toUInt8))) ∧ w' = w) => (show e = .returned (.int .i64 (Lib.indexByte signs (s[0]'h))) ∧ w = w' from ⟨by rw [← hb0]; exact k.1, k.2.symm⟩))
  clear hib hib2 hdat hb0
  unfold signN two
  generalize hix : Lib.indexByte signs (s[0]'h) = ix at *
  clear hix
  by_cases h1 : 1 < s.size
  · rw [decide_eq_true h1, Bool.true_and]
    cases k0 : ((s.extract 0 2).toList == [61, 61])
    case true =>
      go_enter Tryd.func27, Tryd.ntmps27
      go_wp2_with fail
      go_ret
      exact ⟨rfl, rfl⟩
    cases k1 : ((s.extract 0 2).toList == [33, 61])
    case true =>
      go_enter Tryd.func27, Tryd.ntmps27
      go_wp2_with fail
      go_ret
      exact ⟨rfl, rfl⟩
    cases k2 : ((s.extract 0 2).toList == [60, 61])
    case true =>
      go_enter Tryd.func27, Tryd.ntmps27
      go_wp2_with fail
      go_ret
      exact ⟨rfl, rfl⟩
    cases k3 : ((s.extract 0 2).toList == [62, 61])
    case true =>
      go_enter Tryd.func27, Tryd.ntmps27
      go_wp2_with fail
      go_ret
      exact ⟨rfl, rfl⟩
    cases k4 : ((s.extract 0 2).toList == [60, 60])
    case true =>
      go_enter Tryd.func27, Tryd.ntmps27
      go_wp2_with fail
      go_ret
      exact ⟨rfl, rfl⟩
    cases k5 : ((s.extract 0 2).toList == [62, 62])
    case true =>
      go_enter Tryd.func27, Tryd.ntmps27
      go_wp2_with fail
      go_ret
      exact ⟨rfl, rfl⟩
    by_cases hx : 0 ≤ ix
    all_goals
      go_enter Tryd.func27, Tryd.ntmps27
      go_wp2_with (go_at_call 32; refine (hv.out _).mono ?_; rintro e w' ⟨rfl, rfl⟩)
      go_ret
    · exact ⟨by first | rfl | (simp [hx]; done), rfl⟩
    · exact ⟨by first | rfl | (simp [hx]; done), rfl⟩
  · rw [decide_eq_false h1, Bool.false_and]
    by_cases hx : 0 ≤ ix
    all_goals
      go_enter Tryd.func27, Tryd.ntmps27
      go_wp2_with (go_at_call 32; refine (hv.out _).mono ?_; rintro e w' ⟨rfl, rfl⟩)
      go_ret
    · exact ⟨by first | rfl | (simp [hx]; done), rfl⟩
    · exact ⟨by first | rfl | (simp [hx]; done), rfl⟩
end Go.Proofs.YtpoomcejmdlmiaaDoor
