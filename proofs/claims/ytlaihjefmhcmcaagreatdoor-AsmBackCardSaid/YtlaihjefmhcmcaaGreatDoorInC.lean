/- Labels. -/
import Derived.Test.YtlaihjefmhcmcaaGreatDoorRows
import Derived.WalkKit
import Derived.ProofKit
import Derived.OpenShut
import Derived.WalkLawsBesides
import Derived.WalkSpells
import Derived.Outline
import Derived.Handy
import Derived.Lib.Hide
import Derived.Lib.OthersKept
import Derived.KernelRfl
import Derived.Test.YtlaihjefmhcmcaaGreatDoorInA
import Derived.Test.YtlaihjefmhcmcaaGreatDoorIn1
namespace Go.Proofs.YtlaihjefmhcmcaaGreatDoor
open Go.ChangeShapes Go.WideShapes Go.ChangeAt Go.RowKit
set_option linter.unusedVariables false
theorem mem_tw (p : UInt8 → Bool) : ∀ (l : List UInt8) (c : UInt8), c ∈ l.takeWhile p → p c = true
  | [], c, h => by cases h
  | x :: l, c, h => by
    rw [List.takeWhile_cons] at h
    split at h
    · next hx =>
      rcases List.mem_cons.1 h with rfl | k
      · exact hx
      · exact mem_tw p l c k
    · cases h
set_option maxRecDepth 100000 in
theorem label_any (l : List UInt8) (w : World) (hl : l.length ≤ 140737488355328) : Calls Tryz.prog 43 #[.string (mk l)] w fun e w' => e = .returned (.bool (labelB l)) ∧ w = w' := by
  have hsz : (mk l).size = l.length := rfl
  have HP := Lib.hid (fun w => prefixL_any l w hl)
  by_cases h1 : 1 ≤ l.length
  · by_cases h2 : l.length ≤ 40
    · have hp0 : 0 < (mk l).size := by rw [hsz]; omega
      have hg : ((mk l)[0]'hp0).toNat = (l.getD 0 0).toNat := by
        cases l with
        | nil => simp at h1
        | cons x r => rfl
      have HD := Lib.hid (fun w => digit_any (l.getD 0 0) w)
      rw [← hg] at HD
      cases hd : digitB (l.getD 0 0)
      · rw [hd] at HD
        have hall : l.all inLabB = decide (spanB inLabB l = l.length) := by
          rw [Bool.eq_iff_iff, decide_eq_true_iff, List.all_eq_true]
          constructor
          · intro h
            have := span_app inLabB l [] h (.inl rfl)
            rw [List.append_nil] at this; exact this
          · intro h c hc
            unfold spanB at h
            have e := (List.takeWhile_sublist inLabB (l := l)).eq_of_length h
            exact mem_tw inLabB l c (by rw [e]; exact hc)
        have hlb : labelB l = decide (spanB inLabB l = l.length) := by
          unfold labelB
          rw [hd, decide_eq_true ⟨h1, h2⟩, hall]; simp
        have hsp := span_le inLabB l
        have HR := Lib.hid hlb
        clear hlb hall hg hd
        generalize spanB inLabB l = n at *
        by_cases hn : n = l.length
        · subst hn
          go_enter Tryz.func43, Tryz.ntmps43
          go_wp2_with (first | (go_at_call 63; refine (HD.out _).mono ?_; rintro e w1 ⟨rfl, rfl⟩) | (go_at_call 64; refine (HP.out _).mono ?_; rintro e w1 ⟨rfl, rfl⟩))
          go_ret
          exact ⟨by rw [HR.out]; simp, rfl⟩
        · have hne : ((n : Int) == (l.length : Int)) = false := by rw [beq_eq_false_iff_ne]; omega
          have HN := Lib.hid hn; clear hn
          go_enter Tryz.func43, Tryz.ntmps43
          go_wp2_with (first | (go_at_call 63; refine (HD.out _).mono ?_; rintro e w1 ⟨rfl, rfl⟩) | (go_at_call 64; refine (HP.out _).mono ?_; rintro e w1 ⟨rfl, rfl⟩))
          go_ret
          exact ⟨by rw [HR.out, decide_eq_false HN.out]; rfl, rfl⟩
      · rw [hd] at HD
        have HR : Hid (labelB l = false) := Lib.hid (by unfold labelB; rw [hd]; simp)
        clear hg hd
        go_enter Tryz.func43, Tryz.ntmps43
        go_wp2_with (go_at_call 63; refine (HD.out _).mono ?_; rintro e w1 ⟨rfl, rfl⟩)
        go_ret
        exact ⟨by rw [HR.out]; simp, rfl⟩
    · have HR : Hid (labelB l = false) := Lib.hid (by unfold labelB; rw [decide_eq_false (fun h => h2 h.2)]; simp)
      have h3 : 40 < l.length := by omega
      go_enter Tryz.func43, Tryz.ntmps43
      go_wp2_with fail
      go_ret
      exact ⟨by rw [HR.out]; simp, rfl⟩
  · have HR : Hid (labelB l = false) := Lib.hid (by unfold labelB; rw [decide_eq_false (fun h => h1 h.1)]; simp)
    obtain rfl : l = [] := List.length_eq_zero_iff.1 (by omega)
    go_enter Tryz.func43, Tryz.ntmps43
    go_wp2_with fail
    go_ret
    exact ⟨by rw [HR.out]; simp, rfl⟩
end Go.Proofs.YtlaihjefmhcmcaaGreatDoor
