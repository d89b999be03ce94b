/- The document's own answer: words. -/
import Derived.Test.YtpoomcejmdlmiaaDoorRows
import Derived.WalkKit
import Derived.ProofKit
import Derived.OpenShut
import Derived.WalkLawsBesides
import Derived.WalkSpells
import Derived.Outline
import Derived.Handy
import Derived.Lib.Hide
import Derived.Lib.OthersKept
import Derived.KernelRfl
import Derived.Deep.Cut
import Derived.Deep.CutBlock
import Derived.Test.YtpoomcejmdlmiaaDoorScEa
namespace Go.Proofs.YtpoomcejmdlmiaaDoor
open Go.ChangeShapes Go.WideShapes Go.ChangeAt Go.RowKit
set_option linter.unusedVariables false
def Letters (l : List UInt8) : Prop := ∀ c ∈ l, letterR (c.toNat : Int) = true
theorem wordB_mem (l : List UInt8) : wordB (mk l) = true ↔ l ∈ wordTexts := by
  unfold wordB wordTexts
  rw [mk_tl]
  simp [or_assoc]
theorem word_letters {l : List UInt8} (h : l ∈ wordTexts) : Letters l := by
  have : ∀ t ∈ wordTexts, (t.all fun c => letterR (c.toNat : Int)) = true := by decide +kernel
  intro c hc
  exact List.all_eq_true.1 (this l h) c hc
def hitB (l : List UInt8) (i : Nat) : Bool := (namesL.drop i).take (l.length + 2) == 32 :: (l ++ [32])
theorem word_hit {l : List UInt8} (h : l ∈ wordTexts) : ∃ i, i + l.length + 2 ≤ 57 ∧ hitB l i = true := by
  have : ∀ t ∈ wordTexts, ((List.range 57).any fun i => decide (i + t.length + 2 ≤ 57) && hitB t i) = true := by decide +kernel
  obtain ⟨i, _, hi⟩ := List.any_eq_true.1 (this l h)
  rw [Bool.and_eq_true, decide_eq_true_iff] at hi
  exact ⟨i, hi⟩
set_option maxRecDepth 100000 in
theorem rword_any (l : List UInt8) (w : World) (hl : l.length ≤ 20000) : Calls Tryd.prog 11 #[.string (mk l)] w fun e w' => e = .returned (.bool (wordB (mk l))) ∧ w = w' := by
  have hsz : (mk l).size = l.length := rfl
  go_enter Tryd.func11, Tryd.ntmps11
  go_wp2_with fail
  go_loopw [3] (fun i wr => ∃ j : Nat, i = .int .i64 j ∧ j ≤ l.length ∧ Letters (l.take j) ∧ w = wr) (fun i wr => l.length - (match i with | .int _ x => x.toNat | _ => 0))
  case atStart => exact ⟨0, rfl, Nat.zero_le _, (fun c hc => by cases hc), rfl⟩
  case round =>
    obtain ⟨j, rfl, hj, hlt, rfl⟩ := hrel
    have HLT := Lib.hid hlt; clear hlt
    by_cases h : j < l.length
    · have htk : l.take (j + 1) = l.take j ++ [l[j]'h] := by rw [List.take_add_one, List.getElem?_eq_getElem h]; rfl
      have h' : j < (mk l).size := h
      have hg : ((mk l)[j]'h').toNat = (l[j]'h).toNat := rfl
      have hm : l[j]'h ∈ l := List.getElem_mem h
      generalize l[j]'h = c at *
      have hle := Lib.hid (fun w => rletter_any (c.toNat : Int) w)
      cases hc : letterR (c.toNat : Int)
      · have hnw : wordB (mk l) = false := by
          cases hw : wordB (mk l)
          · rfl
          · have := word_letters ((wordB_mem l).1 hw) c hm
            rw [hc] at this; cases this
        have HNW := Lib.hid hnw
        rw [hc] at hle
        clear hnw htk hm hc
        go_wp2_with (go_at_call 19; refine (hle.out _).mono ?_; rintro e w1 ⟨rfl, rfl⟩)
        go_ret
        exact ⟨by rw [HNW.out]; rfl, rfl⟩
      · have HN : Hid (Letters (l.take (j + 1))) := Lib.hid (by
          rw [htk]
          intro x hx
          rcases List.mem_append.1 hx with k | k
          · exact HLT.out x k
          · rw [List.mem_singleton.1 k]; exact hc)
        rw [hc] at hle
        clear htk hm hc
        go_wp2_with (go_at_call 19; refine (hle.out _).mono ?_; rintro e w1 ⟨rfl, rfl⟩)
        go_roundw
        case rel => exact ⟨j + 1, rfl, by omega, HN.out, trivial⟩
        case measure => simp; omega
    · obtain rfl : j = l.length := by omega
      have hall := HLT.out
      rw [List.take_length] at hall
      have HALL := Lib.hid hall; clear hall HLT
      go_wp2_with fail
      go_loopw [4] (fun v wr => ∃ i : Nat, v = .int .i64 i ∧ i ≤ 57 ∧ (∀ j, j < i → hitB l j = false) ∧ w = wr) (fun v wr => 57 - (match v with | .int _ x => x.toNat | _ => 0))
      case atStart => exact ⟨0, rfl, by decide, (fun j hj => by omega), rfl⟩
      case round =>
        obtain ⟨i, rfl, hi, hno, rfl⟩ := hrel
        have HNO := Lib.hid hno; clear hno
        have ht : (mk l).toList = l := mk_tl l
        by_cases h0 : l = []
        · subst h0
          have hw : wordB (mk []) = false := by kernel_rfl
          have HW := Lib.hid hw; clear hw
          go_wp2_with fail
          go_ret
          exact ⟨by rw [HW.out]; rfl, rfl⟩
        have hie : l.isEmpty = false := by
          cases l with
          | nil => exact absurd rfl h0
          | cons a r => rfl
        by_cases hfit : i + l.length + 2 ≤ 57
        · have hfitI : (i : Int) + (l.length : Int) + 2 ≤ 57 := by omega
          have hcut : (⟨#[32, 105, 110, 116, 32, 105, 102, 32, 101, 108, 115, 101, 32, 119, 104, 105, 108, 101, 32, 98, 114, 101, 97, 107, 32, 99, 111, 110, 116, 105, 110, 117, 101, 32, 114, 101, 116, 117, 114, 110, 32, 112, 114, 105, 110, 116, 32, 114, 101, 97, 100, 32, 116, 114, 97, 112, 32]⟩ : ByteArray).extract i (i + l.length + 2) = mk ((namesL.drop i).take (l.length + 2)) := by
            apply bytes_inj
            rw [Lib.extract_data, mk_list]
            have : i + l.length + 2 - i = l.length + 2 := by omega
            rw [this]; rfl
          have hcat1 : (⟨#[32]⟩ : ByteArray) ++ mk l = mk (32 :: l) := mk_app [32] l
          have hcat2 : mk (32 :: l) ++ (⟨#[32]⟩ : ByteArray) = mk (32 :: (l ++ [32])) := mk_app (32 :: l) [32]
          have h32 : (⟨#[32]⟩ : ByteArray).size = 1 := rfl
          have hs2 : (mk (32 :: l)).size ≤ 20001 := by rw [mk_size, List.length_cons]; omega
          have htc : (mk (32 :: (l ++ [32]))).toList = 32 :: (l ++ [32]) := mk_tl _
          have htz : (mk ((namesL.drop i).take (l.length + 2))).toList = (namesL.drop i).take (l.length + 2) := mk_tl _
          have hhit : hitB l i = ((namesL.drop i).take (l.length + 2) == 32 :: (l ++ [32])) := rfl
          have HW : Hid (hitB l i = true → wordB (mk l) = true) := Lib.hid (fun hh => by
            rw [hhit] at hh
            refine (wordB_mem l).2 (mid_word i l (eq_of_beq hh) ?_ h0)
            intro c hc e
            have := HALL.out c hc
            rw [e] at this
            exact absurd this (by decide))
          generalize (namesL.drop i).take (l.length + 2) = Z at *
          generalize 32 :: (l ++ [32]) = Y at *
          cases hb : hitB l i
          · have hne : ¬ Z = Y := by
              intro e
              rw [hb, e] at hhit
              simp at hhit
            have HB := Lib.hid hb
            have hbe : (Z == Y) = false := beq_eq_false_iff_ne.2 hne
            clear hb hhit HW hne
            go_wp2_with fail
            go_roundw
            case rel => exact ⟨i + 1, rfl, by omega, (fun j hj => by
              by_cases e : j = i
              · rw [e]; exact HB.out
              · exact HNO.out j (by omega)), trivial⟩
            case measure => simp; omega
          · have hW := HW.out hb
            have heq : Z = Y := by
              rw [hb] at hhit
              exact eq_of_beq hhit.symm
            subst heq
            have HWW := Lib.hid hW
            clear hb hhit HW hW
            go_wp2_with fail
            go_ret
            exact ⟨by rw [HWW.out]; rfl, rfl⟩
        · have hfitI : 57 < (i : Int) + (l.length : Int) + 2 := by omega
          have hnw : wordB (mk l) = false := by
            cases hw : wordB (mk l)
            · rfl
            · obtain ⟨k, hk1, hk2⟩ := word_hit ((wordB_mem l).1 hw)
              rw [HNO.out k (by omega)] at hk2
              cases hk2
          have HW := Lib.hid hnw; clear hnw
          go_wp2_with fail
          go_ret
          exact ⟨by rw [HW.out]; rfl, rfl⟩
end Go.Proofs.YtpoomcejmdlmiaaDoor
