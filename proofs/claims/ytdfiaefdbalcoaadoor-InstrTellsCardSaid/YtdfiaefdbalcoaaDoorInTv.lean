/- The document's own answer: a number read. -/
import Derived.Test.YtdfiaefdbalcoaaDoorRows
import Derived.WalkKit
import Derived.ProofKit
import Derived.OpenShut
import Derived.WalkLawsBesides
import Derived.WalkSpells
import Derived.Outline
import Derived.Handy
import Derived.Lib.Hide
import Derived.Lib.OthersKept
import Derived.KernelRfl
import Derived.Test.YtdfiaefdbalcoaaDoorInD
import Derived.Test.YtdfiaefdbalcoaaDoorInTq
namespace Go.Proofs.YtdfiaefdbalcoaaDoor
open Go.ChangeShapes Go.WideShapes Go.ChangeAt Go.RowKit
set_option linter.unusedVariables false
theorem dig_cases (c : UInt8) : (digitB c = true ∧ 48 ≤ (c.toNat : Int) ∧ (c.toNat : Int) ≤ 57) ∨ (digitB c = false ∧ ((c.toNat : Int) < 48 ∨ 57 < (c.toNat : Int))) := by
  unfold digitB; simp only [decide_eq_true_iff, decide_eq_false_iff_not]; omega
theorem vloop_yes (neg : Bool) (l : List UInt8) (j : Nat) (v : Int) (h : j < l.length) (hd : digitB (l[j]'h) = true) (hj : j < 20) :
    vloop neg (l.drop j) v j = vloop neg (l.drop (j + 1)) (wr (wr (10 * v) + (if neg then -(((l[j]'h).toNat : Int) - 48) else ((l[j]'h).toNat : Int) - 48))) (j + 1) := by
  rw [List.drop_eq_getElem_cons h]
  show (if _ then _ else _) = _
  rw [if_pos ⟨hd, hj⟩]
theorem vloop_no (neg : Bool) (l : List UInt8) (j : Nat) (v : Int) (h : j < l.length) (hd : digitB (l[j]'h) = false ∨ 20 ≤ j) : vloop neg (l.drop j) v j = (v, j) := by
  rw [List.drop_eq_getElem_cons h]
  show (if _ then _ else _) = _
  rw [if_neg]
  rintro ⟨h1, h2⟩
  rcases hd with hd | hd
  · rw [hd] at h1; cases h1
  · omega
theorem wr_64 (x : Int) : wrap64 x = wr x := by unfold wr; rw [IntKind.wrap_i64, wrap64]
def vaV (l : List UInt8) : Value := .tuple #[.int .i64 (valueL l).1, .int .i64 ((valueL l).2 : Nat)]
set_option maxRecDepth 100000 in
set_option maxHeartbeats 4000000 in
theorem rval_neg (l : List UInt8) (w : World) (hl : l.length ≤ 100000) (h0 : 1 ≤ l.length) (hx : l.getD 0 0 = 45) : Calls Tryd.prog 45 #[.string (mk l)] w fun e w' => e = .returned (vaV l) ∧ w = w' := by
  have hsz : (mk l).size = l.length := rfl
  have hp0 : 0 < (mk l).size := by rw [hsz]; omega
  have hg : ((mk l)[0]'hp0).toNat = 45 := by
    cases l with
    | nil => simp at h0
    | cons x r => have : x = 45 := hx
                  subst this; rfl
  have HV : Hid (valueL l = vloop true (l.drop 1) 0 1) := Lib.hid (by
    unfold valueL
    cases l with
    | nil => simp at h0
    | cons x r => have : x = 45 := hx
                  subst this; rfl)
  clear hx
  go_enter Tryd.func45, Tryd.ntmps45
  go_wp2_with fail
  go_loopw [4, 5] (fun n i wr => ∃ (v : Int) (j : Nat), n = .int .i64 v ∧ i = .int .i64 j ∧ j ≤ l.length ∧ I64 v ∧ vloop true (l.drop j) v j = valueL l ∧ w = wr) (fun _ i wr => l.length - (match i with | .int _ x => x.toNat | _ => 0))
  case atStart => exact ⟨0, 1, rfl, rfl, h0, by unfold I64; omega, HV.out.symm, rfl⟩
  case round =>
    obtain ⟨v, j, rfl, rfl, hj, hv, hs, rfl⟩ := hrel
    have HS := Lib.hid hs
    have HI := Lib.hid hv
    obtain ⟨hv1, hv2⟩ := hv
    clear hs
    by_cases h : j < l.length
    · have h' : j < (mk l).size := h
      have HY := Lib.hid (vloop_yes true l j v h)
      have HN := Lib.hid (vloop_no true l j v h)
      have hg : ((mk l)[j]'h').toNat = (l[j]'h).toNat := rfl
      have hdc := dig_cases (l[j]'h)
      rw [← hg] at hdc
      rw [← hg] at HY
      generalize l[j]'h = c at *
      clear hg
      rcases hdc with ⟨hd, k1, k2⟩ | ⟨hd, hk⟩
      · by_cases hj2 : j < 20
        · have HT := Lib.hid (HY.out hd hj2)
          clear HY HN hd
          go_wp2_with fail
          go_roundw
          case rel => exact ⟨wr (wr (10 * v) + -((((mk l)[j]'h').toNat : Int) - 48)), j + 1, by rw [wr_64, wr_64], rfl, by omega, wr_i _, by rw [← HS.out]; exact HT.out.symm, trivial⟩
          case measure => simp; omega
        · have HT : Hid (valueL l = (v, j)) := Lib.hid (by rw [← HS.out]; exact HN.out (.inr (by omega)))
          clear HY HN hd
          have hj3 : 20 ≤ (j : Int) := by omega
          go_wp2_with fail
          all_goals first
            | (go_ret2; exact ⟨by unfold vaV; rw [HT.out]; rfl, rfl⟩)
            | (exfalso; omega)
      · have HT : Hid (valueL l = (v, j)) := Lib.hid (by rw [← HS.out]; exact HN.out (.inl hd))
        clear HY HN hd
        rcases hk with hk | hk
        all_goals
          go_wp2_with fail
          all_goals first
            | (go_ret2; exact ⟨by unfold vaV; rw [HT.out]; rfl, rfl⟩)
            | (exfalso; omega)
    · obtain rfl : j = l.length := by omega
      have HT : Hid (valueL l = (v, l.length)) := Lib.hid (by rw [← HS.out, List.drop_length]; rfl)
      go_wp2_with fail
      go_ret2
      exact ⟨by unfold vaV; rw [HT.out]; rfl, rfl⟩
set_option maxRecDepth 100000 in
set_option maxHeartbeats 4000000 in
theorem rval_pos (l : List UInt8) (w : World) (hl : l.length ≤ 100000) (h0 : 1 ≤ l.length) (hx : l.getD 0 0 ≠ 45) : Calls Tryd.prog 45 #[.string (mk l)] w fun e w' => e = .returned (vaV l) ∧ w = w' := by
  have hsz : (mk l).size = l.length := rfl
  have hp0 : 0 < (mk l).size := by rw [hsz]; omega
  have hg : (((mk l)[0]'hp0).toNat == 45) = false := by
    cases l with
    | nil => simp at h0
    | cons x r =>
      have hx : x ≠ 45 := hx
      show (x.toNat == 45) = false
      rw [beq_eq_false_iff_ne]
      intro h
      exact hx (UInt8.toNat_inj.1 h)
  have hg2 : ((((mk l)[0]'hp0).toNat : Int) == 45) = false := by
    rw [beq_eq_false_iff_ne] at *
    omega
  have HV : Hid (valueL l = vloop false (l.drop 0) 0 0) := Lib.hid (by
    unfold valueL
    cases l with
    | nil => simp at h0
    | cons x r =>
      have hx : x ≠ 45 := hx
      rw [if_neg (by simpa using hx)]; rfl)
  clear hx
  go_enter Tryd.func45, Tryd.ntmps45
  go_wp2_with fail
  go_loopw [4, 5] (fun n i wr => ∃ (v : Int) (j : Nat), n = .int .i64 v ∧ i = .int .i64 j ∧ j ≤ l.length ∧ I64 v ∧ vloop false (l.drop j) v j = valueL l ∧ w = wr) (fun _ i wr => l.length - (match i with | .int _ x => x.toNat | _ => 0))
  case atStart => exact ⟨0, 0, rfl, rfl, Nat.zero_le _, by unfold I64; omega, HV.out.symm, rfl⟩
  case round =>
    obtain ⟨v, j, rfl, rfl, hj, hv, hs, rfl⟩ := hrel
    have HS := Lib.hid hs
    have HI := Lib.hid hv
    obtain ⟨hv1, hv2⟩ := hv
    clear hs
    by_cases h : j < l.length
    · have h' : j < (mk l).size := h
      have HY := Lib.hid (vloop_yes false l j v h)
      have HN := Lib.hid (vloop_no false l j v h)
      have hg : ((mk l)[j]'h').toNat = (l[j]'h).toNat := rfl
      have hdc := dig_cases (l[j]'h)
      rw [← hg] at hdc
      rw [← hg] at HY
      generalize l[j]'h = c at *
      clear hg
      rcases hdc with ⟨hd, k1, k2⟩ | ⟨hd, hk⟩
      · by_cases hj2 : j < 20
        · have HT := Lib.hid (HY.out hd hj2)
          clear HY HN hd
          go_wp2_with fail
          go_roundw
          case rel => exact ⟨wr (wr (10 * v) + ((((mk l)[j]'h').toNat : Int) - 48)), j + 1, by rw [wr_64, wr_64], rfl, by omega, wr_i _, by rw [← HS.out]; exact HT.out.symm, trivial⟩
          case measure => simp; omega
        · have HT : Hid (valueL l = (v, j)) := Lib.hid (by rw [← HS.out]; exact HN.out (.inr (by omega)))
          clear HY HN hd
          have hj3 : 20 ≤ (j : Int) := by omega
          go_wp2_with fail
          all_goals first
            | (go_ret2; exact ⟨by unfold vaV; rw [HT.out]; rfl, rfl⟩)
            | (exfalso; omega)
      · have HT : Hid (valueL l = (v, j)) := Lib.hid (by rw [← HS.out]; exact HN.out (.inl hd))
        clear HY HN hd
        rcases hk with hk | hk
        all_goals
          go_wp2_with fail
          all_goals first
            | (go_ret2; exact ⟨by unfold vaV; rw [HT.out]; rfl, rfl⟩)
            | (exfalso; omega)
    · obtain rfl : j = l.length := by omega
      have HT : Hid (valueL l = (v, l.length)) := Lib.hid (by rw [← HS.out, List.drop_length]; rfl)
      go_wp2_with fail
      go_ret2
      exact ⟨by unfold vaV; rw [HT.out]; rfl, rfl⟩
set_option maxRecDepth 100000 in
theorem rval_nil (w : World) : Calls Tryd.prog 45 #[.string (mk [])] w fun e w' => e = .returned (vaV []) ∧ w = w' := by
  go_enter Tryd.func45, Tryd.ntmps45
  go_wp2_with fail
  go_loopw [4, 5] (fun n i wr => n = .int .i64 0 ∧ i = .int .i64 0 ∧ w = wr) (fun _ i wr => 0)
  case atStart => exact ⟨rfl, rfl, rfl⟩
  case round =>
    obtain ⟨rfl, rfl, rfl⟩ := hrel
    go_wp2_with fail
    go_ret2
    exact ⟨rfl, rfl⟩
theorem rval_any (l : List UInt8) (w : World) (hl : l.length ≤ 100000) : Calls Tryd.prog 45 #[.string (mk l)] w fun e w' => e = .returned (vaV l) ∧ w = w' := by
  by_cases h0 : 1 ≤ l.length
  · by_cases hx : l.getD 0 0 = 45
    · exact rval_neg l w hl h0 hx
    · exact rval_pos l w hl h0 hx
  · obtain rfl : l = [] := List.length_eq_zero_iff.1 (by omega)
    exact rval_nil w
end Go.Proofs.YtdfiaefdbalcoaaDoor
