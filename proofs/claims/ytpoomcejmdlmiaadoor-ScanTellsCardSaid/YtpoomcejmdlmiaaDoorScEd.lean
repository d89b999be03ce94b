/- The document's own answer: numbers. -/
import Derived.Test.YtpoomcejmdlmiaaDoorRows
import Derived.WalkKit
import Derived.ProofKit
import Derived.OpenShut
import Derived.WalkLawsBesides
import Derived.WalkSpells
import Derived.Outline
import Derived.Handy
import Derived.Lib.Hide
import Derived.Lib.OthersKept
import Derived.KernelRfl
import Derived.Test.YtpoomcejmdlmiaaDoorScEc
namespace Go.Proofs.YtpoomcejmdlmiaaDoor
open Go.ChangeShapes Go.WideShapes Go.ChangeAt Go.RowKit
set_option linter.unusedVariables false
/-- A number's digits spell it, if it is no more than an int holds. -/
def numV (l : List UInt8) : Int := if l.length ≤ 19 ∧ (l.length = 1 ∨ l.getD 0 0 ≠ 48) ∧ digV l ≤ 9223372036854775807 then (digV l : Nat) else -1
theorem digV_snoc : ∀ (l : List UInt8) (c : UInt8), digV (l ++ [c]) = digV l * 10 + (c.toNat - 48)
  | [], c => by simp [digV]
  | a :: l, c => by
    have ih := digV_snoc l c
    show (a.toNat - 48) * 10 ^ (l ++ [c]).length + digV (l ++ [c]) = ((a.toNat - 48) * 10 ^ l.length + digV l) * 10 + (c.toNat - 48)
    rw [ih, List.length_append, show [c].length = 1 from rfl, Nat.pow_succ, Nat.add_mul, Nat.mul_assoc, Nat.add_assoc]
theorem digV_mono (l : List UInt8) (j : Nat) : digV (l.take j) ≤ digV l := by
  have key : ∀ (b a : List UInt8), digV a ≤ digV (a ++ b) := by
    intro b
    induction b with
    | nil => intro a; rw [List.append_nil]; exact Nat.le_refl _
    | cons c r ih =>
      intro a
      have h1 := ih (a ++ [c])
      rw [List.append_assoc] at h1
      have h2 := digV_snoc a c
      have : digV a ≤ digV (a ++ [c]) := by rw [h2]; omega
      exact Nat.le_trans this h1
  have := key (l.drop j) (l.take j)
  rw [List.take_append_drop] at this
  exact this
theorem parse_big : ∀ (l : List UInt8) (acc : Nat), Plain digitR l → 9223372036854775807 < acc * 10 ^ l.length + digV l → ∀ v, Lib.parseUint10 acc l = .ok v → 9223372036854775807 < v
  | [], acc, _, h, v, hv => by
    simp [Lib.parseUint10] at hv
    simp [digV] at h
    omega
  | c :: r, acc, hp, h, v, hv => by
    have hc := (hp c (by simp)).2
    unfold digitR at hc
    have hc := of_decide_eq_true hc
    have e : acc * 10 ^ (c :: r).length + digV (c :: r) = (acc * 10 + (c.toNat - 48)) * 10 ^ r.length + digV r := by
      rw [List.length_cons, Nat.pow_succ]
      show acc * (10 ^ r.length * 10) + ((c.toNat - 48) * 10 ^ r.length + digV r) = _
      rw [Nat.add_mul, Nat.mul_assoc acc 10, Nat.mul_comm 10, Nat.add_assoc]
    rw [e] at h
    rw [Lib.parseUint10, if_pos (by omega)] at hv
    split at hv
    · cases hv
    · split at hv
      · cases hv
      · exact parse_big r _ (fun c hc => hp c (List.mem_cons_of_mem _ hc)) h v hv
/-- Atoi of digits: the number, or none that an int holds. -/
theorem atoi_digits {l : List UInt8} (hp : Plain digitR l) (h0 : l ≠ []) : (digV l ≤ 9223372036854775807 → Lib.atoiAll l = .ok (digV l : Nat)) ∧ (9223372036854775807 < digV l → ∀ v, Lib.atoiAll l ≠ .ok v) := by
  cases l with
  | nil => exact absurd rfl h0
  | cons c r =>
    have hc := (hp c (by simp)).2
    unfold digitR at hc
    have hc := of_decide_eq_true hc
    have hmag : Lib.parseMag (c :: r) = Lib.parseUint10 0 (c :: r) := by unfold Lib.parseMag; rw [if_neg (by simp)]
    rw [Lib.atoiAll_plain c r (by omega) (by omega), hmag]
    constructor
    · intro h
      have hk := parse_ok (c :: r) 0 hp (by rw [Nat.zero_mul, Nat.zero_add]; exact h)
      rw [Nat.zero_mul, Nat.zero_add] at hk
      rw [hk]
      unfold Lib.signless
      simp only
      rw [if_neg (by omega)]
    · intro h v hv
      cases hk : Lib.parseUint10 0 (c :: r)
      case ok u =>
        have := parse_big (c :: r) 0 hp (by rw [Nat.zero_mul, Nat.zero_add]; exact h) u hk
        rw [hk] at hv
        unfold Lib.signless at hv
        simp only at hv
        rw [if_pos (by omega)] at hv
        cases hv
      all_goals (rw [hk] at hv; cases hv)
set_option maxRecDepth 100000 in
theorem rnumber_any (l : List UInt8) (w : World) (hl : l.length ≤ 20000) (hp : Plain digitR l) (h0 : 1 ≤ l.length) : Calls Tryd.prog 28 #[.string (mk l)] w fun e w' => e = .returned (.int .i64 (numV l)) ∧ w = w' := by
  have hsz : (mk l).size = l.length := rfl
  by_cases h19 : l.length ≤ 19
  case neg =>
    have H : Hid (numV l = -1) := Lib.hid (by unfold numV; rw [if_neg (fun h => h19 h.1)])
    have h19' : 19 < l.length := by omega
    go_enter Tryd.func28, Tryd.ntmps28
    go_wp2_with fail
    go_ret
    exact ⟨by rw [H.out]; rfl, rfl⟩
  have hp0 : 0 < (mk l).size := by rw [hsz]; omega
  obtain ⟨a, ha⟩ : ∃ a, l.getD 0 0 = a := ⟨_, rfl⟩
  have hg0 : ((mk l)[0]'hp0).toNat = a.toNat := by
    rw [← ha]
    cases l with
    | nil => simp at h0
    | cons x r => rfl
  by_cases hz : 1 < l.length ∧ a = 48
  · obtain ⟨hz1, rfl⟩ := hz
    have H : Hid (numV l = -1) := Lib.hid (by
      unfold numV
      rw [if_neg (fun h => by
        rcases h.2.1 with k | k
        · omega
        · exact k ha)])
    have hv : ((mk l)[0]'hp0).toNat = 48 := by rw [hg0]; rfl
    clear hg0 ha
    go_enter Tryd.func28, Tryd.ntmps28
    go_wp2_with fail
    go_ret
    exact ⟨by rw [H.out]; rfl, rfl⟩
  have HV : Hid (numV l = if digV l ≤ 9223372036854775807 then ((digV l : Nat) : Int) else -1) := Lib.hid (by
    unfold numV
    by_cases hd : digV l ≤ 9223372036854775807
    · rw [if_pos hd, if_pos ⟨h19, by
        by_cases h1 : l.length = 1
        · exact .inl h1
        · exact .inr (fun e => hz ⟨by omega, by rw [← ha]; exact e⟩), hd⟩]
    · rw [if_neg hd, if_neg (fun h => hd h.2.2)])
  have hcase : l.length ≤ 1 ∨ (1 < l.length ∧ ((((mk l)[0]'hp0).toNat : Int) == 48) = false) := by
    by_cases h1 : l.length ≤ 1
    · exact .inl h1
    · refine .inr ⟨by omega, ?_⟩
      rw [hg0, beq_eq_false_iff_ne]
      intro e
      apply hz
      refine ⟨by omega, ?_⟩
      apply UInt8.toNat_inj.1
      show a.toNat = 48
      omega
  have HP := Lib.hid hp
  clear hz ha hp hg0
  rcases hcase with hc | ⟨hc, hc2⟩
  all_goals
    go_enter Tryd.func28, Tryd.ntmps28
    go_wp2_with fail
    go_loopw [3, 4] (fun n i wr => ∃ j : Nat, i = .int .i64 j ∧ j ≤ l.length ∧ n = .int .i64 (digV (l.take j) : Nat) ∧ digV (l.take j) ≤ 9223372036854775807 ∧ w = wr) (fun n i wr => l.length - (match i with | .int _ x => x.toNat | _ => 0))
    case atStart => exact ⟨0, rfl, Nat.zero_le _, rfl, Nat.zero_le _, rfl⟩
    case round =>
      obtain ⟨j, rfl, hj, rfl, hM, rfl⟩ := hrel
      by_cases h : j < l.length
      · have htk : l.take (j + 1) = l.take j ++ [l[j]'h] := by rw [List.take_add_one, List.getElem?_eq_getElem h]; rfl
        have h' : j < (mk l).size := h
        have hg : ((mk l)[j]'h').toNat = (l[j]'h).toNat := rfl
        have hdg := (HP.out _ (List.getElem_mem h)).2
        unfold digitR at hdg
        have hdg := of_decide_eq_true hdg
        have hsn := digV_snoc (l.take j) (l[j]'h)
        rw [← htk] at hsn
        have hmn := digV_mono l (j + 1)
        obtain ⟨d, hd1, hd2, hd3⟩ : ∃ d : Nat, (((mk l)[j]'h').toNat : Int) - 48 = (d : Int) ∧ d ≤ 9 ∧ (l[j]'h).toNat - 48 = d := ⟨(l[j]'h).toNat - 48, by rw [hg]; omega, by omega, rfl⟩
        have hg48 : 48 ≤ ((mk l)[j]'h').toNat := by rw [hg]; omega
        have hg57 : ((mk l)[j]'h').toNat ≤ 57 := by rw [hg]; omega
        rw [hd3] at hsn
        obtain ⟨m1, hm1, hm2, hm3⟩ : ∃ m1 : Int, 9223372036854775807 - (d : Int) = m1 ∧ 0 ≤ m1 ∧ m1 ≤ 9223372036854775807 := ⟨_, rfl, by omega, by omega⟩
        have HMN := Lib.hid hmn; clear hmn
        generalize digV (l.take j) = n at *
        obtain ⟨n2, hE⟩ : ∃ n2, digV (l.take (j + 1)) = n2 := ⟨_, rfl⟩
        rw [hE] at hsn HMN
        have HE := Lib.hid hE; clear hE
        have HSN := Lib.hid hsn
        obtain ⟨q, hq1, hq2⟩ : ∃ q : Int, m1 / 10 = q ∧ m1.tdiv 10 = q := ⟨m1 / 10, rfl, Int.tdiv_eq_ediv_of_nonneg hm2⟩
        by_cases hbig : q < (n : Int)
        · have HR : Hid (numV l = -1) := Lib.hid (by rw [HV.out, if_neg]; have := HMN.out; omega)
          clear hg htk hsn hdg hd3 HV
          go_wp2_with fail
          go_ret
          exact ⟨by rw [HR.out]; rfl, rfl⟩
        · have hle : n2 ≤ 9223372036854775807 := by omega
          obtain hn2 : 10 * (n : Int) + (d : Int) = (n2 : Int) := by omega
          have hbig' : (n : Int) ≤ q := by omega
          have h10 : 10 * (n : Int) ≤ 9223372036854775807 := by omega
          have hd10 : 10 * (n : Int) + (d : Int) ≤ 9223372036854775807 := by omega
          clear hg htk hsn hdg hd3 HV hbig
          go_wp2_with fail
          go_roundw
          case rel => exact ⟨j + 1, rfl, by omega, by rw [HE.out], by rw [HE.out]; exact hle, trivial⟩
          case measure => simp; omega
      · obtain rfl : j = l.length := by omega
        rw [List.take_length] at hM
        have HR : Hid (numV l = (digV l : Nat)) := Lib.hid (by rw [HV.out, if_pos hM])
        have ht : l.take l.length = l := List.take_length
        rw [ht]
        clear hM HV
        generalize digV l = n at *
        go_wp2_with fail
        go_ret
        exact ⟨by rw [HR.out]; rfl, rfl⟩
end Go.Proofs.YtpoomcejmdlmiaaDoor
