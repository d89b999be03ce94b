/- The document's own answer: names. -/
import Derived.Test.YtpoomcejmdlmiaaDoorRows
import Derived.WalkKit
import Derived.ProofKit
import Derived.OpenShut
import Derived.WalkLawsBesides
import Derived.WalkSpells
import Derived.Outline
import Derived.Handy
import Derived.Lib.Hide
import Derived.Lib.OthersKept
import Derived.KernelRfl
import Derived.Test.YtpoomcejmdlmiaaDoorScEb
namespace Go.Proofs.YtpoomcejmdlmiaaDoor
open Go.ChangeShapes Go.WideShapes Go.ChangeAt Go.RowKit
set_option linter.unusedVariables false
/-- Where the first byte stands that is no character of a kind, of which all are ASCII. -/
theorem span_first (p : Int → Bool) (hp : ∀ r : Int, 128 ≤ r → p r = false) (pre : List UInt8) (b : UInt8) (rest : List UInt8) (hpre : Plain p pre) (hb : p (b.toNat : Int) = false) : spanL p (mk (pre ++ b :: rest)) = pre.length := by
  have hi : pre.length < (pre ++ b :: rest).length := by simp
  have eb : (pre ++ b :: rest)[pre.length]'hi = b := by rw [List.getElem_append_right (Nat.le_refl _)]; simp
  have hend : spanR p (mk (pre ++ b :: rest)) (mk (pre ++ b :: rest)).size pre.length = pre.length := by
    rw [spanR_step _ _ _ hi]
    by_cases ha : b.toNat < 128
    · have e := (ascL (pre ++ b :: rest) pre.length hi (by rw [eb]; exact ha)).1
      rw [e, eb, hb]; rfl
    · have hg : ((mk (pre ++ b :: rest))[pre.length]'hi).toNat = b.toNat := congrArg UInt8.toNat eb
      have hd := (decode_high (mk (pre ++ b :: rest)) pre.length hi (by rw [hg]; omega)).1
      rw [hp _ (by unfold rn; omega)]; rfl
  have key : ∀ k, k ≤ pre.length → spanR p (mk (pre ++ b :: rest)) (mk (pre ++ b :: rest)).size (pre.length - k) = pre.length := by
    intro k
    induction k with
    | zero => intro _; rw [Nat.sub_zero]; exact hend
    | succ k ih =>
      intro hk
      have hi2 : pre.length - (k + 1) < (mk (pre ++ b :: rest)).size := by rw [mk_size, List.length_append]; omega
      have hlt : pre.length - (k + 1) < pre.length := by omega
      have eg : (pre ++ b :: rest)[pre.length - (k + 1)]'hi2 = pre[pre.length - (k + 1)]'hlt := List.getElem_append_left hlt
      have hm := hpre _ (List.getElem_mem hlt)
      obtain ⟨e1, e2⟩ := ascL (pre ++ b :: rest) (pre.length - (k + 1)) hi2 (by rw [eg]; exact hm.1)
      rw [spanR_step _ _ _ hi2, e1, e2, eg, hm.2, if_pos rfl]
      have : pre.length - (k + 1) + 1 = pre.length - k := by omega
      rw [this]
      exact ih (by omega)
  have := key pre.length (Nat.le_refl _)
  rw [Nat.sub_self] at this
  exact this
theorem high_not (r : Int) (h : 128 ≤ r) : inNameR r = false ∧ digitR r = false ∧ letterR r = false := by
  have h1 : letterR r = false := decide_eq_false (by omega)
  have h2 : digitR r = false := decide_eq_false (by omega)
  unfold inNameR
  rw [h1, h2]; exact ⟨rfl, rfl, rfl⟩
theorem plain_iff (p : Int → Bool) (hp : ∀ r : Int, 128 ≤ r → p r = false) (l : List UInt8) : (spanL p (mk l) = l.length) ↔ ∀ c ∈ l, p (c.toNat : Int) = true := by
  have hpl : ∀ l : List UInt8, (∀ c ∈ l, p (c.toNat : Int) = true) → Plain p l := fun l h c hc => by
    refine ⟨?_, h c hc⟩
    apply Classical.byContradiction
    intro k
    have := hp (c.toNat : Int) (by omega)
    rw [h c hc] at this; cases this
  constructor
  · intro h
    apply Classical.byContradiction
    intro hn
    have : ∃ pre b rest, l = pre ++ b :: rest ∧ (∀ c ∈ pre, p (c.toNat : Int) = true) ∧ p (b.toNat : Int) = false := by
      clear h
      induction l with
      | nil => exact absurd (fun c hc => by cases hc) hn
      | cons a r ih =>
        cases ha : p (a.toNat : Int)
        · exact ⟨[], a, r, rfl, (fun c hc => by cases hc), ha⟩
        · obtain ⟨pre, b, rest, e, h1, h2⟩ := ih (fun hr => hn (fun c hc => by
            rcases List.mem_cons.1 hc with rfl | hc
            · exact ha
            · exact hr c hc))
          exact ⟨a :: pre, b, rest, by rw [e]; rfl, (fun c hc => by
            rcases List.mem_cons.1 hc with rfl | hc
            · exact ha
            · exact h1 c hc), h2⟩
    obtain ⟨pre, b, rest, rfl, h1, h2⟩ := this
    rw [span_first p hp pre b rest (hpl pre h1) h2, List.length_append] at h
    simp at h
  · intro h
    have := span_run p l [] (hpl l h) (.inl rfl)
    rw [List.append_nil] at this
    exact this
set_option maxRecDepth 100000 in
theorem rname_any (l : List UInt8) (w : World) (hl : l.length ≤ 20000) : Calls Tryd.prog 9 #[.string (mk l)] w fun e w' => e = .returned (.bool (nameB (mk l))) ∧ w = w' := by
  have hsz : (mk l).size = l.length := rfl
  have hn := fun (x : Bool) (k : nameB (mk l) = x) => Lib.hid k
  by_cases h1 : 1 ≤ l.length
  case neg =>
    have H := hn false (by unfold nameB; rw [hsz, decide_eq_false h1]; rfl)
    have h1' : l.length < 1 := by omega
    clear hn
    go_enter Tryd.func9, Tryd.ntmps9
    go_wp2_with fail
    go_ret
    exact ⟨by rw [H.out]; rfl, rfl⟩
  by_cases h2 : l.length ≤ 20
  case neg =>
    have H := hn false (by unfold nameB; rw [hsz, decide_eq_false h2, Bool.and_false]; rfl)
    have h2' : 20 < l.length := by omega
    clear hn
    go_enter Tryd.func9, Tryd.ntmps9
    go_wp2_with fail
    go_ret
    exact ⟨by rw [H.out]; rfl, rfl⟩
  obtain ⟨a, r, hL⟩ : ∃ a r, l = a :: r := by
    cases l with
    | nil => simp at h1
    | cons a r => exact ⟨a, r, rfl⟩
  have hN : nameB (mk l) = (!(wordB (mk l)) && letterR (a.toNat : Int) && (spanL inNameR (mk l) == l.length)) := by
    unfold nameB
    rw [hsz, decide_eq_true h1, decide_eq_true h2, hL]; rfl
  have hp0 : 0 < (mk l).size := by rw [hsz]; omega
  have hg0 : ((mk l)[0]'hp0).toNat = a.toNat := by subst hL; rfl
  have hl0 := Lib.hid (fun w => rletter_any (a.toNat : Int) w)
  cases hla : letterR (a.toNat : Int)
  · have H := hn false (by rw [hN, hla, Bool.and_false, Bool.false_and])
    rw [hla] at hl0
    clear hn hN hla hL
    go_enter Tryd.func9, Tryd.ntmps9
    go_wp2_with (go_at_call 19; refine (hl0.out _).mono ?_; rintro e w1 ⟨rfl, rfl⟩)
    go_ret
    exact ⟨by rw [H.out]; rfl, rfl⟩
  have hpi := plain_iff inNameR (fun r h => (high_not r h).1) l
  have HBAD : Hid (∀ c ∈ l, inNameR (c.toNat : Int) = false → nameB (mk l) = false) := Lib.hid (fun c hc hcn => by
    have : (spanL inNameR (mk l) == l.length) = false := by
      rw [beq_eq_false_iff_ne]
      intro e
      have := hpi.1 e c hc
      rw [hcn] at this; cases this
    rw [hN, this, Bool.and_false])
  have HGOOD : Hid ((∀ c ∈ l, inNameR (c.toNat : Int) = true) → nameB (mk l) = !(wordB (mk l))) := Lib.hid (fun h => by
    rw [hN, hla, hpi.2 h]; simp)
  rw [hla] at hl0
  have hwd := Lib.hid (fun w => rword_any l w hl)
  clear hn hN hla hpi hL
  go_enter Tryd.func9, Tryd.ntmps9
  go_wp2_with (go_at_call 19; refine (hl0.out _).mono ?_; rintro e w1 ⟨rfl, rfl⟩)
  go_loopw [3] (fun i wr => ∃ j : Nat, i = .int .i64 j ∧ j ≤ l.length ∧ (∀ c ∈ l.take j, inNameR (c.toNat : Int) = true) ∧ w = wr) (fun i wr => l.length - (match i with | .int _ x => x.toNat | _ => 0))
  case atStart => exact ⟨0, rfl, Nat.zero_le _, (fun c hc => by cases hc), rfl⟩
  case round =>
    obtain ⟨j, rfl, hj, hlt, rfl⟩ := hrel
    have HLT := Lib.hid hlt; clear hlt
    by_cases h : j < l.length
    · have htk : l.take (j + 1) = l.take j ++ [l[j]'h] := by rw [List.take_add_one, List.getElem?_eq_getElem h]; rfl
      have h' : j < (mk l).size := h
      have hg : ((mk l)[j]'h').toNat = (l[j]'h).toNat := rfl
      have hm : l[j]'h ∈ l := List.getElem_mem h
      generalize l[j]'h = c at *
      have hle := Lib.hid (fun w => rletter_any (c.toNat : Int) w)
      have hdi := Lib.hid (fun w => rdigit_any (c.toNat : Int) w)
      have HSTEP : Hid (inNameR (c.toNat : Int) = true → ∀ x ∈ l.take (j + 1), inNameR (x.toNat : Int) = true) := Lib.hid (fun hc x hx => by
        rw [htk] at hx
        rcases List.mem_append.1 hx with k | k
        · exact HLT.out x k
        · rw [List.mem_singleton.1 k]; exact hc)
      have HB : Hid (inNameR (c.toNat : Int) = false → nameB (mk l) = false) := Lib.hid (HBAD.out c hm)
      clear htk hm hl0 hg0
      cases hc1 : letterR (c.toNat : Int)
      · cases hc2 : digitR (c.toNat : Int)
        · have HR := Lib.hid (HB.out (by unfold inNameR; rw [hc1, hc2]; rfl))
          rw [hc1] at hle; rw [hc2] at hdi
          clear hc1 hc2
          go_wp2_with (first | (go_at_call 19; refine (hle.out _).mono ?_; rintro e w1 ⟨rfl, rfl⟩) | (go_at_call 20; refine (hdi.out _).mono ?_; rintro e w1 ⟨rfl, rfl⟩))
          go_ret
          exact ⟨by rw [HR.out]; rfl, rfl⟩
        · have HR := Lib.hid (HSTEP.out (by unfold inNameR; rw [hc1, hc2]; rfl))
          rw [hc1] at hle; rw [hc2] at hdi
          clear hc1 hc2
          go_wp2_with (first | (go_at_call 19; refine (hle.out _).mono ?_; rintro e w1 ⟨rfl, rfl⟩) | (go_at_call 20; refine (hdi.out _).mono ?_; rintro e w1 ⟨rfl, rfl⟩))
          go_roundw
          case rel => exact ⟨j + 1, rfl, by omega, HR.out, trivial⟩
          case measure => simp; omega
      · have HR := Lib.hid (HSTEP.out (by unfold inNameR; rw [hc1]; rfl))
        rw [hc1] at hle
        clear hc1
        go_wp2_with (first | (go_at_call 19; refine (hle.out _).mono ?_; rintro e w1 ⟨rfl, rfl⟩) | (go_at_call 20; refine (hdi.out _).mono ?_; rintro e w1 ⟨rfl, rfl⟩))
        go_roundw
        case rel => exact ⟨j + 1, rfl, by omega, HR.out, trivial⟩
        case measure => simp; omega
    · obtain rfl : j = l.length := by omega
      have hall := HLT.out
      rw [List.take_length] at hall
      have HR := Lib.hid (HGOOD.out hall)
      clear hall HLT HGOOD HBAD hl0 hg0
      generalize wordB (mk l) = b at *
      go_wp2_with (go_at_call 11; refine (hwd.out _).mono ?_; rintro e w1 ⟨rfl, rfl⟩)
      go_ret
      exact ⟨by rw [HR.out]; rfl, rfl⟩
end Go.Proofs.YtpoomcejmdlmiaaDoor
