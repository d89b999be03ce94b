/- Plain words: a line put into fine code. -/
import Derived.Test.YtlaihjefmhcmcaaGreatDoorAs4
namespace Go.Proofs.YtlaihjefmhcmcaaGreatDoor
set_option linter.unusedVariables false
def insL (c : Cd) (k : Nat) (b : Ln) : Cd := ⟨c.lines.take k ++ b :: c.lines.drop k, c.arrays⟩
theorem insL_has (c : Cd) (k : Nat) (b : Ln) (n : List UInt8) : hasLab (insL c k b).lines n = (hasLab c.lines n || decide (b.label = n)) := by
  unfold insL
  show hasLab (c.lines.take k ++ ([b] ++ c.lines.drop k)) n = _
  rw [hasLab_app, hasLab_app, hasLab_one, Bool.or_left_comm, ← hasLab_app, List.take_append_drop, Bool.or_comm]
/-- It is told, at its place. -/
theorem insL_fault {c : Cd} (hok : faultL c = (0, -1)) (hl : c.lines.length ≤ 30000) (k : Nat) (hk : k ≤ c.lines.length) (b : Ln) (e : Int) (he : e ≠ 0) (hb : lineE (insL c k b) k b = e) : faultL (insL c k b) = (e, (k : Int)) := by
  obtain ⟨h1, h2, h3, _, h5⟩ := ok_all (c := c) (by rw [hok])
  have hlen : (insL c k b).lines.length = c.lines.length + 1 := by unfold insL; simp; omega
  rw [faultL_lines (insL c k b) (by omega) h2 h3]
  have key : ∀ j, j ≤ k → linesE (insL c k b) (insL c k b).lines 0 = linesE (insL c k b) ((insL c k b).lines.drop j) j := by
    intro j
    induction j with
    | zero => intro _; rfl
    | succ j ih =>
      intro hj
      rw [ih (by omega)]
      have hjl : j < (insL c k b).lines.length := by omega
      have hjc : j < c.lines.length := by omega
      have htk : (c.lines.take k).length = k := by rw [List.length_take]; omega
      have hg : (insL c k b).lines[j]'hjl = c.lines[j]'hjc := by
        have : (insL c k b).lines[j]? = c.lines[j]? := by
          unfold insL
          rw [List.getElem?_append_left (by omega), List.getElem?_take, if_pos (by omega)]
        rw [List.getElem?_eq_getElem hjl, List.getElem?_eq_getElem hjc] at this
        injection this
      have ht : (insL c k b).lines.take j = c.lines.take j := by
        unfold insL
        rw [List.take_append_of_le_length (by omega), List.take_take, Nat.min_eq_left (by omega)]
      rw [linesE_step _ _ _ hjl]
      rw [hg]
      have h0 := ok_line (h5 j hjc)
      refine lineE_ok (fun e => ?_) (fun e => ?_)
      · obtain ⟨a, b', d⟩ := h0.1 e
        exact ⟨a, b', by rw [ht]; exact d⟩
      · obtain ⟨a, b'⟩ := h0.2 e
        refine ⟨a, fun hn => ?_⟩
        have := b' hn
        split at this
        · rename_i q; rw [if_pos q]; exact this
        · rename_i q; rw [if_neg q, insL_has, this]; rfl
  rw [key k (Nat.le_refl _)]
  have hkl : k < (insL c k b).lines.length := by omega
  have hgk : (insL c k b).lines[k]'hkl = b := by
    have : (insL c k b).lines[k]? = some b := by
      unfold insL
      rw [List.getElem?_append_right (by rw [List.length_take]; omega), List.length_take, Nat.min_eq_left hk, Nat.sub_self]
      rfl
    rw [List.getElem?_eq_getElem hkl] at this
    injection this
  have hh := linesE_hit (insL c k b) (insL c k b).lines k hkl (by rw [hgk, hb]; exact he)
  rw [hgk, hb] at hh
  exact hh
/-- The lines that the law puts in. -/
def badA : List Ln := [⟨[], zeroI⟩, ⟨[], ⟨1, 32, 0, 0, 0, []⟩⟩, ⟨[49, 97], zeroI⟩, ⟨[113, 32, 113], zeroI⟩, ⟨[], ⟨25, 0, 0, 0, 0, [110, 111, 119, 104, 101, 114, 101]⟩⟩, ⟨[], ⟨17, 1, 0, 0, 0, mainS⟩⟩]
def badN (i : Nat) : Ln := badA.getD i ⟨[], zeroI⟩
def badE (i : Nat) : Int := if i > 3 then 61 else 60
theorem names_of {names : List (List UInt8)} {raw : List Ln} : ∀ k, ∀ s ∈ (fit1 raw k).1, ∃ q, q < 40 ∧ s = nameL q := by
  intro k s hs
  have key : ∀ (L : List Ln) (st : List (List UInt8) × List Ln), (∀ s ∈ st.1, ∃ q, q < 40 ∧ s = nameL q) → ∀ s ∈ (L.foldl fitStep st).1, ∃ q, q < 40 ∧ s = nameL q := by
    intro L
    induction L with
    | nil => intro st h; exact h
    | cons r L ih =>
      intro st h
      refine ih _ ?_
      unfold fitStep
      split
      · split
        · exact h
        · intro s hs
          rcases List.mem_append.1 hs with hs | hs
          · exact h s hs
          · rw [List.mem_singleton.1 hs]
            refine ⟨_, ?_, rfl⟩
            have a := pickN_lo r.ins.n 40 (by decide)
            have b := pickN_hi r.ins.n 40 (by decide)
            omega
      · exact h
  exact key _ _ (fun s h => by cases h) s hs
theorem nowhere_no : ∀ q : Fin 40, nameL q.val ≠ [110, 111, 119, 104, 101, 114, 101] := by decide +kernel
theorem fitC_nowhere (raw : List Ln) (hr : AllRaw raw) : hasLab (fitC raw).lines [110, 111, 119, 104, 101, 114, 101] = false := by
  have hlab : (fitC raw).lines.map (·.label) = (fit2 (fit1 raw 40)).2.map (·.label) := labs_fix _ _
  rw [hasLab_labs hlab, (fit2_good raw hr).1.has _ (by simp)]
  rw [← Bool.not_eq_true, List.contains_iff_mem]
  intro hm
  unfold fit2 at hm
  split at hm
  · simp [mainS] at hm
  · obtain ⟨q, hq, e⟩ := names_of (names := []) 40 _ hm
    exact nowhere_no ⟨q, hq⟩ e.symm
theorem bad_line (raw : List Ln) (hr : AllRaw raw) (k i : Nat) (hi : i < 6) : lineE (insL (fitC raw) k (badN i)) k (badN i) = badE i := by
  have hnw := fitC_nowhere raw hr
  match i, hi with
  | 0, _ => unfold lineE; rfl
  | 1, _ => unfold lineE; rfl
  | 2, _ => unfold lineE; rfl
  | 3, _ => unfold lineE; rfl
  | 4, _ =>
    have e : badN 4 = ⟨[], ⟨25, 0, 0, 0, 0, [110, 111, 119, 104, 101, 114, 101]⟩⟩ := rfl
    have hh : hasLab (insL (fitC raw) k (badN 4)).lines [110, 111, 119, 104, 101, 114, 101] = false := by
      rw [insL_has, hnw]; rfl
    unfold lineE
    rw [e] at hh ⊢
    rw [if_neg (by simp), if_neg (by decide), if_pos]
    · rfl
    · exact ⟨by simp, by rw [if_neg (by decide)]; exact hh⟩
  | 5, _ => unfold lineE; rfl
theorem bad_fault (raw : List Ln) (hr : AllRaw raw) (k i : Nat) (hk : k ≤ (fitC raw).lines.length) (hi : i < 6) : faultL (insL (fitC raw) k (badN i)) = (badE i, (k : Int)) :=
  insL_fault (fitC_ok raw hr) (by have := fitC_len raw hr; omega) k hk _ _ (by unfold badE; split <;> decide) (bad_line raw hr k i hi)
end Go.Proofs.YtlaihjefmhcmcaaGreatDoor
