/- The walk of AsmLeads. -/
import Derived.Test.YtlaihjefmhcmcaaGreatDoorRows
import Derived.WalkKit
import Derived.ProofKit
import Derived.OpenShut
import Derived.WalkLawsBesides
import Derived.WalkSpells
import Derived.Outline
import Derived.Handy
import Derived.Lib.Hide
import Derived.Lib.OthersKept
import Derived.KernelRfl
import Derived.Carry
import Derived.RegionTactic
import Derived.BigRegion
import Derived.BigQuiet
import Derived.Deep.QuietTactic
import Derived.Deep.RegionHeld3
import Derived.Test.YtlaihjefmhcmcaaGreatDoorAsF
import Derived.Test.YtlaihjefmhcmcaaGreatDoorAsAw
namespace Go.Proofs.YtlaihjefmhcmcaaGreatDoor
open Go.ChangeShapes Go.WideShapes Go.ChangeAt Go.RowKit
set_option linter.unusedVariables false
theorem FitRes.shape {B : Nat} {c : Cd} {e : Ending} {w : World} (h : FitRes B c e w) : ∃ pa ca pl cl, e = .returned (.agg #[.slice pa 2 ca, .slice pl c.lines.length cl]) ∧ w.ownsRow B 44 2 (.slice pa 2 ca) 2 (arrsAB.flatMap cellsA) ∧ w.ownsRow B 48 7 (.slice pl c.lines.length cl) c.lines.length (c.lines.flatMap cellsL) := by
  obtain ⟨va, vl, rfl, h1, h2⟩ := h
  obtain ⟨pa, ca, rfl⟩ := own_slice h1
  obtain ⟨pl, cl, rfl⟩ := own_slice h2
  exact ⟨pa, ca, pl, cl, rfl, h1, h2⟩
theorem fitC_arrs (raw : List Ln) : (fitC raw).arrays = arrsAB := rfl
theorem fit_code {raw : List Ln} (hr : AllRaw raw) {w : World} {B : Nat} {pa pl : Option Addr} {ca cl : Nat} (h1 : w.ownsRow B 44 2 (.slice pa 2 ca) 2 (arrsAB.flatMap cellsA)) (h2 : w.ownsRow B 48 7 (.slice pl (fitC raw).lines.length cl) (fitC raw).lines.length ((fitC raw).lines.flatMap cellsL)) :
    CdAt w (.agg #[.slice pa 2 ca, .slice pl (fitC raw).lines.length cl]) (fitC raw) := by
  have hl := fitC_len raw hr
  exact ⟨_, _, rfl, row_ars (L := arrsAB) h1 (by decide), row_lns h2 (by omega), by rw [fitC_arrs]; decide, by omega⟩
theorem fitC_fit (raw : List Ln) (hr : AllRaw raw) : CdFit (fitC raw) := by
  refine ⟨fun l hl => ?_, fun a ha => ?_⟩
  · obtain ⟨i, hi, rfl⟩ := List.getElem_of_mem hl
    obtain ⟨h0, hn⟩ := fitC_lines raw hr i hi
    have := ok_line h0
    by_cases e : ((fitC raw).lines[i]'hi).label = []
    · obtain ⟨k1, _⟩ := this.2 e
      have h3 := (right_fits k1 hn).2.2.2.2
      rw [e]
      exact ⟨by simp, by omega⟩
    · obtain ⟨k1, k2, _⟩ := this.1 e
      have h3 := lab_le k1
      rw [k2]
      exact ⟨by omega, by simp [zeroI]⟩
  · rw [fitC_arrs] at ha
    simp [arrsAB] at ha
    rcases ha with rfl | rfl <;> simp
/-! What the loops reckon. -/
def freeN (L : List Ln) (i : Nat) : Nat := (flatI (L.take i)).length
theorem free_step (L : List Ln) (i : Nat) (h : i < L.length) : freeN L (i + 1) = if (L[i]'h).label = [] then freeN L i + 1 else freeN L i := by
  unfold freeN
  rw [List.take_succ_eq_append_getElem h, flatI_snoc]
  split
  · simp
  · rfl
theorem free_at (L : List Ln) (i : Nat) (h : i < L.length) (hl : (L[i]'h).label = []) : ∃ h' : freeN L i < (flatI L).length, (flatI L)[freeN L i]'h' = (L[i]'h).ins := by
  have e : flatI L = flatI (L.take i) ++ (L[i]'h).ins :: flatI (L.drop (i + 1)) := by
    have : L = L.take i ++ ([L[i]'h] ++ L.drop (i + 1)) := by rw [List.singleton_append, ← List.drop_eq_getElem_cons h, List.take_append_drop]
    conv => lhs; rw [this]
    unfold flatI
    rw [List.filter_append, List.map_append, List.filter_append, List.map_append]
    simp [hl]
  have h' : freeN L i < (flatI L).length := by rw [e]; unfold freeN; simp
  refine ⟨h', ?_⟩
  have : (flatI L)[freeN L i]? = some (L[i]'h).ins := by
    rw [e, List.getElem?_append_right (by unfold freeN; omega)]
    unfold freeN; simp
  rw [List.getElem?_eq_getElem h'] at this
  injection this
theorem free_all (L : List Ln) (i : Nat) (h : L.length ≤ i) : freeN L i = (flatI L).length := by unfold freeN; rw [List.take_of_length_le h]
/-- The first line of a label. -/
theorem first_at (L : List Ln) (n : List UInt8) (h : hasLab L n = true) : ∃ K, ∃ hK : K < L.length, (L[K]'hK).label = n ∧ (∀ j (hj : j < K), (L[j]'(by omega)).label ≠ n) ∧ aheadL L n = freeN L K := by
  induction L with
  | nil => cases h
  | cons l L ih =>
    by_cases e : l.label = n
    · exact ⟨0, by simp, e, fun j hj => by omega, by unfold aheadL freeN; simp [e, flatI]⟩
    · have h' : hasLab L n = true := by
        unfold hasLab at h ⊢
        rw [List.any_cons, decide_eq_false e, Bool.false_or] at h
        exact h
      obtain ⟨K, hK, h1, h2, h3⟩ := ih h'
      refine ⟨K + 1, by simp; omega, by simpa using h1, fun j hj => ?_, ?_⟩
      · cases j with
        | zero => simpa using e
        | succ j => simpa using h2 j (by omega)
      · have a : aheadL (l :: L) n = aheadL L n + if l.label = [] then 1 else 0 := by
          unfold aheadL
          rw [List.takeWhile_cons, if_pos (by simp [e]), List.filter_cons]
          split
          · rename_i k; rw [if_pos (of_decide_eq_true k)]; rfl
          · rename_i k; rw [if_neg (by simpa using k)]; rfl
        have b : freeN (l :: L) (K + 1) = freeN L K + if l.label = [] then 1 else 0 := by
          unfold freeN flatI
          rw [List.take_succ_cons, List.filter_cons]
          split
          · rename_i k; rw [if_pos (of_decide_eq_true k)]; simp
          · rename_i k; rw [if_neg (by simpa using k)]; rfl
        rw [a, b, h3]
theorem row_in {w : World} {base : Nat} {e : TypeId} {p : Option Addr} {m n cap : Nat} {L : List In} (h : w.ownsRow base e 6 (.slice p m cap) n (L.flatMap cellsI)) {i : Nat} (hi : i < L.length) {x : In} (hx : L[i]'hi = x) :
    ∃ g, p = some ⟨g, 0, none⟩ ∧ g < w.heap.size ∧ w.cell? ⟨g, i * 6, none⟩ = some (.int .i64 x.op) ∧ w.cell? ⟨g, i * 6 + 1, none⟩ = some (.int .i64 x.d) ∧ w.cell? ⟨g, i * 6 + 2, none⟩ = some (.int .i64 x.a) ∧ w.cell? ⟨g, i * 6 + 3, none⟩ = some (.int .i64 x.b) ∧ w.cell? ⟨g, i * 6 + 4, none⟩ = some (.int .i64 x.n) ∧ w.cell? ⟨g, i * 6 + 5, none⟩ = some (.string (mk x.name)) := by
  obtain ⟨_, p', c, hq, hc⟩ := row_get lenI (by decide) h
  obtain ⟨g, hg, _, hcg⟩ := hc i hi
  injection hq with hq1 _ _
  subst hq1
  rw [hx] at hcg
  have h0 := hcg 0 (by decide)
  exact ⟨g, hg, at_lt h0, h0, hcg 1 (by decide), hcg 2 (by decide), hcg 3 (by decide), hcg 4 (by decide), hcg 5 (by decide)⟩
theorem row_line {w : World} {base : Nat} {e : TypeId} {p : Option Addr} {m n cap : Nat} {L : List Ln} (h : w.ownsRow base e 7 (.slice p m cap) n (L.flatMap cellsL)) {i : Nat} (hi : i < L.length) {x : Ln} (hx : L[i]'hi = x) :
    ∃ g, p = some ⟨g, 0, none⟩ ∧ g < w.heap.size ∧ w.cell? ⟨g, i * 7, none⟩ = some (.string (mk x.label)) ∧ w.cell? ⟨g, i * 7 + 1, none⟩ = some (.int .i64 x.ins.op) ∧ w.cell? ⟨g, i * 7 + 2, none⟩ = some (.int .i64 x.ins.d) ∧ w.cell? ⟨g, i * 7 + 3, none⟩ = some (.int .i64 x.ins.a) ∧ w.cell? ⟨g, i * 7 + 4, none⟩ = some (.int .i64 x.ins.b) ∧ w.cell? ⟨g, i * 7 + 5, none⟩ = some (.int .i64 x.ins.n) ∧ w.cell? ⟨g, i * 7 + 6, none⟩ = some (.string (mk x.ins.name)) := by
  obtain ⟨_, p', c, hq, hc⟩ := row_get lenL (by decide) h
  obtain ⟨g, hg, _, hcg⟩ := hc i hi
  injection hq with hq1 _ _
  subst hq1
  rw [hx] at hcg
  have h0 := hcg 0 (by decide)
  exact ⟨g, hg, at_lt h0, h0, hcg 1 (by decide), hcg 2 (by decide), hcg 3 (by decide), hcg 4 (by decide), hcg 5 (by decide), hcg 6 (by decide)⟩
theorem row_num {w : World} {base : Nat} {e : TypeId} {p : Option Addr} {m n cap : Nat} {L : List Int} (h : w.ownsRow base e 1 (.slice p m cap) n (L.flatMap cellsN)) {i : Nat} (hi : i < L.length) {x : Int} (hx : L[i]'hi = x) :
    ∃ g, p = some ⟨g, 0, none⟩ ∧ g < w.heap.size ∧ w.cell? ⟨g, i, none⟩ = some (.int .i64 x) := by
  obtain ⟨_, p', c, hq, hc⟩ := row_get lenN (by decide) h
  obtain ⟨g, hg, _, hcg⟩ := hc i hi
  injection hq with hq1 _ _
  subst hq1
  rw [hx] at hcg
  have h0 := hcg 0 (by decide)
  rw [Nat.mul_one] at h0
  have h1 : w.cell? ⟨g, i, none⟩ = some (.int .i64 x) := h0
  exact ⟨g, hg, at_lt h1, h1⟩
theorem ahead_le (L : List Ln) (n : List UInt8) : aheadL L n ≤ L.length := by
  unfold aheadL
  have a := (List.filter_sublist (p := fun l : Ln => decide (l.label = [])) (l := L.takeWhile fun l => decide (l.label ≠ n))).length_le
  have b := (List.takeWhile_sublist (fun l : Ln => decide (l.label ≠ n)) (l := L)).length_le
  omega
end Go.Proofs.YtlaihjefmhcmcaaGreatDoor
