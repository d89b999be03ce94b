/- Plain words and rows for AsmTwice. -/
import Derived.Test.YtlaihjefmhcmcaaGreatDoorRows
import Derived.WalkKit
import Derived.ProofKit
import Derived.OpenShut
import Derived.WalkLawsBesides
import Derived.WalkSpells
import Derived.Outline
import Derived.Handy
import Derived.Lib.Hide
import Derived.Lib.OthersKept
import Derived.KernelRfl
import Derived.Carry
import Derived.Test.YtlaihjefmhcmcaaGreatDoorAs8
namespace Go.Proofs.YtlaihjefmhcmcaaGreatDoor
open Go.ChangeShapes Go.WideShapes Go.ChangeAt Go.RowKit
set_option linter.unusedVariables false
/-- The places of the labels among the first lines. -/
def atN (L : List Ln) : Nat → List Int
  | 0 => []
  | i + 1 => if ((L.map (·.label)).getD i []) ≠ [] then atN L i ++ [(i : Int)] else atN L i
theorem lab_getD (L : List Ln) (i : Nat) (h : i < L.length) : (L.map (·.label)).getD i [] = (L[i]'h).label := by
  rw [List.getD_eq_getElem?_getD, List.getElem?_map, List.getElem?_eq_getElem h]; rfl
theorem at_step (L : List Ln) (i : Nat) (h : i < L.length) : atN L (i + 1) = if (L[i]'h).label ≠ [] then atN L i ++ [(i : Int)] else atN L i := by
  rw [atN, lab_getD L i h]
theorem at_len (L : List Ln) : ∀ i, (atN L i).length ≤ i
  | 0 => Nat.le_refl _
  | i + 1 => by
    have := at_len L i
    rw [atN]
    split
    · simp; omega
    · omega
theorem at_mem (L : List Ln) : ∀ i, i ≤ L.length → ∀ v ∈ atN L i, ∃ (k : Nat) (h : k < L.length), v = (k : Int) ∧ (L[k]'h).label ≠ []
  | 0, _, v, hv => by cases hv
  | i + 1, hi, v, hv => by
    rw [at_step L i (by omega)] at hv
    split at hv
    · rename_i hl
      rcases List.mem_append.1 hv with hv | hv
      · exact at_mem L i (by omega) v hv
      · exact ⟨i, by omega, List.mem_singleton.1 hv, hl⟩
    · exact at_mem L i (by omega) v hv
theorem at_ne (L : List Ln) (k : Nat) (hk : k < L.length) (hl : (L[k]'hk).label ≠ []) : ∀ i, k < i → i ≤ L.length → atN L i ≠ []
  | 0, h, _ => by omega
  | i + 1, h, hi => by
    rw [at_step L i (by omega)]
    by_cases e : k = i
    · subst e
      rw [if_pos hl]; simp
    · have := at_ne L k hk hl i (by omega) (by omega)
      split
      · simp
      · exact this
theorem has_get {L : List Ln} {n : List UInt8} (h : hasLab L n = true) : ∃ (k : Nat) (hk : k < L.length), (L[k]'hk).label = n := by
  obtain ⟨l, hl, e⟩ := List.any_eq_true.1 h
  obtain ⟨k, hk, rfl⟩ := List.getElem_of_mem hl
  exact ⟨k, hk, of_decide_eq_true e⟩
theorem get_has {L : List Ln} {k : Nat} (hk : k < L.length) : hasLab L (L[k]'hk).label = true := List.any_eq_true.2 ⟨_, List.getElem_mem hk, decide_eq_true rfl⟩
theorem fitC_at (raw : List Ln) (hr : AllRaw raw) : atN (fitC raw).lines (fitC raw).lines.length ≠ [] := by
  obtain ⟨hg, _, hne, _⟩ := fit2_good raw hr
  have hlab : (fitC raw).lines.map (·.label) = (fit2 (fit1 raw 40)).2.map (·.label) := labs_fix _ _
  cases hn : (fit2 (fit1 raw 40)).1 with
  | nil => exact absurd hn hne
  | cons s r =>
    have hs := hg.lab s (by rw [hn]; simp)
    have := hg.has s (lab_ne hs)
    rw [hn, ← hasLab_labs hlab] at this
    obtain ⟨k, hk, e⟩ := has_get (this.trans (by simp))
    exact at_ne _ k hk (by rw [e]; exact lab_ne hs) _ hk (Nat.le_refl _)
theorem flat_le {α : Type} (f : α → List UInt8) (m : Nat) : ∀ (L : List α), (∀ x ∈ L, (f x).length ≤ m) → (L.flatMap f).length ≤ L.length * m
  | [], _ => by simp
  | x :: L, h => by
    have h1 := h x (by simp)
    have h2 := flat_le f m L (fun y hy => h y (List.mem_cons_of_mem _ hy))
    rw [List.flatMap_cons, List.length_append, List.length_cons, Nat.succ_mul]
    omega
theorem fitC_txt (raw : List Ln) (hr : AllRaw raw) : (cdTxt (fitC raw)).length ≤ 20000 := by
  have hl := fitC_len raw hr
  have h1 : ((fitC raw).lines.flatMap lnTxt).length ≤ (fitC raw).lines.length * 310 := by
    refine flat_le _ _ _ (fun l hl => ?_)
    obtain ⟨i, hi, rfl⟩ := List.getElem_of_mem hl
    obtain ⟨h0, hn⟩ := fitC_lines raw hr i hi
    have := ok_line h0
    unfold lnTxt
    by_cases e : ((fitC raw).lines[i]'hi).label = []
    · rw [if_neg (by simp [e])]
      have := txt_len (this.2 e).1 hn
      simp; omega
    · rw [if_pos e]
      have := lab_le (this.1 e).1
      simp; omega
  have h2 : ((fitC raw).arrays.flatMap arrTxt).length ≤ 100 := by rw [fitC_arrs]; decide +kernel
  unfold cdTxt
  rw [List.length_append]
  have : (fitC raw).lines.length * 310 ≤ 41 * 310 := Nat.mul_le_mul_right _ hl
  omega
/-- A row's first lines are lines that lie there. -/
theorem pre_lns {w : World} {base : Nat} {e : TypeId} {g n cap cap' : Nat} {M : List Ln} {x : Ln} (h : w.ownsRow base e 7 (.slice (some ⟨g, 0, none⟩) n cap) n ((M ++ [x]).flatMap cellsL)) (hM : M.length ≤ 1000) : LnsAt w (.slice (some ⟨g, 0, none⟩) M.length cap') M := by
  obtain ⟨_, p, c, hq, hc⟩ := row_get lenL (by decide) h
  injection hq with hq1 _ _
  refine ⟨by omega, _, _, rfl, fun i hi => ⟨_, rfl, ?_⟩⟩
  obtain ⟨g', hg, _, hcg⟩ := hc i (by simp; omega)
  rw [← hq1] at hg
  injection hg with hg
  injection hg with hg _ _
  subst hg
  have e : (M ++ [x])[i]'(by simp; omega) = M[i]'hi := List.getElem_append_left hi
  rw [e] at hcg
  rw [addr_add, Nat.zero_add]
  unfold LnAt
  simp only [addr_add]
  exact ⟨hcg 0 (by decide), hcg 1 (by decide), hcg 2 (by decide), hcg 3 (by decide), hcg 4 (by decide), hcg 5 (by decide), hcg 6 (by decide)⟩
theorem app_at {w : World} {B B2 : Nat} {c : Cd} {x : Ln} {pa pl : Option Addr} {ca cl : Nat} (hl : c.lines.length ≤ 41) (har : c.arrays = arrsAB) (h1 : w.ownsRow B 44 2 (.slice pa 2 ca) 2 (arrsAB.flatMap cellsA)) (h2 : w.ownsRow B2 48 7 (.slice pl (c.lines.length + 1) cl) (c.lines.length + 1) ((c.lines ++ [x]).flatMap cellsL)) :
    CdAt w (.agg #[.slice pa 2 ca, .slice pl (c.lines.length + 1) cl]) ⟨c.lines ++ [x], c.arrays⟩ := by
  refine ⟨_, _, rfl, ?_, row_lns h2 (by simp; omega), ?_, by simp; omega⟩
  · rw [har]; exact row_ars (L := arrsAB) h1 (by decide)
  · rw [har]; decide
theorem app_fit {c : Cd} (h : CdFit c) {n : List UInt8} (hn : n.length ≤ 40) : CdFit ⟨c.lines ++ [⟨n, zeroI⟩], c.arrays⟩ := by
  refine ⟨fun l hl => ?_, h.2⟩
  rcases List.mem_append.1 hl with hl | hl
  · exact h.1 l hl
  · rw [List.mem_singleton.1 hl]
    exact ⟨by show n.length ≤ _; omega, by simp [zeroI]⟩
end Go.Proofs.YtlaihjefmhcmcaaGreatDoor
