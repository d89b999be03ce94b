/- The law's own helpers: a text and its kind out of raw numbers. -/
import Derived.Test.YtpoomcejmdlmiaaDoorRows
import Derived.WalkKit
import Derived.ProofKit
import Derived.OpenShut
import Derived.WalkLawsBesides
import Derived.WalkSpells
import Derived.Outline
import Derived.Handy
import Derived.Lib.Hide
import Derived.Lib.OthersKept
import Derived.KernelRfl
import Derived.RegionTactic
import Derived.BigRegion
import Derived.Deep.RegionHeld3
import Derived.Laws.Runes
import Derived.Test.YtpoomcejmdlmiaaDoorScT
namespace Go.Proofs.YtpoomcejmdlmiaaDoor
open Go.ChangeShapes Go.WideShapes Go.ChangeAt Go.RowKit
set_option linter.unusedVariables false
def wordTexts : List (List UInt8) := [[105, 110, 116], [105, 102], [101, 108, 115, 101], [119, 104, 105, 108, 101], [98, 114, 101, 97, 107], [99, 111, 110, 116, 105, 110, 117, 101], [114, 101, 116, 117, 114, 110], [112, 114, 105, 110, 116], [114, 101, 97, 100], [116, 114, 97, 112]]
def signTs : List (List UInt8) := [[40], [41], [123], [125], [91], [93], [44], [59], [61], [124], [94], [38], [43], [45], [42], [47], [37], [33], [126], [60], [62], [61, 61], [33, 61], [60, 61], [62, 61], [60, 60], [62, 62]]
def wordChk (t : List UInt8) : Bool := plainB inNameR t && wordB (mk t) && decide (t.length ≤ 20) && letterR ((t.headD 0).toNat : Int) && !(t.contains 10) && !(t.isEmpty)
theorem word_all : wordTexts.all wordChk = true := by decide +kernel
theorem word_tok {t : List UInt8} (h : t ∈ wordTexts) : TokW t 2 0 := by
  have hb := List.all_eq_true.1 word_all t h
  unfold wordChk at hb
  simp only [Bool.and_eq_true, Bool.not_eq_true', decide_eq_true_iff] at hb
  obtain ⟨⟨⟨⟨⟨h1, h2⟩, h3⟩, h4⟩, h5⟩, h6⟩ := hb
  cases t with
  | nil => cases h6
  | cons a r =>
    refine ⟨(tok_letter a r h4 (plain_of h1)).1 h2, h3, ?_, (fun k => by cases k), fun _ => h2⟩
    intro hm
    rw [List.contains_iff_mem.2 hm] at h5
    cases h5
theorem sign_tok {t : List UInt8} (h : t ∈ signTs) : TokW t 4 0 := by
  have hl : t.length ≤ 20 ∧ (10 : UInt8) ∉ t := by
    have : ∀ t ∈ signTs, t.length ≤ 20 ∧ (10 : UInt8) ∉ t := by decide
    exact this t h
  refine ⟨?_, hl.1, hl.2, (fun k => by cases k), (fun k => by cases k)⟩
  unfold signTs at h
  simp only [List.mem_cons, List.not_mem_nil, or_false] at h
  rcases h with rfl | rfl | rfl | rfl | rfl | rfl | rfl | rfl | rfl | rfl | rfl | rfl | rfl | rfl | rfl | rfl | rfl | rfl | rfl | rfl | rfl | rfl | rfl | rfl | rfl | rfl | rfl
  all_goals first
    | exact tok_sign1 _ (by decide)
    | exact tok_sign2 _ _ (by decide)
theorem num_tokW {l : List UInt8} {m : Nat} (h : IsNum l m) (hm : m ≤ 9223372036854775807) : TokW l 3 m := by
  refine ⟨tok_num h hm, Nat.le_trans (h.len hm) (by decide), ?_, (fun k => by cases k), (fun k => by cases k)⟩
  intro hc
  have := (h.1 10 hc).2
  exact absurd this (by decide)
theorem char_tokW (r : Nat) (h1 : 161 ≤ r) (h2 : r < 8353) : TokW (charW r) 3 r := by
  obtain ⟨h3, h4⟩ := tok_char r h1 h2
  refine ⟨h3, by omega, ?_, (fun k => by cases k), (fun k => by cases k)⟩
  intro hc
  have key : ∀ c ∈ (Utf8.encode (r : Int)).data.toList, 128 ≤ c.toNat := by
    by_cases h : r < 2048
    · rw [enc_two r (by omega) h]
      intro c hc
      simp only [List.mem_cons, List.not_mem_nil, or_false] at hc
      rcases hc with rfl | rfl
      · rw [of_nat _ (by omega)]; omega
      · rw [of_nat _ (by omega)]; omega
    · rw [enc_three r (by omega) (by omega)]
      intro c hc
      simp only [List.mem_cons, List.not_mem_nil, or_false] at hc
      rcases hc with rfl | rfl | rfl
      · rw [of_nat _ (by omega)]; omega
      · rw [of_nat _ (by omega)]; omega
      · rw [of_nat _ (by omega)]; omega
  unfold charW at hc
  rcases List.mem_cons.1 hc with h | h
  · cases h
  rcases List.mem_append.1 h with h | h
  · have := key 10 h
    have e : (10 : UInt8).toNat = 10 := rfl
    omega
  · cases List.mem_singleton.1 h
theorem word_at : ∀ (k : Nat) (h : k < 10), ∃ t, [Value.string ⟨#[105, 110, 116]⟩, Value.string ⟨#[105, 102]⟩, Value.string ⟨#[101, 108, 115, 101]⟩, Value.string ⟨#[119, 104, 105, 108, 101]⟩, Value.string ⟨#[98, 114, 101, 97, 107]⟩, Value.string ⟨#[99, 111, 110, 116, 105, 110, 117, 101]⟩, Value.string ⟨#[114, 101, 116, 117, 114, 110]⟩, Value.string ⟨#[112, 114, 105, 110, 116]⟩, Value.string ⟨#[114, 101, 97, 100]⟩, Value.string ⟨#[116, 114, 97, 112]⟩][k]? = some (.string (mk t)) ∧ t ∈ wordTexts := by
  intro k h
  have hl : k < wordTexts.length := h
  refine ⟨wordTexts[k]'hl, ?_, List.getElem_mem _⟩
  show (wordTexts.map fun l => Value.string (mk l))[k]? = _
  rw [List.getElem?_map, List.getElem?_eq_getElem hl]; rfl
theorem sign_at : ∀ (k : Nat) (h : k < 27), ∃ t, [Value.string ⟨#[40]⟩, Value.string ⟨#[41]⟩, Value.string ⟨#[123]⟩, Value.string ⟨#[125]⟩, Value.string ⟨#[91]⟩, Value.string ⟨#[93]⟩, Value.string ⟨#[44]⟩, Value.string ⟨#[59]⟩, Value.string ⟨#[61]⟩, Value.string ⟨#[124]⟩, Value.string ⟨#[94]⟩, Value.string ⟨#[38]⟩, Value.string ⟨#[43]⟩, Value.string ⟨#[45]⟩, Value.string ⟨#[42]⟩, Value.string ⟨#[47]⟩, Value.string ⟨#[37]⟩, Value.string ⟨#[33]⟩, Value.string ⟨#[126]⟩, Value.string ⟨#[60]⟩, Value.string ⟨#[62]⟩, Value.string ⟨#[61, 61]⟩, Value.string ⟨#[33, 61]⟩, Value.string ⟨#[60, 61]⟩, Value.string ⟨#[62, 61]⟩, Value.string ⟨#[60, 60]⟩, Value.string ⟨#[62, 62]⟩][k]? = some (.string (mk t)) ∧ t ∈ signTs := by
  intro k h
  have hl : k < signTs.length := h
  refine ⟨signTs[k]'hl, ?_, List.getElem_mem _⟩
  show (signTs.map fun l => Value.string (mk l))[k]? = _
  rw [List.getElem?_map, List.getElem?_eq_getElem hl]; rfl
def WordRes (e : Ending) : Prop := ∃ t k n, e = .returned (.tuple #[.string (mk t), .int .i64 k]) ∧ TokW t k n
end Go.Proofs.YtpoomcejmdlmiaaDoor
