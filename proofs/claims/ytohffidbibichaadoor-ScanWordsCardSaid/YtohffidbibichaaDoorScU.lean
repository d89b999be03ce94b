/- The law's own helpers: a text and its kind out of raw numbers. -/
import Derived.Test.YtohffidbibichaaDoorRows
import Derived.WalkKit
import Derived.ProofKit
import Derived.OpenShut
import Derived.WalkLawsBesides
import Derived.WalkSpells
import Derived.Outline
import Derived.Handy
import Derived.Lib.Hide
import Derived.Lib.OthersKept
import Derived.KernelRfl
import Derived.RegionTactic
import Derived.BigRegion
import Derived.Deep.RegionHeld3
import Derived.Laws.Runes
import Derived.Test.YtohffidbibichaaDoorScT
namespace Go.Proofs.YtohffidbibichaaDoor
open Go.ChangeShapes Go.WideShapes Go.ChangeAt Go.RowKit
set_option linter.unusedVariables false
def wordTexts : List (List UInt8) := [[105, 110, 116], [105, 102], [101, 108, 115, 101], [119, 104, 105, 108, 101], [98, 114, 101, 97, 107], [99, 111, 110, 116, 105, 110, 117, 101], [114, 101, 116, 117, 114, 110], [112, 114, 105, 110, 116], [114, 101, 97, 100], [116, 114, 97, 112]]
def signTs : List (List UInt8) := [[40], [41], [123], [125], [91], [93], [44], [59], [61], [124], [94], [38], [43], [45], [42], [47], [37], [33], [126], [60], [62], [61, 61], [33, 61], [60, 61], [62, 61], [60, 60], [62, 62]]
def wordChk (t : List UInt8) : Bool := plainB inNameR t && wordB (mk t) && decide (t.length ≤ 20) && letterR ((t.headD 0).toNat : Int) && !(t.contains 10) && !(t.isEmpty)
theorem word_all : wordTexts.all wordChk = true := by decide +kernel
theorem word_tok {t : List UInt8} (h : t ∈ wordTexts) : TokW t 2 0 := by
  have hb := List.all_eq_true.1 word_all t h
  unfold wordChk at hb
  simp only [Bool.and_eq_true, Bool.not_eq_true', decide_eq_true_iff] at hb
  obtain ⟨⟨⟨⟨⟨h1, h2⟩, h3⟩, h4⟩, h5⟩, h6⟩ := hb
  cases t with
  | nil => cases h6
  | cons a r =>
    refine ⟨(tok_letter a r h4 (plain_of h1)).1 h2, h3, ?_, (fun k => by cases k), fun _ => h2⟩
    intro hm
    rw [List.contains_iff_mem.2 hm] at h5
    cases h5
theorem sign_tok {t : List UInt8} (h : t ∈ signTs) : TokW t 4 0 := by
  have hl : t.length ≤ 20 ∧ (10 : UInt8) ∉ t := by
    have : ∀ t ∈ signTs, t.length ≤ 20 ∧ (10 : UInt8) ∉ t := by decide
    exact this t h
  refine ⟨?_, hl.1, hl.2, (fun k => by cases k), (fun k => by cases k)⟩
  unfold signTs at h
  simp only [List.mem_cons, List.not_mem_nil, or_false] at h
  rcases h with rfl | rfl | rfl | rfl | rfl | rfl | rfl | rfl | rfl | rfl | rfl | rfl | rfl | rfl | rfl | rfl | rfl | rfl | rfl | rfl | rfl | rfl | rfl | rfl | rfl | rfl | rfl
  all_goals first
    | exact tok_sign1 _ (by decide)
    | exact tok_sign2 _ _ (by decide)
theorem num_tokW {l : List UInt8} {m : Nat} (h : IsNum l m) (hm : m ≤ 9223372036854775807) : TokW l 3 m := by
  refine ⟨tok_num h hm, Nat.le_trans (h.len hm) (by decide), ?_, (fun k => by cases k), (fun k => by cases k)⟩
  intro hc
  have := (h.1 10 hc).2
  exact absurd this (by decide)
theorem char_tokW (r : Nat) (h1 : 161 ≤ r) (h2 : r < 8353) : TokW (charW r) 3 r := by
  obtain ⟨h3, h4⟩ := tok_char r h1 h2
  refine ⟨h3, by omega, ?_, (fun k => by cases k), (fun k => by cases k)⟩
  intro hc
  have key : ∀ c ∈ (Utf8.encode (r : Int)).data.toList, 128 ≤ c.toNat := by
    by_cases h : r < 2048
    · rw [enc_two r (by omega) h]
      intro c hc
      simp only [List.mem_cons, List.not_mem_nil, or_false] at hc
      rcases hc with rfl | rfl
      · rw [of_nat _ (by omega)]; omega
      · rw [of_nat _ (by omega)]; omega
    · rw [enc_three r (by omega) (by omega)]
      intro c hc
      simp only [List.mem_cons, List.not_mem_nil, or_false] at hc
      rcases hc with rfl | rfl | rfl
      · rw [of_nat _ (by omega)]; omega
      · rw [of_nat _ (by omega)]; omega
      · rw [of_nat _ (by omega)]; omega
  unfold charW at hc
  rcases List.mem_cons.1 hc with h | h
  · cases h
  rcases List.mem_append.1 h with h | h
  · have := key 10 h
    have e : (10 : UInt8).toNat = 10 := rfl
    omega
  · cases List.mem_singleton.1 h
theorem word_at : ∀ (k : Nat) (h : k < 10), ∃ t, [Value.string ⟨#[105, 110, 116]⟩, Value.string ⟨#[105, 102]⟩, Value.string ⟨#[101, 108, 115, 101]⟩, Value.string ⟨#[119, 104, 105, 108, 101]⟩, Value.string ⟨#[98, 114, 101, 97, 107]⟩, Value.string ⟨#[99, 111, 110, 116, 105, 110, 117, 101]⟩, Value.string ⟨#[114, 101, 116, 117, 114, 110]⟩, Value.string ⟨#[112, 114, 105, 110, 116]⟩, Value.string ⟨#[114, 101, 97, 100]⟩, Value.string ⟨#[116, 114, 97, 112]⟩][k]? = some (.string (mk t)) ∧ t ∈ wordTexts := by
  intro k h
  have hl : k < wordTexts.length := h
  refine ⟨wordTexts[k]'hl, ?_, List.getElem_mem _⟩
  show (wordTexts.map fun l => Value.string (mk l))[k]? = _
  rw [List.getElem?_map, List.getElem?_eq_getElem hl]; rfl
theorem sign_at : ∀ (k : Nat) (h : k < 27), ∃ t, [Value.string ⟨#[40]⟩, Value.string ⟨#[41]⟩, Value.string ⟨#[123]⟩, Value.string ⟨#[125]⟩, Value.string ⟨#[91]⟩, Value.string ⟨#[93]⟩, Value.string ⟨#[44]⟩, Value.string ⟨#[59]⟩, Value.string ⟨#[61]⟩, Value.string ⟨#[124]⟩, Value.string ⟨#[94]⟩, Value.string ⟨#[38]⟩, Value.string ⟨#[43]⟩, Value.string ⟨#[45]⟩, Value.string ⟨#[42]⟩, Value.string ⟨#[47]⟩, Value.string ⟨#[37]⟩, Value.string ⟨#[33]⟩, Value.string ⟨#[126]⟩, Value.string ⟨#[60]⟩, Value.string ⟨#[62]⟩, Value.string ⟨#[61, 61]⟩, Value.string ⟨#[33, 61]⟩, Value.string ⟨#[60, 61]⟩, Value.string ⟨#[62, 61]⟩, Value.string ⟨#[60, 60]⟩, Value.string ⟨#[62, 62]⟩][k]? = some (.string (mk t)) ∧ t ∈ signTs := by
  intro k h
  have hl : k < signTs.length := h
  refine ⟨signTs[k]'hl, ?_, List.getElem_mem _⟩
  show (signTs.map fun l => Value.string (mk l))[k]? = _
  rw [List.getElem?_map, List.getElem?_eq_getElem hl]; rfl
def WordRes (e : Ending) : Prop := ∃ t k n, e = .returned (.tuple #[.string (mk t), .int .i64 k]) ∧ TokW t k n
set_option maxRecDepth 100000 in
set_option maxHeartbeats 1000000 in
theorem word_law (n c : Int) (w : World) (hn1 : -9223372036854775808 ≤ n) (hn2 : n ≤ 9223372036854775807) (hc1 : -9223372036854775808 ≤ c) (hc2 : c ≤ 9223372036854775807) :
    Calls Tryd.prog 19 #[.int .i64 n, .int .i64 c] w fun e w' => WordRes e ∧ Below w.heap.size w w' := by
  obtain ⟨k, hk, hk2⟩ := pickN_nat n 44 (by decide)
  have p1 : Hid (∀ w, Calls Tryd.prog 22 #[.int .i64 n, .int .i64 44] w fun e w' => e = .returned (.int .i64 (k : Int)) ∧ w = w') :=
    Lib.hid (fun w => (pick_any n 44 w hn1 hn2 (by decide)).mono fun e w' h => ⟨by rw [← hk]; exact h.1, h.2⟩)
  clear hk
  go_enter Tryd.func19, Tryd.ntmps19
  go_wp2_with fail
  refine (p1.out _).mono ?_; rintro e w1' ⟨rfl, rfl⟩
  have bel2 : ∀ o o', Below w.heap.size w ((w.alloc o).alloc o') := fun o o' => ext_alloc (ext_alloc (Below.refl _ _) _) _
  have BEL := Lib.hid bel2; clear bel2
  by_cases h10 : k < 10
  · obtain ⟨t, ht1, ht2⟩ := word_at k h10
    have ht3 := (List.getElem?_eq_some_iff.1 ht1).2
    go_wp2_with fail
    go_ret2
    exact ⟨⟨t, 2, 0, by rw [← ht3]; rfl, word_tok ht2⟩, BEL.out _ _⟩
  by_cases h37 : k < 37
  · obtain ⟨t, ht1, ht2⟩ := sign_at (k - 10) (by omega)
    go_wp2_with fail
    go_ret2
    exact ⟨⟨t, 4, 0, rfl, sign_tok ht2⟩, BEL.out _ _⟩
  by_cases h40 : k < 40
  · obtain ⟨m, hm, hm2⟩ := pickN_nat c 1099511627776 (by decide)
    have p2 : Hid (∀ w, Calls Tryd.prog 22 #[.int .i64 c, .int .i64 1099511627776] w fun e w' => e = .returned (.int .i64 (m : Int)) ∧ w = w') :=
      Lib.hid (fun w => (pick_any c 1099511627776 w hc1 hc2 (by decide)).mono fun e w' h => ⟨by rw [← hm]; exact h.1, h.2⟩)
    have p3 := Lib.hid (fun w => num_any m w (by omega))
    have HM : Hid (m ≤ 9223372036854775807) := Lib.hid (by omega)
    clear hm hm2
    go_wp2_with fail
    refine (p2.out _).mono ?_; rintro e w1' ⟨rfl, rfl⟩
    go_wp2_with fail
    refine (p3.out _).mono ?_; rintro e w2 ⟨⟨l, rfl, hl⟩, g2⟩
    have G2 := Lib.hid (ext_trans (BEL.out _ _) g2)
    have HL := Lib.hid hl
    clear g2 hl
    go_wp2_with fail
    go_ret2
    exact ⟨⟨l, 3, m, rfl, num_tokW HL.out HM.out⟩, G2.out⟩
  by_cases h41 : k = 40
  · subst h41
    obtain ⟨q, hq, hq2⟩ := pickN_nat c 8192 (by decide)
    have p2 : Hid (∀ w, Calls Tryd.prog 22 #[.int .i64 c, .int .i64 8192] w fun e w' => e = .returned (.int .i64 (q : Int)) ∧ w = w') :=
      Lib.hid (fun w => (pick_any c 8192 w hc1 hc2 (by decide)).mono fun e w' h => ⟨by rw [← hq]; exact h.1, h.2⟩)
    clear hq
    obtain ⟨r, hr, hr1, hr2⟩ : ∃ r : Int, 161 + (q : Int) = r ∧ 161 ≤ r ∧ r < 8353 := ⟨_, rfl, by omega, by omega⟩
    have hr' : ((161 + q : Nat) : Int) = r := by omega
    have HT := Lib.hid (char_tokW (161 + q) (by omega) (by omega))
    have happ := charW_app (161 + q)
    have hE : (Utf8.encode r).size ≤ 3 := by
      obtain ⟨k, k1, _, k3, _⟩ := enc_dec (161 + q) (by omega) (by omega)
      rw [hr'] at k1
      rw [Lib.size_eq, k1]; exact k3
    rw [hr'] at happ
    have hw : wrap32 r = r := by unfold wrap32; omega
    generalize charW (161 + q) = t at *
    have h39 : (mk [39]) = ⟨#[39]⟩ := rfl
    rw [h39] at happ
    have HA := Lib.hid happ
    clear h39 hr' happ
    go_wp2_with fail
    refine (p2.out _).mono ?_; rintro e w1' ⟨rfl, rfl⟩
    go_wp2_with fail
    go_ret2
    exact ⟨⟨t, 3, _, by rw [HA.out]; rfl, HT.out⟩, BEL.out _ _⟩
  · have p2 := Lib.hid (fun w => var_any c w hc1 hc2)
    go_wp2_with fail
    refine (p2.out _).mono ?_; rintro e w2 ⟨⟨t, rfl, ht⟩, g2⟩
    have G2 := Lib.hid (ext_trans (BEL.out _ _) g2)
    have HT := Lib.hid ht
    clear g2 ht
    go_wp2_with fail
    go_ret2
    exact ⟨⟨t, 1, 0, rfl, HT.out⟩, G2.out⟩
end Go.Proofs.YtohffidbibichaaDoor
