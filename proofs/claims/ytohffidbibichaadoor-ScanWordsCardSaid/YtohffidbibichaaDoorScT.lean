/- The law's own helpers: words out of raw numbers. -/
import Derived.Test.YtohffidbibichaaDoorRows
import Derived.WalkKit
import Derived.ProofKit
import Derived.OpenShut
import Derived.WalkLawsBesides
import Derived.WalkSpells
import Derived.Outline
import Derived.Handy
import Derived.Lib.Hide
import Derived.Lib.OthersKept
import Derived.KernelRfl
import Derived.RegionTactic
import Derived.BigRegion
import Derived.Deep.RegionHeld3
import Derived.Test.YtohffidbibichaaDoorScQ
namespace Go.Proofs.YtohffidbibichaaDoor
open Go.ChangeShapes Go.WideShapes Go.ChangeAt Go.RowKit
set_option linter.unusedVariables false
def suffixes : List (List UInt8) := [[], [49], [95], [90, 57], [105, 102], [120], [48], [97, 97], [105, 110, 116, 105, 110, 116], [113, 55], [66], [48, 48]]
def varW (k : Nat) : List UInt8 := UInt8.ofNat (97 + k % 26) :: suffixes.getD (k / 26) []
def plainB (p : Int → Bool) (w : List UInt8) : Bool := w.all fun c => decide (c.toNat < 128) && p (c.toNat : Int)
theorem plain_of {p : Int → Bool} {w : List UInt8} (h : plainB p w = true) : Plain p w := by
  intro c hc
  have := List.all_eq_true.1 h c hc
  rw [Bool.and_eq_true, decide_eq_true_iff] at this
  exact this
def varB (k : Nat) : Bool := plainB inNameR (varW k) && !(wordB (mk (varW k))) && decide ((varW k).length ≤ 20) && letterR ((UInt8.ofNat (97 + k % 26)).toNat : Int) && nameB (mk (varW k)) && !((varW k).contains 10)
theorem var_all : ∀ k : Fin 312, varB k.val = true := by decide +kernel
/-- A text is a token by itself, short, and on one line. -/
structure TokW (w : List UInt8) (k n : Int) : Prop where
  tok : Tok w k n
  len : w.length ≤ 20
  feed : (10 : UInt8) ∉ w
  name : k = 1 → nameB (mk w) = true
  word : k = 2 → wordB (mk w) = true
theorem var_tok (k : Nat) (h : k < 312) : TokW (varW k) 1 0 := by
  have hb := var_all ⟨k, h⟩
  unfold varB at hb
  simp only [Bool.and_eq_true, Bool.not_eq_true', decide_eq_true_iff] at hb
  obtain ⟨⟨⟨⟨⟨h1, h2⟩, h3⟩, h4⟩, h5⟩, h6⟩ := hb
  refine ⟨(tok_letter _ _ h4 (plain_of h1)).2 h2 h3, h3, ?_, fun _ => h5, fun k => by cases k⟩
  intro hm
  rw [List.contains_iff_mem.2 hm] at h6
  cases h6
theorem strs_at {w : World} {b i : Nat} {cs : Array Value} {t : TypeId} {v : Value} {l : List Value} (h : w.heap[b]? = some (.cells cs t (0, 0))) (hv : l[i]? = some v) (hl : cs.toList = l := by rfl) : w.cell? ⟨b, i, none⟩ = some v := by
  rw [cell_row h, ← Array.getElem?_toList, hl]; exact hv
theorem byte_at {w : World} {b : Nat} {d : UInt8} (h : w.heap[b]? = some (.cells #[.int .u8 (d.toNat : Int)] 5 (0, 0))) :
    (convert 46 9 (.slice (some ⟨b, 0, none⟩) 1 1)).run Tryd.prog w = .ok (.string (mk [d])) w := by
  refine run_convert_bytes_back w _ _ 5 ⟨b, 0, none⟩ 1 [d] (by kernel_rfl) (by kernel_rfl) (by kernel_rfl) ?_
  intro j hj
  obtain rfl : j = 0 := by simpa using hj
  exact cell_row h 0
set_option maxRecDepth 100000 in
theorem var_any (c : Int) (w : World) (hc1 : -9223372036854775808 ≤ c) (hc2 : c ≤ 9223372036854775807) :
    Calls Tryd.prog 33 #[.int .i64 c] w fun e w' => (∃ t, e = .returned (.string (mk t)) ∧ TokW t 1 0) ∧ Below w.heap.size w w' := by
  obtain ⟨k, hk, hk2⟩ := pickN_nat c 312 (by decide)
  have p1 : Hid (∀ w, Calls Tryd.prog 22 #[.int .i64 c, .int .i64 312] w fun e w' => e = .returned (.int .i64 (k : Int)) ∧ w = w') :=
    Lib.hid (fun w => (pick_any c 312 w hc1 hc2 (by decide)).mono fun e w' h => ⟨by rw [← hk]; exact h.1, h.2⟩)
  clear hk
  go_enter Tryd.func33, Tryd.ntmps33
  go_wp2_with fail
  refine (p1.out _).mono ?_; rintro e w1' ⟨rfl, rfl⟩
  go_wp2_with fail
  obtain ⟨d, hd, hdv⟩ : ∃ d : UInt8, 97 + (k : Int) % 26 = (d.toNat : Int) ∧ UInt8.ofNat (97 + k % 26) = d := ⟨UInt8.ofNat (97 + k % 26), by rw [of_nat _ (by omega)]; omega, rfl⟩
  have hkd : k / 26 < 12 := by omega
  obtain ⟨sfx, hs1, hs2⟩ : ∃ sfx, (suffixes.map fun l => Value.string (mk l))[k / 26]? = some (.string (mk sfx)) ∧ suffixes.getD (k / 26) [] = sfx := by
    have hl : k / 26 < suffixes.length := hkd
    refine ⟨suffixes[k / 26]'hl, ?_, ?_⟩
    · rw [List.getElem?_map, List.getElem?_eq_getElem hl]; rfl
    · rw [List.getD_eq_getElem?_getD, List.getElem?_eq_getElem hl]; rfl
  have hA0 : (w.alloc (.cells #[.string ⟨#[]⟩, .string ⟨#[49]⟩, .string ⟨#[95]⟩, .string ⟨#[90, 57]⟩, .string ⟨#[105, 102]⟩, .string ⟨#[120]⟩, .string ⟨#[48]⟩, .string ⟨#[97, 97]⟩, .string ⟨#[105, 110, 116, 105, 110, 116]⟩, .string ⟨#[113, 55]⟩, .string ⟨#[66]⟩, .string ⟨#[48, 48]⟩] 9)).heap[w.heap.size]? = some (.cells #[.string ⟨#[]⟩, .string ⟨#[49]⟩, .string ⟨#[95]⟩, .string ⟨#[90, 57]⟩, .string ⟨#[105, 102]⟩, .string ⟨#[120]⟩, .string ⟨#[48]⟩, .string ⟨#[97, 97]⟩, .string ⟨#[105, 110, 116, 105, 110, 116]⟩, .string ⟨#[113, 55]⟩, .string ⟨#[66]⟩, .string ⟨#[48, 48]⟩] 9) := heap_new w _
  have hA1 : ((w.alloc (.cells #[.int .u8 (d.toNat : Int)] 5)).alloc (.cells #[.string ⟨#[]⟩, .string ⟨#[49]⟩, .string ⟨#[95]⟩, .string ⟨#[90, 57]⟩, .string ⟨#[105, 102]⟩, .string ⟨#[120]⟩, .string ⟨#[48]⟩, .string ⟨#[97, 97]⟩, .string ⟨#[105, 110, 116, 105, 110, 116]⟩, .string ⟨#[113, 55]⟩, .string ⟨#[66]⟩, .string ⟨#[48, 48]⟩] 9)).heap[w.heap.size + 1]? = some (.cells #[.string ⟨#[]⟩, .string ⟨#[49]⟩, .string ⟨#[95]⟩, .string ⟨#[90, 57]⟩, .string ⟨#[105, 102]⟩, .string ⟨#[120]⟩, .string ⟨#[48]⟩, .string ⟨#[97, 97]⟩, .string ⟨#[105, 110, 116, 105, 110, 116]⟩, .string ⟨#[113, 55]⟩, .string ⟨#[66]⟩, .string ⟨#[48, 48]⟩] 9) := by have := heap_new (w.alloc (.cells #[.int .u8 (d.toNat : Int)] 5)) (.cells #[.string ⟨#[]⟩, .string ⟨#[49]⟩, .string ⟨#[95]⟩, .string ⟨#[90, 57]⟩, .string ⟨#[105, 102]⟩, .string ⟨#[120]⟩, .string ⟨#[48]⟩, .string ⟨#[97, 97]⟩, .string ⟨#[105, 110, 116, 105, 110, 116]⟩, .string ⟨#[113, 55]⟩, .string ⟨#[66]⟩, .string ⟨#[48, 48]⟩] 9); rw [show (w.alloc (.cells #[.int .u8 (d.toNat : Int)] 5)).heap.size = w.heap.size + 1 by simp] at this; exact this
  have hA2 : ((w.alloc (.cells #[.string ⟨#[]⟩, .string ⟨#[49]⟩, .string ⟨#[95]⟩, .string ⟨#[90, 57]⟩, .string ⟨#[105, 102]⟩, .string ⟨#[120]⟩, .string ⟨#[48]⟩, .string ⟨#[97, 97]⟩, .string ⟨#[105, 110, 116, 105, 110, 116]⟩, .string ⟨#[113, 55]⟩, .string ⟨#[66]⟩, .string ⟨#[48, 48]⟩] 9)).alloc (.cells #[.int .u8 (d.toNat : Int)] 5)).heap[w.heap.size]? = some (.cells #[.string ⟨#[]⟩, .string ⟨#[49]⟩, .string ⟨#[95]⟩, .string ⟨#[90, 57]⟩, .string ⟨#[105, 102]⟩, .string ⟨#[120]⟩, .string ⟨#[48]⟩, .string ⟨#[97, 97]⟩, .string ⟨#[105, 110, 116, 105, 110, 116]⟩, .string ⟨#[113, 55]⟩, .string ⟨#[66]⟩, .string ⟨#[48, 48]⟩] 9) := (Below.heap_alloc _ _ _ (by simp)).trans hA0
  have hB0 : (w.alloc (.cells #[.int .u8 (d.toNat : Int)] 5)).heap[w.heap.size]? = some (.cells #[.int .u8 (d.toNat : Int)] 5) := heap_new w _
  have hB1 : ((w.alloc (.cells #[.string ⟨#[]⟩, .string ⟨#[49]⟩, .string ⟨#[95]⟩, .string ⟨#[90, 57]⟩, .string ⟨#[105, 102]⟩, .string ⟨#[120]⟩, .string ⟨#[48]⟩, .string ⟨#[97, 97]⟩, .string ⟨#[105, 110, 116, 105, 110, 116]⟩, .string ⟨#[113, 55]⟩, .string ⟨#[66]⟩, .string ⟨#[48, 48]⟩] 9)).alloc (.cells #[.int .u8 (d.toNat : Int)] 5)).heap[w.heap.size + 1]? = some (.cells #[.int .u8 (d.toNat : Int)] 5) := by have := heap_new (w.alloc (.cells #[.string ⟨#[]⟩, .string ⟨#[49]⟩, .string ⟨#[95]⟩, .string ⟨#[90, 57]⟩, .string ⟨#[105, 102]⟩, .string ⟨#[120]⟩, .string ⟨#[48]⟩, .string ⟨#[97, 97]⟩, .string ⟨#[105, 110, 116, 105, 110, 116]⟩, .string ⟨#[113, 55]⟩, .string ⟨#[66]⟩, .string ⟨#[48, 48]⟩] 9)) (.cells #[.int .u8 (d.toNat : Int)] 5); rw [show (w.alloc (.cells #[.string ⟨#[]⟩, .string ⟨#[49]⟩, .string ⟨#[95]⟩, .string ⟨#[90, 57]⟩, .string ⟨#[105, 102]⟩, .string ⟨#[120]⟩, .string ⟨#[48]⟩, .string ⟨#[97, 97]⟩, .string ⟨#[105, 110, 116, 105, 110, 116]⟩, .string ⟨#[113, 55]⟩, .string ⟨#[66]⟩, .string ⟨#[48, 48]⟩] 9)).heap.size = w.heap.size + 1 by simp] at this; exact this
  have hB2 : ((w.alloc (.cells #[.int .u8 (d.toNat : Int)] 5)).alloc (.cells #[.string ⟨#[]⟩, .string ⟨#[49]⟩, .string ⟨#[95]⟩, .string ⟨#[90, 57]⟩, .string ⟨#[105, 102]⟩, .string ⟨#[120]⟩, .string ⟨#[48]⟩, .string ⟨#[97, 97]⟩, .string ⟨#[105, 110, 116, 105, 110, 116]⟩, .string ⟨#[113, 55]⟩, .string ⟨#[66]⟩, .string ⟨#[48, 48]⟩] 9)).heap[w.heap.size]? = some (.cells #[.int .u8 (d.toNat : Int)] 5) := (Below.heap_alloc _ _ _ (by simp)).trans hB0
  have hl1 := strs_at (w := (w.alloc (.cells #[.string ⟨#[]⟩, .string ⟨#[49]⟩, .string ⟨#[95]⟩, .string ⟨#[90, 57]⟩, .string ⟨#[105, 102]⟩, .string ⟨#[120]⟩, .string ⟨#[48]⟩, .string ⟨#[97, 97]⟩, .string ⟨#[105, 110, 116, 105, 110, 116]⟩, .string ⟨#[113, 55]⟩, .string ⟨#[66]⟩, .string ⟨#[48, 48]⟩] 9)).drew) hA0 hs1
  have hl2 := strs_at (w := ((w.alloc (.cells #[.int .u8 (d.toNat : Int)] 5)).alloc (.cells #[.string ⟨#[]⟩, .string ⟨#[49]⟩, .string ⟨#[95]⟩, .string ⟨#[90, 57]⟩, .string ⟨#[105, 102]⟩, .string ⟨#[120]⟩, .string ⟨#[48]⟩, .string ⟨#[97, 97]⟩, .string ⟨#[105, 110, 116, 105, 110, 116]⟩, .string ⟨#[113, 55]⟩, .string ⟨#[66]⟩, .string ⟨#[48, 48]⟩] 9)).drew) hA1 hs1
  have hl3 := strs_at (w := ((w.alloc (.cells #[.string ⟨#[]⟩, .string ⟨#[49]⟩, .string ⟨#[95]⟩, .string ⟨#[90, 57]⟩, .string ⟨#[105, 102]⟩, .string ⟨#[120]⟩, .string ⟨#[48]⟩, .string ⟨#[97, 97]⟩, .string ⟨#[105, 110, 116, 105, 110, 116]⟩, .string ⟨#[113, 55]⟩, .string ⟨#[66]⟩, .string ⟨#[48, 48]⟩] 9)).alloc (.cells #[.int .u8 (d.toNat : Int)] 5)).drew) hA2 hs1
  have hc1 := byte_at (w := (w.alloc (.cells #[.int .u8 (d.toNat : Int)] 5)).drew) hB0
  have hc2 := byte_at (w := ((w.alloc (.cells #[.string ⟨#[]⟩, .string ⟨#[49]⟩, .string ⟨#[95]⟩, .string ⟨#[90, 57]⟩, .string ⟨#[105, 102]⟩, .string ⟨#[120]⟩, .string ⟨#[48]⟩, .string ⟨#[97, 97]⟩, .string ⟨#[105, 110, 116, 105, 110, 116]⟩, .string ⟨#[113, 55]⟩, .string ⟨#[66]⟩, .string ⟨#[48, 48]⟩] 9)).alloc (.cells #[.int .u8 (d.toNat : Int)] 5)).drew) hB1
  have hc3 := byte_at (w := ((w.alloc (.cells #[.int .u8 (d.toNat : Int)] 5)).alloc (.cells #[.string ⟨#[]⟩, .string ⟨#[49]⟩, .string ⟨#[95]⟩, .string ⟨#[90, 57]⟩, .string ⟨#[105, 102]⟩, .string ⟨#[120]⟩, .string ⟨#[48]⟩, .string ⟨#[97, 97]⟩, .string ⟨#[105, 110, 116, 105, 110, 116]⟩, .string ⟨#[113, 55]⟩, .string ⟨#[66]⟩, .string ⟨#[48, 48]⟩] 9)).drew) hB2
  have z1 : (mk [d]).size = 1 := rfl
  have z2 : (mk sfx).size ≤ 6 := by
    have hm : sfx ∈ suffixes := by
      have hl : k / 26 < suffixes.length := hkd
      rw [← hs2, List.getD_eq_getElem?_getD, List.getElem?_eq_getElem hl]
      exact List.getElem_mem hl
    have : ∀ l ∈ suffixes, (mk l).size ≤ 6 := by decide
    exact this sfx hm
  have hcat : mk [d] ++ mk sfx = mk (d :: sfx) := mk_app [d] sfx
  clear hA0 hA1 hA2 hB0 hB1 hB2 hs1
  have HT : Hid (TokW (d :: sfx) 1 0) := Lib.hid (by have := var_tok k hk2; unfold varW at this; rw [hdv, hs2] at this; exact this)
  clear hs2 hdv
  go_region
  all_goals
    go_wp2_with fail
    go_ret
    exact ⟨⟨d :: sfx, rfl, HT.out⟩, ext_drew (ext_alloc (ext_alloc (Below.refl _ _) _) _)⟩
end Go.Proofs.YtohffidbibichaaDoor
