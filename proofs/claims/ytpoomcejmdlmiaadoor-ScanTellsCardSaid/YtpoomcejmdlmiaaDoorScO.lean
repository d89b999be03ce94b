/- The law's own helpers: the chapter's example. -/
import Derived.Test.YtpoomcejmdlmiaaDoorRows
import Derived.WalkKit
import Derived.ProofKit
import Derived.OpenShut
import Derived.WalkLawsBesides
import Derived.WalkSpells
import Derived.Outline
import Derived.Handy
import Derived.Lib.Hide
import Derived.Lib.OthersKept
import Derived.KernelRfl
import Derived.RegionTactic
import Derived.BigRegion
import Derived.Deep.RegionHeld3
import Derived.Test.YtpoomcejmdlmiaaDoorScH
import Derived.Test.YtpoomcejmdlmiaaDoorScI
import Derived.Test.YtpoomcejmdlmiaaDoorScK
import Derived.Test.YtpoomcejmdlmiaaDoorScN
namespace Go.Proofs.YtpoomcejmdlmiaaDoor
open Go.ChangeShapes Go.WideShapes Go.ChangeAt Go.RowKit
set_option linter.unusedVariables false
theorem cells_at : ∀ (L : List Tk) (i k : Nat) (h : i < L.length), k < 4 → (L.flatMap Tk.cells)[i * 4 + k]? = (L[i]'h).cells[k]?
  | [], i, k, h, _ => absurd h (by simp)
  | t :: L, 0, k, _, hk => by
    rw [List.flatMap_cons, Nat.zero_mul, Nat.zero_add, List.getElem?_append_left (by rw [Tk.cells_length]; exact hk)]; rfl
  | t :: L, i + 1, k, h, hk => by
    have hi : i < L.length := by simpa using h
    rw [List.flatMap_cons, List.getElem?_append_right (by rw [Tk.cells_length]; omega), Tk.cells_length]
    have e : (i + 1) * 4 + k - 4 = i * 4 + k := by omega
    rw [e, cells_at L i k hi hk]; rfl
theorem row_of_own {w : World} {B : Nat} {t : TypeId} {v : Value} {L : List Tk} (h : w.ownsRow B t 4 v L.length (L.flatMap Tk.cells)) : RowAt w v L := by
  obtain ⟨h1, ⟨rfl, h2⟩ | ⟨g, cap, cur, rfl, hb, hg, hc, _, hs, ht⟩⟩ := h
  · exact .inl ⟨rfl, List.length_eq_zero_iff.1 h2⟩
  · refine .inr ⟨g, cap, rfl, (Array.getElem?_eq_some_iff.1 hg).1, fun i hi => ?_⟩
    have key : ∀ k, k < 4 → w.cell? ⟨g, i * 4 + k, none⟩ = (L[i]'hi).cells[k]? := by
      intro k hk
      rw [cell_row hg, ← Array.getElem?_toList, ← cells_at L i k hi hk, ← ht, List.getElem?_take_of_lt (by omega)]
    exact ⟨key 0 (by decide), key 1 (by decide), key 2 (by decide), key 3 (by decide)⟩
theorem scan_good (s : ByteArray) (L : List Tk) (w : World) (hs : s.size ≤ 20000) (hv : ErrVars w) (h : scanL s = (L, true, 0)) :
    Calls Tryd.prog 5 #[.string s] w fun e w' => (∃ v, e = .returned (.tuple #[v, .int .i64 0, .int .i64 0]) ∧ RowAt w' v L) ∧ Below w.heap.size w w' := by
  refine (scan_calls s w hs hv).mono fun e w' ⟨k, g⟩ => ⟨?_, g⟩
  rw [h] at k
  obtain ⟨v, e1, e2⟩ := k
  exact ⟨v, e1, row_of_own e2⟩
theorem scan_bad (s : ByteArray) (n : Nat) (w : World) (hs : s.size ≤ 20000) (hv : ErrVars w) (h : scanL s = ([], false, n)) :
    Calls Tryd.prog 5 #[.string s] w fun e w' => e = .returned (.tuple #[.slice none 0 0, .int .i64 20, .int .i64 n]) ∧ Below w.heap.size w w' := by
  refine (scan_calls s w hs hv).mono fun e w' ⟨k, g⟩ => ⟨?_, g⟩
  rw [h] at k
  exact k
theorem lit_row (w : World) (L : List Tk) (t : TypeId) (c : Nat) : RowAt (w.alloc (.cells (L.flatMap Tk.cells).toArray t)) (.slice (some ⟨w.heap.size, 0, none⟩) L.length c) L := by
  refine .inr ⟨w.heap.size, c, rfl, by simp, fun i hi => ?_⟩
  have key : ∀ k, k < 4 → (w.alloc (.cells (L.flatMap Tk.cells).toArray t)).cell? ⟨w.heap.size, i * 4 + k, none⟩ = (L[i]'hi).cells[k]? := by
    intro k hk
    rw [cell_row (heap_new w _), List.getElem?_toArray, cells_at L i k hi hk]
  exact ⟨key 0 (by decide), key 1 (by decide), key 2 (by decide), key 3 (by decide)⟩
def awkL : List Tk := [⟨1, mk [120, 49], 0, 1⟩, ⟨4, mk [61], 0, 1⟩, ⟨3, mk [39, 195, 169, 39], 233, 1⟩, ⟨4, mk [59], 0, 1⟩, ⟨5, ⟨#[]⟩, 0, 1⟩]
theorem awk1 : scanL (mk [120, 49, 32, 61, 32, 39, 195, 169, 39, 59]) = (awkL, true, 0) := by kernel_rfl
theorem awk2 : scanL (mk [97, 10, 10, 63]) = ([], false, 3) := by kernel_rfl
theorem awk3 : wordB (mk [105, 110, 116]) = true := by kernel_rfl
theorem awk4 : nameB (mk [105, 110, 116]) = false := by kernel_rfl
theorem awk5 : nameB (mk [95, 97]) = true := by kernel_rfl
set_option maxRecDepth 100000 in
theorem awake_any (w : World) (hv : ErrVars w) : Calls Tryd.prog 4 #[] w fun e w' => e = .returned (.bool true) ∧ Below w.heap.size w w' := by
  have s1 := Lib.hid (fun w hv => scan_good ⟨#[120, 49, 32, 61, 32, 39, 195, 169, 39, 59]⟩ awkL w (by decide) hv awk1)
  have s2 := Lib.hid (fun w hv => scan_bad ⟨#[97, 10, 10, 63]⟩ 3 w (by decide) hv awk2)
  have s3 := Lib.hid (fun w => word_any ⟨#[105, 110, 116]⟩ w)
  have s4 := Lib.hid (fun w => name_calls ⟨#[105, 110, 116]⟩ w (by decide))
  have s5 := Lib.hid (fun w => name_calls ⟨#[95, 97]⟩ w (by decide))
  have e3 : wordB ⟨#[105, 110, 116]⟩ = true := awk3
  have e4 : nameB ⟨#[105, 110, 116]⟩ = false := awk4
  have e5 : nameB ⟨#[95, 97]⟩ = true := awk5
  rw [e3] at s3; rw [e4] at s4; rw [e5] at s5
  clear e3 e4 e5
  have HV := Lib.hid hv; clear hv
  go_enter Tryd.func4, Tryd.ntmps4
  go_wp2_with fail
  refine (s1.out _ HV.out).mono ?_; rintro e w1 ⟨⟨v1, rfl, r1⟩, g1⟩
  have R1 := Lib.hid r1; clear r1
  have HV1 := Lib.hid (HV.out.ext g1)
  go_wp2_with fail
  refine (s2.out _ HV1.out).mono ?_; rintro e w2 ⟨rfl, g2⟩
  have R2 := Lib.hid (R1.out.ext g2)
  have G2 := Lib.hid (ext_trans g1 g2)
  clear R1 g1 g2
  go_wp2_with fail
  have RA := R2.out.ext (ext_alloc (Below.refl w2.heap.size w2) (.cells #[.int .i64 1, .string ⟨#[120, 49]⟩, .int .i64 0, .int .i64 1, .int .i64 4, .string ⟨#[61]⟩, .int .i64 0, .int .i64 1, .int .i64 3, .string ⟨#[39, 195, 169, 39]⟩, .int .i64 233, .int .i64 1, .int .i64 4, .string ⟨#[59]⟩, .int .i64 0, .int .i64 1, .int .i64 5, .string ⟨#[]⟩, .int .i64 0, .int .i64 1] 30))
  have RB : RowAt (w2.alloc (.cells #[.int .i64 1, .string ⟨#[120, 49]⟩, .int .i64 0, .int .i64 1, .int .i64 4, .string ⟨#[61]⟩, .int .i64 0, .int .i64 1, .int .i64 3, .string ⟨#[39, 195, 169, 39]⟩, .int .i64 233, .int .i64 1, .int .i64 4, .string ⟨#[59]⟩, .int .i64 0, .int .i64 1, .int .i64 5, .string ⟨#[]⟩, .int .i64 0, .int .i64 1] 30)) (.slice (some ⟨w2.heap.size, 0, none⟩) 5 5) awkL := lit_row w2 awkL 30 5
  refine (same_calls v1 _ awkL awkL true _ RA RB (by decide) (by decide)).mono ?_; rintro e w3 ⟨rfl, g3⟩
  have G3 := Lib.hid (ext_trans (ext_alloc G2.out _) g3)
  clear RA RB G2 R2 g3
  have hsm : sameB true awkL awkL = true := by kernel_rfl
  rw [hsm]; clear hsm
  go_wp2_with fail
  refine (s3.out _).mono ?_; rintro e w4 ⟨rfl, rfl⟩
  go_wp2_with fail
  refine (s4.out _).mono ?_; rintro e w4 ⟨rfl, g4⟩
  go_wp2_with fail
  refine (s5.out _).mono ?_; rintro e w5 ⟨rfl, g5⟩
  go_wp2_with fail
  go_ret
  exact ⟨rfl, ext_trans (ext_trans G3.out g4) g5⟩
end Go.Proofs.YtpoomcejmdlmiaaDoor
