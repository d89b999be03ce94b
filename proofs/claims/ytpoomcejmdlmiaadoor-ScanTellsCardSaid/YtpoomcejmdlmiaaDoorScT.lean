/- The law's own helpers: words out of raw numbers. -/
import Derived.Test.YtpoomcejmdlmiaaDoorRows
import Derived.WalkKit
import Derived.ProofKit
import Derived.OpenShut
import Derived.WalkLawsBesides
import Derived.WalkSpells
import Derived.Outline
import Derived.Handy
import Derived.Lib.Hide
import Derived.Lib.OthersKept
import Derived.KernelRfl
import Derived.RegionTactic
import Derived.BigRegion
import Derived.Deep.RegionHeld3
import Derived.Test.YtpoomcejmdlmiaaDoorScQ
namespace Go.Proofs.YtpoomcejmdlmiaaDoor
open Go.ChangeShapes Go.WideShapes Go.ChangeAt Go.RowKit
set_option linter.unusedVariables false
def suffixes : List (List UInt8) := [[], [49], [95], [90, 57], [105, 102], [120], [48], [97, 97], [105, 110, 116, 105, 110, 116], [113, 55], [66], [48, 48]]
def varW (k : Nat) : List UInt8 := UInt8.ofNat (97 + k % 26) :: suffixes.getD (k / 26) []
def plainB (p : Int → Bool) (w : List UInt8) : Bool := w.all fun c => decide (c.toNat < 128) && p (c.toNat : Int)
theorem plain_of {p : Int → Bool} {w : List UInt8} (h : plainB p w = true) : Plain p w := by
  intro c hc
  have := List.all_eq_true.1 h c hc
  rw [Bool.and_eq_true, decide_eq_true_iff] at this
  exact this
def varB (k : Nat) : Bool := plainB inNameR (varW k) && !(wordB (mk (varW k))) && decide ((varW k).length ≤ 20) && letterR ((UInt8.ofNat (97 + k % 26)).toNat : Int) && nameB (mk (varW k)) && !((varW k).contains 10)
theorem var_all : ∀ k : Fin 312, varB k.val = true := by decide +kernel
/-- A text is a token by itself, short, and on one line. -/
structure TokW (w : List UInt8) (k n : Int) : Prop where
  tok : Tok w k n
  len : w.length ≤ 20
  feed : (10 : UInt8) ∉ w
  name : k = 1 → nameB (mk w) = true
  word : k = 2 → wordB (mk w) = true
theorem var_tok (k : Nat) (h : k < 312) : TokW (varW k) 1 0 := by
  have hb := var_all ⟨k, h⟩
  unfold varB at hb
  simp only [Bool.and_eq_true, Bool.not_eq_true', decide_eq_true_iff] at hb
  obtain ⟨⟨⟨⟨⟨h1, h2⟩, h3⟩, h4⟩, h5⟩, h6⟩ := hb
  refine ⟨(tok_letter _ _ h4 (plain_of h1)).2 h2 h3, h3, ?_, fun _ => h5, fun k => by cases k⟩
  intro hm
  rw [List.contains_iff_mem.2 hm] at h6
  cases h6
theorem strs_at {w : World} {b i : Nat} {cs : Array Value} {t : TypeId} {v : Value} {l : List Value} (h : w.heap[b]? = some (.cells cs t (0, 0))) (hv : l[i]? = some v) (hl : cs.toList = l := by rfl) : w.cell? ⟨b, i, none⟩ = some v := by
  rw [cell_row h, ← Array.getElem?_toList, hl]; exact hv
theorem byte_at {w : World} {b : Nat} {d : UInt8} (h : w.heap[b]? = some (.cells #[.int .u8 (d.toNat : Int)] 5 (0, 0))) :
    (convert 47 9 (.slice (some ⟨b, 0, none⟩) 1 1)).run Tryd.prog w = .ok (.string (mk [d])) w := by
  refine run_convert_bytes_back w _ _ 5 ⟨b, 0, none⟩ 1 [d] (by kernel_rfl) (by kernel_rfl) (by kernel_rfl) ?_
  intro j hj
  obtain rfl : j = 0 := by simpa using hj
  exact cell_row h 0
end Go.Proofs.YtpoomcejmdlmiaaDoor
