/- What is told, in plain words, and both sides at once. -/
import Derived.Test.YtdfiaefdbalcoaaDoorInTu
import Derived.Test.YtdfiaefdbalcoaaDoorInTi
import Derived.Test.YtdfiaefdbalcoaaDoorInTd
import Derived.Test.YtdfiaefdbalcoaaDoorInL
import Derived.Test.YtdfiaefdbalcoaaDoorInM
import Derived.Test.YtdfiaefdbalcoaaDoorInC
namespace Go.Proofs.YtdfiaefdbalcoaaDoor
open Go.ChangeShapes Go.WideShapes Go.ChangeAt Go.RowKit
set_option linter.unusedVariables false
def Told (y : In) : Prop := y.name.length ≤ 140737488355328 ∧ I64 y.n
theorem pr_shape (x : In) : ∃ (P : List UInt8) (k : Int), prV x = .tuple #[.string (mk P), .int .i64 k] := by
  unfold prV
  split
  · exact ⟨_, _, rfl⟩
  · exact ⟨_, _, rfl⟩
theorem print_any (y : In) (h : Told y) (w : World) (hv : Env w) : Calls Tryd.prog 11 #[inV y] w fun e w' => e = .returned (prV y) ∧ Below w.heap.size w w' := by
  unfold prV
  cases hr : rightB y
  · exact print_no y w h.1 hr
  · exact print_yes y w h.2 hr hv
theorem rprint_any (y : In) (h : Told y) (w : World) : Calls Tryd.prog 12 #[inV y] w fun e w' => e = .returned (prV y) ∧ Below w.heap.size w w' := by
  unfold prV
  cases hr : rightB y
  · exact rprint_no y w h.1 hr
  · exact rprint_yes y w h.2 hr
theorem reads_len (x : In) : (readsL x).length ≤ 1000 := by
  cases h : rightB x
  · rw [wrong_reads x h]; exact Nat.zero_le _
  · rcases reads_short x h with e | ⟨a, e, _⟩ | ⟨a, b, e, _⟩ <;> rw [e] <;> simp
theorem parse_same {l : List UInt8} {e e' : Ending} (h : ParseRes l e) (h' : ParseRes l e') : e = e' := by
  rcases h with ⟨x, a1, a2, a3, rfl⟩ | ⟨n1, rfl⟩
  · rcases h' with ⟨y, b1, b2, b3, rfl⟩ | ⟨n2, rfl⟩
    · rw [txt_inj a1 b1 a2 b2 (a3.trans b3.symm)]
    · exact absurd a3 (n2 x a1 a2)
  · rcases h' with ⟨y, b1, b2, b3, rfl⟩ | ⟨n2, rfl⟩
    · exact absurd b3 (n1 y b1 b2)
    · rfl
theorem parse_shape {l : List UInt8} {e : Ending} (h : ParseRes l e) : ∃ (x : In) (k : Int), e = .returned (.tuple #[inV x, .int .i64 k]) := by
  rcases h with ⟨x, a1, a2, a3, rfl⟩ | ⟨n1, rfl⟩
  · exact ⟨_, _, rfl⟩
  · exact ⟨_, _, rfl⟩
end Go.Proofs.YtdfiaefdbalcoaaDoor
