/- The document's own answer: an instruction read. -/
import Derived.Test.YtdfiaefdbalcoaaDoorRows
import Derived.WalkKit
import Derived.ProofKit
import Derived.OpenShut
import Derived.WalkLawsBesides
import Derived.WalkSpells
import Derived.Outline
import Derived.Handy
import Derived.Lib.Hide
import Derived.Lib.OthersKept
import Derived.KernelRfl
import Derived.Deep.Cut
import Derived.Test.YtdfiaefdbalcoaaDoorInTa
import Derived.Test.YtdfiaefdbalcoaaDoorInTv
import Derived.Test.YtdfiaefdbalcoaaDoorInF
import Derived.Test.YtdfiaefdbalcoaaDoorInTr1
import Derived.Test.YtdfiaefdbalcoaaDoorInTr2
import Derived.Test.YtdfiaefdbalcoaaDoorInTr3
namespace Go.Proofs.YtdfiaefdbalcoaaDoor
open Go.ChangeShapes Go.WideShapes Go.ChangeAt Go.RowKit
set_option linter.unusedVariables false
theorem rread_any (op : Int) (s : List UInt8) (hl : s.length ≤ 100000) (w : World) : Calls Tryd.prog 36 #[.int .i64 op, .string (mk s)] w fun e w' => e = .returned (inV (rreadL op (nmL op) (hasL op) s)) ∧ Below w.heap.size w w' := by
  have HF := Lib.hid (fun w => rform_any op w)
  unfold rformV at HF
  have hH7 := (has_any op).1
  have hN5 : (nmL op).length ≤ 5 := by
    cases h : isOp op
    · have : nmL op = [] := by unfold nmL; rw [h]; rfl
      rw [this]; exact Nat.zero_le _
    · exact (nm_len h).2
  by_cases hx : s.take (nmL op).length = nmL op
  · have hx1 : (nmL op).length ≤ s.length := by
      have := congrArg List.length hx
      rw [List.length_take] at this; omega
    by_cases h0 : hasL op = []
    · exact rread_none op s hl w _ _ hH7 hN5 HF hx1 hx h0
    by_cases hr : s.drop (nmL op).length = []
    · exact rread_end op s hl w _ _ hH7 hN5 HF hx1 hx h0 hr
    · exact rread_more op s hl w _ _ hH7 hN5 HF hx1 hx h0 hr
  · by_cases hx1 : s.length < (nmL op).length
    · exact rread_short op s hl w _ _ hH7 hN5 HF hx1 hx
    · exact rread_other op s hl w _ _ hH7 hN5 HF (by omega) hx
end Go.Proofs.YtdfiaefdbalcoaaDoor
