/- An instruction that came in. -/
import Derived.Test.YtafapkljlajflaaDoorVi
import Derived.Test.YtafapkljlajflaaDoorVn
namespace Go.Proofs.YtafapkljlajflaaDoor
open Go.ChangeShapes Go.WideShapes Go.ChangeAt Go.RowKit
set_option maxRecDepth 100000 in
theorem open_xn {H : Type} {enc : TypeId × Value → H} {W : World} {b0 base : Nat} {sp : Nat → Bool} {held : Bool} {v : Value} {d : DataW H} {ps : List MemPlace}
    (hv : Value.okWide Tryd.prog W .any b0 36 v) (h : DataW.Trod enc Tryd.prog W base sp held 36 v d ps) : ∃ (x : Xn) (va : Value), v = rawV x va ∧ AllX x := by
  obtain ⟨cs, rfl, hsz⟩ := okWide_struct Tryd.underlying36 hv
  obtain ⟨fuel, hf⟩ := h
  have hc : Tryd.prog.cellsOf 36 = 8 := by kernel_rfl
  obtain ⟨l⟩ := cs
  obtain ⟨x, va, e, hx, _⟩ := xn_of hf (hsz.trans hc)
  refine ⟨x, va, ?_, hx⟩
  have e : l = [.int .i64 x.kind, .int .i64 x.d, .int .i64 x.a, .int .i64 x.b, .int .i64 x.op, .int .i64 x.n, .string (mk x.name), va] := e
  rw [e]
  rfl
end Go.Proofs.YtafapkljlajflaaDoor
