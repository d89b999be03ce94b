/- What the seven listed variables give; a start in which they hold what their text lays. -/
import Derived.Test.YtlaihjefmhcmcaaGreatDoorRows
import Derived.Lay
import Derived.Test.YtlaihjefmhcmcaaGreatDoorInR
namespace Go.Proofs.YtlaihjefmhcmcaaGreatDoor
open Go.ChangeShapes Go.WideShapes Go.ChangeAt Go.RowKit
set_option linter.unusedVariables false
noncomputable abbrev laid7 : List (String × DataW Unit) := [("math/bits.deBruijn32tab", Rows.laid_math_bits_deBruijn32tab), ("math/bits.deBruijn64tab", Rows.laid_math_bits_deBruijn64tab), ("internal/strconv.uint64pow10", Rows.laid_internal_strconv_uint64pow10), ("unicode/utf8.acceptRanges", Rows.laid_unicode_utf8_acceptRanges), ("strconv.ErrRange", Rows.laid_strconv_ErrRange), ("strconv.ErrSyntax", Rows.laid_strconv_ErrSyntax), ("unicode/utf8.first", Rows.laid_unicode_utf8_first)]
theorem laid7_plain (W : World) (h : laidMetH Tryz.prog laid7 W) : laidMet Tryz.prog laid7 W := by
  have e : (laid7.filter fun x => x.2.handleName?.isSome) = [] := by kernel_rfl
  unfold laidMetH at h
  rw [e] at h
  exact h
theorem env_of7 {W : World} (h : laidMetH Tryz.prog laid7 W) (hsh : W.ShapedOpen Tryz.prog) : Env W := by
  have h3 := laidMet_tail (laidMet_tail (laid7_plain W h))
  have h4 := laidMet_tail (laidMet_tail h3)
  have h5 := laidMet_tail h4
  obtain ⟨a1, s1, hv1, _⟩ := laid_sentinel h4 gRange gRangeType Tryz.underlying56 rowErr Tryz.underlying149 Tryz.underlying151 rfl rfl Tryz.underlying9 cellsErr cellsStr
  obtain ⟨a0, s0, hv0, _⟩ := laid_sentinel h5 gSyntax gSyntaxType Tryz.underlying56 rowErr Tryz.underlying149 Tryz.underlying151 rfl rfl Tryz.underlying9 cellsErr cellsStr
  have c1 : W.cell? ⟨5, 0, none⟩ = some (.iface 149 (.pointer (some a1))) := by simpa using World.var?_cell gRange hv1 0
  have c0 : W.cell? ⟨4, 0, none⟩ = some (.iface 149 (.pointer (some a0))) := by simpa using World.var?_cell gSyntax hv0 0
  refine ⟨cell_of_shapedOpen_int (zero := #[.int .i64 0]) (t := 3) hsh (of_decide_eq_true (by kernel_rfl)) (by kernel_rfl) rfl (by kernel_rfl) (by kernel_rfl) Tryz.underlying3, ⟨_, c0, .inr ⟨_, _, rfl⟩⟩, ⟨_, c1, .inr ⟨_, _, rfl⟩⟩, ?_⟩
  exact Lib.tabIs_of_head pow_g gPowType Tryz.underlying131 Tryz.underlying110 (by kernel_rfl) (by kernel_rfl) h3
end Go.Proofs.YtlaihjefmhcmcaaGreatDoor
