/- Arguments that are rows of numbers; the law's blanks, and its count of line feeds. -/
import Derived.Test.YtohffidbibichaaDoorRows
import Derived.WalkKit
import Derived.ProofKit
import Derived.OpenShut
import Derived.WalkLawsBesides
import Derived.WalkSpells
import Derived.Outline
import Derived.Handy
import Derived.Lib.Hide
import Derived.Lib.OthersKept
import Derived.KernelRfl
import Derived.RegionTactic
import Derived.BigRegion
import Derived.Deep.RegionHeld3
import Derived.Carry
import Derived.Test.YtohffidbibichaaDoorScR
import Derived.Test.YtohffidbibichaaDoorScU
namespace Go.Proofs.YtohffidbibichaaDoor
open Go.ChangeShapes Go.WideShapes Go.ChangeAt Go.RowKit
set_option linter.unusedVariables false
def In64 (n : Int) : Prop := -9223372036854775808 ≤ n ∧ n ≤ 9223372036854775807
/-- A value is a row of pairs. -/
def PairsAt (w : World) (v : Value) (L : List (Int × Int)) : Prop :=
  (∀ x ∈ L, In64 x.1 ∧ In64 x.2) ∧ L.length ≤ 9223372036854775807 ∧ ∃ p cap, v = .slice p L.length cap ∧ ∀ i (h : i < L.length), ∃ a, p = some a ∧
    w.cell? (a.add (i * 2)) = some (.int .i64 (L[i]'h).1) ∧ w.cell? ((a.add (i * 2)).add 1) = some (.int .i64 (L[i]'h).2)
/-- A value is a row of numbers. -/
def IntsAt (w : World) (v : Value) (L : List Int) : Prop :=
  (∀ x ∈ L, In64 x) ∧ L.length ≤ 9223372036854775807 ∧ ∃ p cap, v = .slice p L.length cap ∧ ∀ i (h : i < L.length), ∃ a, p = some a ∧ w.cell? (a.add i) = some (.int .i64 (L[i]'h))
theorem add_block (a : Addr) (n : Nat) : (a.add n).block = a.block := by
  unfold Addr.add; split <;> rfl
theorem cell_lt {w : World} {a : Addr} {v : Value} (h : w.cell? a = some v) : a.block < w.heap.size := by
  rcases Nat.lt_or_ge a.block w.heap.size with k | k
  · exact k
  · simp [World.cell?, Array.getElem?_eq_none k] at h
theorem PairsAt.ext {w w' : World} {v : Value} {L : List (Int × Int)} (h : PairsAt w v L) (g : Below w.heap.size w w') : PairsAt w' v L := by
  obtain ⟨h1, h2, p, cap, e, h3⟩ := h
  refine ⟨h1, h2, p, cap, e, fun i hi => ?_⟩
  obtain ⟨a, ea, c0, c1⟩ := h3 i hi
  exact ⟨a, ea, (g.cell (cell_lt c0)).trans c0, (g.cell (cell_lt c1)).trans c1⟩
theorem IntsAt.ext {w w' : World} {v : Value} {L : List Int} (h : IntsAt w v L) (g : Below w.heap.size w w') : IntsAt w' v L := by
  obtain ⟨h1, h2, p, cap, e, h3⟩ := h
  refine ⟨h1, h2, p, cap, e, fun i hi => ?_⟩
  obtain ⟨a, ea, c0⟩ := h3 i hi
  exact ⟨a, ea, (g.cell (cell_lt c0)).trans c0⟩
theorem cellsInt : Tryd.prog.cellsOf 3 = 1 := by kernel_rfl
theorem cellsPair : Tryd.prog.cellsOf 34 = 2 := by kernel_rfl
theorem maxLen_eq : maxLen = 9223372036854775807 := by unfold maxLen; decide
section
variable {H : Type} {enc : TypeId × Value → H} {W : World} {base : Nat} {sp : Nat → Bool} {held : Bool} {v : Value} {d : DataW H} {ps : List MemPlace} {b0 : Nat}
theorem open_intsAt (hv : Value.okWide Tryd.prog W .any b0 30 v) (h : DataW.Trod enc Tryd.prog W base sp held 30 v d ps) : ∃ L, IntsAt W v L := by
  obtain ⟨a0, len, cap, rfl⟩ := okWide_slice Tryd.underlying30 hv
  obtain ⟨fuel, hf⟩ := h
  rcases open_ints Tryd.underlying30 Tryd.underlying3 cellsInt hf with ⟨hcs, _⟩ | ⟨a, len', cap', zs, hcs, _, hl, hm, hz, _, hcell, hwz⟩
  · simp [Value.cells] at hcs
    obtain ⟨rfl, rfl, rfl⟩ := hcs
    exact ⟨[], (fun x hx => by cases hx), by simp, _, _, rfl, fun i hi => by cases hi⟩
  · simp [Value.cells] at hcs
    obtain ⟨rfl, rfl, rfl⟩ := hcs
    have hlen : len ≤ zs.length := by rw [hz]; split <;> omega
    have hml := maxLen_eq
    have htl : (zs.take len).length = len := by rw [List.length_take]; omega
    refine ⟨zs.take len, (fun x hx => bounds_i64 (hwz x (List.mem_of_mem_take hx))), by omega, some a, cap, by rw [htl], fun i hi => ⟨a, rfl, ?_⟩⟩
    have hi' : i < zs.length := by omega
    rw [hcell i hi', List.getElem_take, List.getD_eq_getElem?_getD, List.getElem?_eq_getElem hi']; rfl
theorem pair_of {fuel : Nat} {cs : List Value} {x : DataW H × List MemPlace} (h : DataW.trod enc Tryd.prog W base sp held fuel 34 cs = some x) : ∃ m n : Int, cs = [.int .i64 m, .int .i64 n] ∧ In64 m ∧ In64 n := by
  obtain ⟨xs, k, _, _, hl, hx, hel⟩ := DataW.trod_array Tryd.underlying34 h
  rw [cellsPair] at hl
  obtain ⟨c0, c1, rfl⟩ : ∃ c0 c1, cs = [c0, c1] := by
    clear hel h
    rcases cs with _ | ⟨c0, _ | ⟨c1, _ | ⟨c2, r⟩⟩⟩
    · cases hl
    · cases hl
    · exact ⟨c0, c1, rfl⟩
    · cases hl
  obtain ⟨x0, x1, rfl⟩ : ∃ x0 x1, xs = [x0, x1] := by
    clear hel h
    rcases xs with _ | ⟨c0, _ | ⟨c1, _ | ⟨c2, r⟩⟩⟩
    · cases hx
    · cases hx
    · exact ⟨c0, c1, rfl⟩
    · cases hx
  have e0 := hel 0 (by decide)
  have e1 := hel 1 (by decide)
  rw [cellsInt] at e0 e1
  obtain ⟨m, hm, _, wm⟩ := DataW.trod_int Tryd.underlying3 e0
  obtain ⟨n, hn, _, wn⟩ := DataW.trod_int Tryd.underlying3 e1
  simp at hm hn
  subst hm; subst hn
  exact ⟨m, n, rfl, bounds_i64 wm, bounds_i64 wn⟩
theorem pairs_list {a : Addr} : ∀ (len : Nat), (∀ i, i < len → ∃ m k : Int, In64 m ∧ In64 k ∧ W.cell? (a.add (i * 2)) = some (.int .i64 m) ∧ W.cell? ((a.add (i * 2)).add 1) = some (.int .i64 k)) →
    ∃ L : List (Int × Int), L.length = len ∧ ∀ i (h : i < L.length), In64 (L[i]'h).1 ∧ In64 (L[i]'h).2 ∧ W.cell? (a.add (i * 2)) = some (.int .i64 (L[i]'h).1) ∧ W.cell? ((a.add (i * 2)).add 1) = some (.int .i64 (L[i]'h).2)
  | 0, _ => ⟨[], rfl, fun i h => by cases h⟩
  | len + 1, key => by
    obtain ⟨L, h1, h2⟩ := pairs_list len (fun i hi => key i (by omega))
    obtain ⟨m, k, hm, hk, c0, c1⟩ := key len (by omega)
    refine ⟨L ++ [(m, k)], by simp [h1], fun i h => ?_⟩
    by_cases hi : i < L.length
    · rw [List.getElem_append_left hi]; exact h2 i hi
    · have e : i = len := by simp at h; omega
      subst e
      rw [List.getElem_append_right (by omega)]
      simp only [h1, Nat.sub_self, List.getElem_cons_zero]
      exact ⟨hm, hk, c0, c1⟩
theorem open_pairsAt (hv : Value.okWide Tryd.prog W .any b0 29 v) (h : DataW.Trod enc Tryd.prog W base sp held 29 v d ps) : ∃ L, PairsAt W v L := by
  obtain ⟨a0, len, cap, rfl⟩ := okWide_slice Tryd.underlying29 hv
  obtain ⟨fuel, hf⟩ := h
  rcases DataW.trod_slice Tryd.underlying29 hf with ⟨hcs, _⟩ | ⟨a, len', cap', elems, rest, n, _, hcs, _, _, hl, hm, hlen, hel, _, _⟩
  · simp [Value.cells] at hcs
    obtain ⟨rfl, rfl, rfl⟩ := hcs
    exact ⟨[], (fun x hx => by cases hx), by simp, _, _, rfl, fun i hi => by cases hi⟩
  · simp [Value.cells] at hcs
    obtain ⟨rfl, rfl, rfl⟩ := hcs
    have hml := maxLen_eq
    have key : ∀ i, i < len → ∃ m k : Int, In64 m ∧ In64 k ∧ W.cell? (a.add (i * 2)) = some (.int .i64 m) ∧ W.cell? ((a.add (i * 2)).add 1) = some (.int .i64 k) := by
      intro i hi
      have he := hel i hi
      rw [List.getElem?_eq_getElem (by omega), cellsPair] at he
      obtain ⟨cs, hcs, hd⟩ := Option.bind_eq_some_iff.1 he
      obtain ⟨m, k, rfl, hm, hk⟩ := pair_of hd
      obtain ⟨_, _, hc⟩ := World.cells?_some hcs
      have h0 := hc 0 (by decide)
      have h1 := hc 1 (by decide)
      rw [Addr.add_zero'] at h0
      exact ⟨m, k, hm, hk, h0, h1⟩
    obtain ⟨L, hL1, hL2⟩ := pairs_list len key
    refine ⟨L, fun x hx => ?_, by omega, some a, cap, by rw [hL1], fun i hi => ⟨a, rfl, (hL2 i hi).2.2⟩⟩
    obtain ⟨i, hi, rfl⟩ := List.getElem_of_mem hx
    exact ⟨(hL2 i hi).1, (hL2 i hi).2.1⟩
end
end Go.Proofs.YtohffidbibichaaDoor
