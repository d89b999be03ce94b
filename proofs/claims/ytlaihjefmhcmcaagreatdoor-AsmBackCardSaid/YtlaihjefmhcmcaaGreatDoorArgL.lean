/- Lines that came in. -/
import Derived.Test.YtlaihjefmhcmcaaGreatDoorRows
import Derived.WalkKit
import Derived.ProofKit
import Derived.OpenShut
import Derived.ShutString
import Derived.LaidMore
import Derived.FnData
import Derived.SizedLaws
import Derived.Test.YtlaihjefmhcmcaaGreatDoorInR
import Derived.Test.YtlaihjefmhcmcaaGreatDoorRow
namespace Go.Proofs.YtlaihjefmhcmcaaGreatDoor
open Go.ChangeShapes Go.WideShapes Go.ChangeAt Go.RowKit
set_option linter.unusedVariables false
theorem cInt : Tryz.prog.cellsOf 3 = 1 := by kernel_rfl
theorem cIns : Tryz.prog.cellsOf 46 = 6 := by kernel_rfl
theorem cLin : Tryz.prog.cellsOf 48 = 7 := by kernel_rfl
section
variable {H : Type} {enc : TypeId × Value → H} {W : World} {base : Nat} {sp : Nat → Bool} {held : Bool} {v : Value} {d : DataW H} {ps : List MemPlace} {b0 : Nat}
theorem num_of {fuel : Nat} {l : List Value} {y : DataW H × List MemPlace} (h : DataW.trod enc Tryz.prog W base sp held fuel 3 l = some y) : ∃ k, l = [.int .i64 k] ∧ I64 k := by
  obtain ⟨k, e, _, w⟩ := DataW.trod_int Tryz.underlying3 h
  exact ⟨k, e, bounds_i64 w⟩
set_option maxRecDepth 100000 in
theorem ins_of {fuel : Nat} {cs : List Value} {x : DataW H × List MemPlace} (hf : DataW.trod enc Tryz.prog W base sp held fuel 46 cs = some x) (hl : cs.length = 6) : ∃ x : In, cs = cellsI x ∧ AllI x := by
  obtain ⟨xs, n, _, _, _, hlen, hg⟩ := DataW.trod_struct Tryz.underlying46 hf
  have hl6 : xs.length = 6 := hlen
  have at_ : ∀ i, i < 6 → ∃ y, xs[i]? = some y := fun i hi => ⟨_, List.getElem?_eq_getElem (by omega)⟩
  match cs, hl with
  | [c0, c1, c2, c3, c4, c5], _ =>
    have fi : ∀ (i : Nat) (f : Field) (c : Value), i < 6 → DataW.trod enc Tryz.prog W base sp held n f.type (List.take (Tryz.prog.cellsOf f.type) (List.drop f.offset [c0, c1, c2, c3, c4, c5])) = xs[i]? → f.type = 3 → ([c0, c1, c2, c3, c4, c5].drop f.offset).take 1 = [c] → ∃ k, c = .int .i64 k ∧ I64 k := by
      intro i f c hi this ht hd
      obtain ⟨y, hy⟩ := at_ i hi
      rw [hy, ht, cInt] at this
      obtain ⟨k, e, w⟩ := num_of this
      have e2 : [c] = [.int .i64 k] := hd.symm.trans e
      exact ⟨k, by simpa using e2, w⟩
    obtain ⟨k0, rfl, w0⟩ := fi 0 _ c0 (by decide) (hg 0 _ rfl) rfl rfl
    obtain ⟨k1, rfl, w1⟩ := fi 1 _ c1 (by decide) (hg 1 _ rfl) rfl rfl
    obtain ⟨k2, rfl, w2⟩ := fi 2 _ c2 (by decide) (hg 2 _ rfl) rfl rfl
    obtain ⟨k3, rfl, w3⟩ := fi 3 _ c3 (by decide) (hg 3 _ rfl) rfl rfl
    obtain ⟨k4, rfl, w4⟩ := fi 4 _ c4 (by decide) (hg 4 _ rfl) rfl rfl
    obtain ⟨y, hy⟩ := at_ 5 (by decide)
    have h5 : DataW.trod enc Tryz.prog W base sp held n 9 (List.take (Tryz.prog.cellsOf 9) (List.drop 5 [.int .i64 k0, .int .i64 k1, .int .i64 k2, .int .i64 k3, .int .i64 k4, c5])) = xs[5]? := hg 5 _ rfl
    rw [hy, cellsStr] at h5
    obtain ⟨s, e, _, w5⟩ := DataW.trod_string Tryz.underlying9 h5
    have e2 : [c5] = [.string s] := e
    obtain rfl : c5 = .string s := by simpa using e2
    exact ⟨⟨k0, k1, k2, k3, k4, s.data.toList⟩, rfl, w0, w1, w2, w3, w4⟩
set_option maxRecDepth 100000 in
theorem line_of {fuel : Nat} {cs : List Value} {x : DataW H × List MemPlace} (hf : DataW.trod enc Tryz.prog W base sp held fuel 48 cs = some x) (hl : cs.length = 7) : ∃ l : Ln, cs = cellsL l ∧ AllI l.ins := by
  obtain ⟨xs, n, _, _, _, hlen, hg⟩ := DataW.trod_struct Tryz.underlying48 hf
  have hl2 : xs.length = 2 := hlen
  match cs, hl with
  | c0 :: r, hl =>
    have h0 : DataW.trod enc Tryz.prog W base sp held n 9 (List.take (Tryz.prog.cellsOf 9) (List.drop 0 (c0 :: r))) = xs[0]? := hg 0 _ rfl
    have h1 : DataW.trod enc Tryz.prog W base sp held n 46 (List.take (Tryz.prog.cellsOf 46) (List.drop 1 (c0 :: r))) = xs[1]? := hg 1 _ rfl
    rw [List.getElem?_eq_getElem (by omega), cellsStr] at h0
    rw [List.getElem?_eq_getElem (by omega), cIns] at h1
    have hr : r.length = 6 := by simpa using hl
    obtain ⟨s, e, _, _⟩ := DataW.trod_string Tryz.underlying9 h0
    have e2 : [c0] = [.string s] := e
    obtain rfl : c0 = .string s := by simpa using e2
    have e3 : List.take 6 (List.drop 1 (.string s :: r)) = r := by rw [List.drop_succ_cons, List.drop_zero, List.take_of_length_le (by omega)]
    rw [e3] at h1
    obtain ⟨x, rfl, hx⟩ := ins_of h1 hr
    exact ⟨⟨s.data.toList, x⟩, rfl, hx⟩
theorem lines_list {a : Addr} : ∀ (len : Nat), (∀ i, i < len → ∃ l : Ln, AllI l.ins ∧ LnAt W (a.add (i * 7)) l) → ∃ L : List Ln, L.length = len ∧ ∀ i (h : i < L.length), AllI (L[i]'h).ins ∧ LnAt W (a.add (i * 7)) (L[i]'h)
  | 0, _ => ⟨[], rfl, fun i h => by cases h⟩
  | len + 1, key => by
    obtain ⟨L, h1, h2⟩ := lines_list len (fun i hi => key i (by omega))
    obtain ⟨l, hl, hc⟩ := key len (by omega)
    refine ⟨L ++ [l], by simp [h1], fun i h => ?_⟩
    by_cases hi : i < L.length
    · rw [List.getElem_append_left hi]; exact h2 i hi
    · have e : i = len := by simp at h; omega
      subst e
      rw [List.getElem_append_right (by omega)]
      simp only [h1, Nat.sub_self, List.getElem_cons_zero]
      exact ⟨hl, hc⟩
set_option maxRecDepth 100000 in
theorem open_lines (hv : Value.okWide Tryz.prog W .any b0 22 v) (h : DataW.Trod enc Tryz.prog W base sp held 22 v d ps) : ∃ L, LnsAt W v L ∧ (∀ l ∈ L, AllI l.ins) := by
  obtain ⟨a0, len, cap, rfl⟩ := okWide_slice Tryz.underlying22 hv
  obtain ⟨fuel, hf⟩ := h
  have hml : maxLen = 9223372036854775807 := by unfold maxLen; decide
  rcases DataW.trod_slice Tryz.underlying22 hf with ⟨hcs, _⟩ | ⟨a, len', cap', elems, rest, n, _, hcs, _, _, hl, hm, hlen, hel, _, _⟩
  · simp [Value.cells] at hcs
    obtain ⟨rfl, rfl, rfl⟩ := hcs
    exact ⟨[], ⟨by simp, _, _, rfl, fun i hi => by cases hi⟩, fun x hx => by cases hx⟩
  · simp [Value.cells] at hcs
    obtain ⟨rfl, rfl, rfl⟩ := hcs
    have key : ∀ i, i < len → ∃ l : Ln, AllI l.ins ∧ LnAt W (a.add (i * 7)) l := by
      intro i hi
      have he := hel i hi
      rw [List.getElem?_eq_getElem (by omega), cLin] at he
      obtain ⟨cs, hcs, hd⟩ := Option.bind_eq_some_iff.1 he
      obtain ⟨_, hln, hc⟩ := World.cells?_some hcs
      obtain ⟨l, rfl, hl⟩ := line_of hd (by simpa using hln)
      have h0 := hc 0 (by decide)
      rw [Addr.add_zero'] at h0
      exact ⟨l, hl, h0, hc 1 (by decide), hc 2 (by decide), hc 3 (by decide), hc 4 (by decide), hc 5 (by decide), hc 6 (by decide)⟩
    obtain ⟨L, hL1, hL2⟩ := lines_list len key
    refine ⟨L, ⟨by omega, some a, cap, by rw [hL1], fun i hi => ⟨a, rfl, (hL2 i hi).2⟩⟩, fun x hx => ?_⟩
    obtain ⟨i, hi, rfl⟩ := List.getElem_of_mem hx
    exact (hL2 i hi).1
end
end Go.Proofs.YtlaihjefmhcmcaaGreatDoor
