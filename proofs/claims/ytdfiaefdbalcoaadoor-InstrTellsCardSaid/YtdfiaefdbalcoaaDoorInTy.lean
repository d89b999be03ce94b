/- The name of an instruction that came in: its length. -/
import Derived.Test.YtdfiaefdbalcoaaDoorInR
import Derived.SizedLaws
namespace Go.Proofs.YtdfiaefdbalcoaaDoor
open Go.ChangeShapes Go.WideShapes Go.ChangeAt Go.RowKit
set_option maxRecDepth 100000 in
theorem instr_name {H : Type} {enc : TypeId × Value → H} {W : World} {base : Nat} {sp : Nat → Bool} {hd : Bool} {x : In} {d : DataW H} {p : List MemPlace} {ts : List TypeId} {ds : List (DataW H)}
    (h : DataW.Trod enc Tryd.prog W base sp hd 23 (inV x) d p) (hs : (DataW.weightsEach Tryd.prog ts ds).all (· ≤ reachBytes) = true) {j : Nat} (ht : ts[j]? = some 23) (hd' : ds[j]? = some d) : x.name.length ≤ 140737488355328 := by
  obtain ⟨fuel, hf⟩ := h
  obtain ⟨xs, n, _, hx, _, hlen, hg⟩ := DataW.trod_struct Tryd.underlying23 hf
  have hl6 : xs.length = 6 := hlen
  have h5 : DataW.trod enc Tryd.prog W base sp hd n 9 (List.take (Tryd.prog.cellsOf 9) (List.drop 5 [.int .i64 x.op, .int .i64 x.d, .int .i64 x.a, .int .i64 x.b, .int .i64 x.n, .string (mk x.name)])) = xs[5]? := hg 5 _ rfl
  obtain ⟨y, hy⟩ : ∃ y, xs[5]? = some y := ⟨_, List.getElem?_eq_getElem (by omega)⟩
  rw [hy, cellsStr] at h5
  obtain ⟨s, e, hy2, _⟩ := DataW.trod_string Tryd.underlying9 h5
  have e2 : [Value.string (mk x.name)] = [.string s] := e
  have e3 : mk x.name = s := by simpa using e2
  have hdd : d = .agg (xs.map (·.1)) := congrArg Prod.fst hx
  have h1 : (xs.map (·.1))[5]? = some (.lit (.string x.name)) := by
    rw [List.getElem?_map, hy, hy2, ← e3]; rfl
  have hm1 : x.name.length ∈ d.weights Tryd.prog 23 := by
    rw [hdd]
    unfold DataW.weights
    rw [Tryd.underlying23]
    exact DataW.weights_mem_each (t := 9) rfl h1 _ (by simp [DataW.weights])
  have := List.all_eq_true.1 hs _ (DataW.weights_mem_each ht hd' _ hm1)
  have : x.name.length ≤ reachBytes := by simpa using this
  unfold reachBytes at this
  omega
end Go.Proofs.YtdfiaefdbalcoaaDoor
