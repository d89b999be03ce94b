/- Blocks that came in; what the listed variables give; the wrap. -/
import Derived.Test.YtafapkljlajflaaDoorRows
import Derived.WalkKit
import Derived.ProofKit
import Derived.OpenShut
import Derived.ShutString
import Derived.LaidMore
import Derived.FnData
import Derived.HandedShaped
import Derived.Shelf.Vars
import Derived.Lay
import Derived.SizedLaws
import Derived.Lib.LaidTab
import Derived.Test.YtafapkljlajflaaDoorUbd
namespace Go.Proofs.YtafapkljlajflaaDoor
open Go.ChangeShapes Go.WideShapes Go.ChangeAt Go.RowKit
set_option linter.unusedVariables false
theorem bounds_i64 {n : Int} (h : (Lit.int .i64 n).wf = true) : I64 n := by
  simp [Lit.wf, IntKind.min, IntKind.max, IntKind.signed, IntKind.bits] at h
  unfold I64; omega
theorem own : ownKnob Tryd.prog.godebug = none := by kernel_rfl
theorem cellsStr : Tryd.prog.cellsOf 9 = 1 := by kernel_rfl
theorem cInt : Tryd.prog.cellsOf 3 = 1 := by kernel_rfl
theorem cXn : Tryd.prog.cellsOf 36 = 8 := by kernel_rfl
theorem cBk : Tryd.prog.cellsOf 43 = 5 := by kernel_rfl
theorem cTm : Tryd.prog.cellsOf 41 = 4 := by kernel_rfl
theorem cSlN : Tryd.prog.cellsOf 34 = 1 := by kernel_rfl
theorem cSlX : Tryd.prog.cellsOf 39 = 1 := by kernel_rfl
theorem laidMet_tail {P : Program} {x : String × DataW Unit} {r : List (String × DataW Unit)} {W : World} (h : laidMet P (x :: r) W) : laidMet P r W := by
  obtain ⟨ps, ⟨g, t, cs, f, p, q, _, _, _, _, hq, e⟩, hn, hc⟩ := h
  subst e
  exact ⟨q, hq, (List.nodup_append.1 hn).2.1, fun b off hm => hc b off (List.mem_append_right _ hm)⟩
abbrev laid3 : List (String × DataW Unit) := [("math/bits.deBruijn32tab", Rows.laid_math_bits_deBruijn32tab), ("math/bits.deBruijn64tab", Rows.laid_math_bits_deBruijn64tab), ("internal/strconv.uint64pow10", Rows.laid_internal_strconv_uint64pow10)]
theorem laid3_plain (W : World) (h : laidMetH Tryd.prog laid3 W) : laidMet Tryd.prog laid3 W := by
  have e : (laid3.filter fun x => x.2.handleName?.isSome) = [] := by kernel_rfl
  unfold laidMetH at h
  rw [e] at h
  exact h
theorem gPowType : (Tryd.prog.globals[0]?).map (·.type) = some 120 := by kernel_rfl
theorem env_of3 {W : World} (h : laidMetH Tryd.prog laid3 W) : Env W :=
  Lib.tabIs_of_head pow_g gPowType Tryd.underlying120 Tryd.underlying110 (by kernel_rfl) (by kernel_rfl) (laidMet_tail (laidMet_tail (laid3_plain W h)))
/-- The wrap with both: what the listed variables hold, and the world's shape. -/
theorem handed_both {H : Type} {enc : TypeId × Value → H} {a : Assume} {C : Checked} {os : Os} {f : FuncId} {fn : Func} {s : ChangeSpec} {conds : List PathCond} {apart fresh handsOn again : Bool} {X : World → Array Value → Prop}
    (hX : ∀ (w w' : World) (args : Array Value), w.heap = w'.heap → X w args → X w' args)
    (own : ownKnob C.prog.godebug = none) (started : os.Started) (noInit : C.prog.inits.idxOf? f = none) (hfn : C.prog.funcs[f]? = some fn)
    (witness : ∃ (w : World) (tape : Tape) (i : Input), w.os = os ∧ (w.forCall tape i).Shaped C.prog ∧ i.vars = [] ∧ Input.okWide C.prog (w.forCall tape i) .any w.heap.size f i ∧
      ((s.pre enc C.prog fn conds apart (w.forCall tape i).memory i.args ∧ X (w.forCall tape i).memory i.args) ∧ sizedMet enc C.prog fn (OpenSpec.ofChange s) apart (w.forCall tape i).memory i.args) ∧ a.holds C.prog (lone (Frame.enter C.prog f i.args .normal) [] (w.forCall tape i)))
    (contract : ∀ (W : World) (base : Nat) (args : Array Value) (ds gs : List (DataW H)) (before : List MemPlace),
      (∀ (j : Nat) t v, fn.params[j]? = some t → args[j]? = some v → Value.okWide C.prog W .any base t v) →
      DataW.Whole enc C.prog fn.params.toList s.vars apart W args.toList ds gs before → X W args → W.ShapedOpen C.prog →
      Calls C.prog f args W fun e W' => ∃ v, e = .returned v ∧ s.post enc C.prog fn apart fresh handsOn again W args v W') :
    ReturnsInHanded a C os f .any (fun w args => (s.pre enc C.prog fn conds apart w args ∧ X w args) ∧ sizedMet enc C.prog fn (OpenSpec.ofChange s) apart w args) (s.post enc C.prog fn apart fresh handsOn again) := by
  refine returnsInHanded_of_calls own started noInit witness ?_
  intro w tape i _ hsh _ hok hpre _
  obtain ⟨_, _, _, fn', hfn', _, _, _, _, hval⟩ := hok
  obtain rfl : fn' = fn := Option.some.inj (hfn'.symm.trans hfn)
  obtain ⟨⟨⟨ds, gs, before, hw, _⟩, hx⟩, _⟩ := hpre
  refine (contract (w.forCall tape i) w.heap.size i.args ds gs before hval (DataW.Whole.of_heap (w' := w.forCall tape i) (by rfl) hw) (hX _ _ _ (by rfl) hx) hsh).mono fun e W' ⟨v, he, hp⟩ => ?_
  subst he
  exact ChangeSpec.post_blind hp
section
variable {H : Type} {enc : TypeId × Value → H} {W : World} {base : Nat} {sp : Nat → Bool} {held : Bool} {v : Value} {d : DataW H} {ps : List MemPlace} {b0 : Nat}
theorem rows_list {α : Type} {Q : Nat → α → Prop} : ∀ (len : Nat), (∀ i, i < len → ∃ x, Q i x) → ∃ L : List α, L.length = len ∧ ∀ i (h : i < L.length), Q i (L[i]'h)
  | 0, _ => ⟨[], rfl, fun i h => by cases h⟩
  | len + 1, key => by
    obtain ⟨L, h1, h2⟩ := rows_list len (fun i hi => key i (by omega))
    obtain ⟨x, hx⟩ := key len (by omega)
    refine ⟨L ++ [x], by simp [h1], fun i h => ?_⟩
    by_cases hi : i < L.length
    · rw [List.getElem_append_left hi]; exact h2 i hi
    · have e : i = len := by simp at h; omega
      subst e
      rw [List.getElem_append_right (by omega)]
      simp only [h1, Nat.sub_self, List.getElem_cons_zero]
      exact hx
/-- A slice that was read is a row. -/
theorem slice_of {α : Type} {S E : TypeId} {k : Nat} {P : (Nat → Prop) → World → Addr → α → Prop} {Ok : α → Prop} (ht : Tryd.prog.underlying S = some (.slice E)) (hc : Tryd.prog.cellsOf E = k) (hk : 0 < k)
    (elem : ∀ {fuel : Nat} {cs : List Value} {x : DataW H × List MemPlace} (a : Addr), DataW.trod enc Tryd.prog W base sp held fuel E cs = some x → cs.length = k → (∀ i, i < k → W.cell? (a.add i) = cs[i]?) → ∃ y, Ok y ∧ P (fun b => b < W.heap.size) W a y)
    {fuel : Nat} {v : Value} {x : DataW H × List MemPlace} (h : DataW.trod enc Tryd.prog W base sp held fuel S [v] = some x) : ∃ L, RowAt k P (fun b => b < W.heap.size) W v L ∧ ∀ x ∈ L, Ok x := by
  have hml : maxLen = 9223372036854775807 := by unfold maxLen; decide
  rcases DataW.trod_slice ht h with ⟨hcs, _⟩ | ⟨a, len, cap, elems, rest, n, _, hcs, _, _, hl, hm, hlen, hel, _, _⟩
  · obtain rfl : v = .slice none 0 0 := by simpa using hcs
    exact ⟨[], RowAt.nil, fun x hx => by cases hx⟩
  · obtain rfl : v = .slice (some a) len cap := by simpa using hcs
    have key : ∀ i, i < len → ∃ y, Ok y ∧ a.block < W.heap.size ∧ P (fun b => b < W.heap.size) W (a.add (i * k)) y := by
      intro i hi
      have he := hel i hi
      rw [List.getElem?_eq_getElem (by omega), hc] at he
      obtain ⟨cs, hcs, hd⟩ := Option.bind_eq_some_iff.1 he
      obtain ⟨_, hln, hcc⟩ := World.cells?_some hcs
      obtain ⟨y, h1, h2⟩ := elem _ hd hln hcc
      have h0 := hcc 0 hk
      rw [List.getElem?_eq_getElem (by omega)] at h0
      have := cell_lt h0
      rw [Addr.add_add, add_block] at this
      exact ⟨y, h1, this, h2⟩
    obtain ⟨L, hL1, hL2⟩ := rows_list (Q := fun i y => Ok y ∧ a.block < W.heap.size ∧ P (fun b => b < W.heap.size) W (a.add (i * k)) y) len key
    refine ⟨L, ⟨by omega, some a, cap, by rw [hL1], fun i hi => ⟨a, rfl, (hL2 i hi).2.1, (hL2 i hi).2.2⟩⟩, fun x hx => ?_⟩
    obtain ⟨i, hi, rfl⟩ := List.getElem_of_mem hx
    exact (hL2 i hi).1
theorem num_of {fuel : Nat} {l : List Value} {y : DataW H × List MemPlace} (h : DataW.trod enc Tryd.prog W base sp held fuel 3 l = some y) : ∃ k, l = [.int .i64 k] ∧ I64 k := by
  obtain ⟨k, e, _, w⟩ := DataW.trod_int Tryd.underlying3 h
  exact ⟨k, e, bounds_i64 w⟩
theorem nums_of {fuel : Nat} {v : Value} {x : DataW H × List MemPlace} (h : DataW.trod enc Tryd.prog W base sp held fuel 34 [v] = some x) : ∃ L, NumsAt (fun b => b < W.heap.size) W v L ∧ ∀ x ∈ L, I64 x := by
  refine slice_of (k := 1) (P := NmAt) Tryd.underlying34 cInt (by decide) (fun {fuel cs x} a hd hl hc => ?_) h
  obtain ⟨k, rfl, w⟩ := num_of hd
  have h0 := hc 0 (by decide)
  rw [Addr.add_zero'] at h0
  exact ⟨k, w, h0⟩
set_option maxRecDepth 100000 in
/-- An instruction's cells, as they were read. -/
theorem xn_of {fuel : Nat} {cs : List Value} {x : DataW H × List MemPlace} (hf : DataW.trod enc Tryd.prog W base sp held fuel 36 cs = some x) (hl : cs.length = 8) : ∃ (x : Xn) (va : Value), cs = [.int .i64 x.kind, .int .i64 x.d, .int .i64 x.a, .int .i64 x.b, .int .i64 x.op, .int .i64 x.n, .string (mk x.name), va] ∧ AllX x ∧ NumsAt (fun b => b < W.heap.size) W va x.args := by
  obtain ⟨xs, n, _, _, _, hlen, hg⟩ := DataW.trod_struct Tryd.underlying36 hf
  have hl8 : xs.length = 8 := hlen
  have at_ : ∀ i, i < 8 → ∃ y, xs[i]? = some y := fun i hi => ⟨_, List.getElem?_eq_getElem (by omega)⟩
  match cs, hl with
  | [c0, c1, c2, c3, c4, c5, c6, c7], _ =>
    have fi : ∀ (i : Nat) (f : Field) (c : Value), i < 8 → DataW.trod enc Tryd.prog W base sp held n f.type (List.take (Tryd.prog.cellsOf f.type) (List.drop f.offset [c0, c1, c2, c3, c4, c5, c6, c7])) = xs[i]? → f.type = 3 → ([c0, c1, c2, c3, c4, c5, c6, c7].drop f.offset).take 1 = [c] → ∃ k, c = .int .i64 k ∧ I64 k := by
      intro i f c hi this ht hd
      obtain ⟨y, hy⟩ := at_ i hi
      rw [hy, ht, cInt] at this
      obtain ⟨k, e, w⟩ := num_of this
      have e2 : [c] = [.int .i64 k] := hd.symm.trans e
      exact ⟨k, by simpa using e2, w⟩
    obtain ⟨k0, rfl, w0⟩ := fi 0 _ c0 (by decide) (hg 0 _ rfl) rfl rfl
    obtain ⟨k1, rfl, w1⟩ := fi 1 _ c1 (by decide) (hg 1 _ rfl) rfl rfl
    obtain ⟨k2, rfl, w2⟩ := fi 2 _ c2 (by decide) (hg 2 _ rfl) rfl rfl
    obtain ⟨k3, rfl, w3⟩ := fi 3 _ c3 (by decide) (hg 3 _ rfl) rfl rfl
    obtain ⟨k4, rfl, w4⟩ := fi 4 _ c4 (by decide) (hg 4 _ rfl) rfl rfl
    obtain ⟨k5, rfl, w5⟩ := fi 5 _ c5 (by decide) (hg 5 _ rfl) rfl rfl
    obtain ⟨y, hy⟩ := at_ 6 (by decide)
    have h6 : DataW.trod enc Tryd.prog W base sp held n 9 (List.take (Tryd.prog.cellsOf 9) (List.drop 6 [.int .i64 k0, .int .i64 k1, .int .i64 k2, .int .i64 k3, .int .i64 k4, .int .i64 k5, c6, c7])) = xs[6]? := hg 6 _ rfl
    rw [hy, cellsStr] at h6
    obtain ⟨s, e, _, _⟩ := DataW.trod_string Tryd.underlying9 h6
    have e2 : [c6] = [.string s] := e
    obtain rfl : c6 = .string s := by simpa using e2
    obtain ⟨y7, hy7⟩ := at_ 7 (by decide)
    have h7 : DataW.trod enc Tryd.prog W base sp held n 34 (List.take (Tryd.prog.cellsOf 34) (List.drop 7 [.int .i64 k0, .int .i64 k1, .int .i64 k2, .int .i64 k3, .int .i64 k4, .int .i64 k5, .string s, c7])) = xs[7]? := hg 7 _ rfl
    rw [hy7, cSlN] at h7
    have h7 : DataW.trod enc Tryd.prog W base sp held n 34 [c7] = some y7 := h7
    obtain ⟨L, hL, _⟩ := nums_of h7
    exact ⟨⟨k0, k1, k2, k3, k4, k5, s.data.toList, L⟩, c7, rfl, ⟨w0, w1, w2, w3, w4, w5⟩, hL⟩
theorem xns_of {fuel : Nat} {v : Value} {x : DataW H × List MemPlace} (h : DataW.trod enc Tryd.prog W base sp held fuel 39 [v] = some x) : ∃ L, XnsAt (fun b => b < W.heap.size) W v L ∧ ∀ x ∈ L, AllX x := by
  refine slice_of (k := 8) (P := XnAt) Tryd.underlying39 cXn (by decide) (fun {fuel cs x} a hd hl hc => ?_) h
  obtain ⟨y, va, rfl, w, hn⟩ := xn_of hd hl
  have h0 := hc 0 (by decide)
  rw [Addr.add_zero'] at h0
  exact ⟨y, w, h0, hc 1 (by decide), hc 2 (by decide), hc 3 (by decide), hc 4 (by decide), hc 5 (by decide), hc 6 (by decide), va, hc 7 (by decide), hn⟩
set_option maxRecDepth 100000 in
theorem tm_of {fuel : Nat} {cs : List Value} {x : DataW H × List MemPlace} (hf : DataW.trod enc Tryd.prog W base sp held fuel 41 cs = some x) (hl : cs.length = 4) : ∃ t : Tm, cs = [.int .i64 t.kind, .int .i64 t.a, .int .i64 t.to, .int .i64 t.els] ∧ AllT t := by
  obtain ⟨xs, n, _, _, _, hlen, hg⟩ := DataW.trod_struct Tryd.underlying41 hf
  have hl4 : xs.length = 4 := hlen
  have at_ : ∀ i, i < 4 → ∃ y, xs[i]? = some y := fun i hi => ⟨_, List.getElem?_eq_getElem (by omega)⟩
  match cs, hl with
  | [c0, c1, c2, c3], _ =>
    have fi : ∀ (i : Nat) (f : Field) (c : Value), i < 4 → DataW.trod enc Tryd.prog W base sp held n f.type (List.take (Tryd.prog.cellsOf f.type) (List.drop f.offset [c0, c1, c2, c3])) = xs[i]? → f.type = 3 → ([c0, c1, c2, c3].drop f.offset).take 1 = [c] → ∃ k, c = .int .i64 k ∧ I64 k := by
      intro i f c hi this ht hd
      obtain ⟨y, hy⟩ := at_ i hi
      rw [hy, ht, cInt] at this
      obtain ⟨k, e, w⟩ := num_of this
      have e2 : [c] = [.int .i64 k] := hd.symm.trans e
      exact ⟨k, by simpa using e2, w⟩
    obtain ⟨k0, rfl, w0⟩ := fi 0 _ c0 (by decide) (hg 0 _ rfl) rfl rfl
    obtain ⟨k1, rfl, w1⟩ := fi 1 _ c1 (by decide) (hg 1 _ rfl) rfl rfl
    obtain ⟨k2, rfl, w2⟩ := fi 2 _ c2 (by decide) (hg 2 _ rfl) rfl rfl
    obtain ⟨k3, rfl, w3⟩ := fi 3 _ c3 (by decide) (hg 3 _ rfl) rfl rfl
    exact ⟨⟨k0, k1, k2, k3⟩, rfl, w0, w1, w2, w3⟩
set_option maxRecDepth 100000 in
theorem bk_of {fuel : Nat} {cs : List Value} {x : DataW H × List MemPlace} (hf : DataW.trod enc Tryd.prog W base sp held fuel 43 cs = some x) (hl : cs.length = 5) : ∃ (b : Bk) (v : Value), cs = [v, .int .i64 b.term.kind, .int .i64 b.term.a, .int .i64 b.term.to, .int .i64 b.term.els] ∧ AllK b ∧ XnsAt (fun b => b < W.heap.size) W v b.ins := by
  obtain ⟨xs, n, _, _, _, hlen, hg⟩ := DataW.trod_struct Tryd.underlying43 hf
  have hl2 : xs.length = 2 := hlen
  match cs, hl with
  | c0 :: r, hl =>
    have h0 : DataW.trod enc Tryd.prog W base sp held n 39 (List.take (Tryd.prog.cellsOf 39) (List.drop 0 (c0 :: r))) = xs[0]? := hg 0 _ rfl
    have h1 : DataW.trod enc Tryd.prog W base sp held n 41 (List.take (Tryd.prog.cellsOf 41) (List.drop 1 (c0 :: r))) = xs[1]? := hg 1 _ rfl
    rw [List.getElem?_eq_getElem (by omega), cSlX] at h0
    rw [List.getElem?_eq_getElem (by omega), cTm] at h1
    have hr : r.length = 4 := by simpa using hl
    have e3 : List.take 4 (List.drop 1 (c0 :: r)) = r := by rw [List.drop_succ_cons, List.drop_zero, List.take_of_length_le (by omega)]
    rw [e3] at h1
    have e0 : List.take 1 (List.drop 0 (c0 :: r)) = [c0] := rfl
    rw [e0] at h0
    obtain ⟨L, hL, hA⟩ := xns_of h0
    obtain ⟨t, rfl, ht⟩ := tm_of h1 hr
    exact ⟨⟨L, t⟩, c0, rfl, ⟨hA, ht⟩, hL⟩
set_option maxRecDepth 100000 in
/-- Blocks that came in. -/
theorem open_blocks (hv : Value.okWide Tryd.prog W .any b0 22 v) (h : DataW.Trod enc Tryd.prog W base sp held 22 v d ps) : ∃ L, BksAt (fun b => b < W.heap.size) W v L ∧ (∀ b ∈ L, AllK b) := by
  obtain ⟨a0, len, cap, rfl⟩ := okWide_slice Tryd.underlying22 hv
  obtain ⟨fuel, hf⟩ := h
  have hf : DataW.trod enc Tryd.prog W base sp held fuel 22 [.slice a0 len cap] = some _ := hf
  refine slice_of (k := 5) (P := BkAt) Tryd.underlying22 cBk (by decide) (fun {fuel cs x} a hd hl hc => ?_) hf
  obtain ⟨y, vx, rfl, w, hn⟩ := bk_of hd hl
  have h0 := hc 0 (by decide)
  rw [Addr.add_zero'] at h0
  exact ⟨y, w, ⟨vx, h0, hn⟩, hc 1 (by decide), hc 2 (by decide), hc 3 (by decide), hc 4 (by decide)⟩
end
end Go.Proofs.YtafapkljlajflaaDoor
