/- What the listed variables give; instructions that came in; a start in which the variables hold what their text lays. -/
import Derived.Test.YtlaihjefmhcmcaaGreatDoorRows
import Derived.WalkKit
import Derived.ProofKit
import Derived.OpenShut
import Derived.ShutString
import Derived.LaidMore
import Derived.Stop.Joined
import Derived.Stop.LaidErr
import Derived.FnData
import Derived.HandedShaped
import Derived.Shelf.Vars
import Derived.Test.YtlaihjefmhcmcaaGreatDoorInE
import Derived.Test.YtlaihjefmhcmcaaGreatDoorInJ
namespace Go.Proofs.YtlaihjefmhcmcaaGreatDoor
open Go.ChangeShapes Go.WideShapes Go.ChangeAt Go.RowKit
theorem bounds_i64 {n : Int} (h : (Lit.int .i64 n).wf = true) : I64 n := by
  simp [Lit.wf, IntKind.min, IntKind.max, IntKind.signed, IntKind.bits] at h
  unfold I64; omega
theorem own : ownKnob Tryz.prog.godebug = none := by kernel_rfl
abbrev laid5 : List (String × DataW Unit) := [("math/bits.deBruijn32tab", Rows.laid_math_bits_deBruijn32tab), ("math/bits.deBruijn64tab", Rows.laid_math_bits_deBruijn64tab), ("internal/strconv.uint64pow10", Rows.laid_internal_strconv_uint64pow10), ("strconv.ErrRange", Rows.laid_strconv_ErrRange), ("strconv.ErrSyntax", Rows.laid_strconv_ErrSyntax)]
theorem gRange : Tryz.prog.globalNamed "strconv.ErrRange" = some 5 := by kernel_rfl
theorem gSyntax : Tryz.prog.globalNamed "strconv.ErrSyntax" = some 4 := by kernel_rfl
theorem gRangeType : (Tryz.prog.globals[5]?).map (·.type) = some 56 := by kernel_rfl
theorem gSyntaxType : (Tryz.prog.globals[4]?).map (·.type) = some 56 := by kernel_rfl
theorem star : "*" ++ "errors.errorString" = "*errors.errorString" := by decide
theorem rowErr (u : TypeId) (h : Tryz.prog.typeName? 3 u = some "*errors.errorString") : u = 149 :=
  typeName_ptr_named (nm := "errors.errorString") (by rw [star]; kernel_rfl) (by kernel_rfl) (by decide) u (by rw [star]; exact h)
theorem cellsErr : Tryz.prog.cellsOf 151 = 1 := by kernel_rfl
theorem cellsStr : Tryz.prog.cellsOf 9 = 1 := by kernel_rfl
theorem laidMet_tail {P : Program} {x : String × DataW Unit} {r : List (String × DataW Unit)} {W : World} (h : laidMet P (x :: r) W) : laidMet P r W := by
  obtain ⟨ps, ⟨g, t, cs, f, p, q, _, _, _, _, hq, e⟩, hn, hc⟩ := h
  subst e
  exact ⟨q, hq, (List.nodup_append.1 hn).2.1, fun b off hm => hc b off (List.mem_append_right _ hm)⟩
theorem laid_plain (W : World) (h : laidMetH Tryz.prog laid5 W) : laidMet Tryz.prog laid5 W := by
  have e : (laid5.filter fun x => x.2.handleName?.isSome) = [] := by kernel_rfl
  unfold laidMetH at h
  rw [e] at h
  exact h
theorem gPowType : (Tryz.prog.globals[1]?).map (·.type) = some 131 := by kernel_rfl
theorem env_of {W : World} (h : laidMetH Tryz.prog laid5 W) (hsh : W.ShapedOpen Tryz.prog) : Env W := by
  have h3 := laidMet_tail (laidMet_tail (laid_plain W h))
  have h4 := laidMet_tail h3
  have h5 := laidMet_tail h4
  obtain ⟨a1, s1, hv1, _⟩ := laid_sentinel h4 gRange gRangeType Tryz.underlying56 rowErr Tryz.underlying149 Tryz.underlying151 rfl rfl Tryz.underlying9 cellsErr cellsStr
  obtain ⟨a0, s0, hv0, _⟩ := laid_sentinel h5 gSyntax gSyntaxType Tryz.underlying56 rowErr Tryz.underlying149 Tryz.underlying151 rfl rfl Tryz.underlying9 cellsErr cellsStr
  have c1 : W.cell? ⟨5, 0, none⟩ = some (.iface 149 (.pointer (some a1))) := by simpa using World.var?_cell gRange hv1 0
  have c0 : W.cell? ⟨4, 0, none⟩ = some (.iface 149 (.pointer (some a0))) := by simpa using World.var?_cell gSyntax hv0 0
  refine ⟨cell_of_shapedOpen_int (zero := #[.int .i64 0]) (t := 3) hsh (of_decide_eq_true (by kernel_rfl)) (by kernel_rfl) rfl (by kernel_rfl) (by kernel_rfl) Tryz.underlying3, ⟨_, c0, .inr ⟨_, _, rfl⟩⟩, ⟨_, c1, .inr ⟨_, _, rfl⟩⟩, ?_⟩
  exact Lib.tabIs_of_head pow_g gPowType Tryz.underlying131 Tryz.underlying110 (by kernel_rfl) (by kernel_rfl) h3
set_option maxRecDepth 1000000 in
/-- The door's own heap meets the condition: three closed facts. -/
theorem door_met (os : Os) (args : Array Value) : laidMetH Tryz.prog laid5 ((World.doorLaid Tryz.prog 2000 os).forCall (fun _ _ => 0) ⟨#[], args, []⟩).memory :=
  laidMetH_of_parts3 (fuel := 8) (laidMet_of_run' 8 (by kernel_rfl) (by kernel_rfl)) (by kernel_rfl) (by kernel_rfl)
set_option maxRecDepth 100000 in
/-- An instruction that came in. -/
theorem instr_arg {H : Type} {enc : TypeId × Value → H} {W : World} {r : Reach} {b0 base : Nat} {sp : Nat → Bool} {hd : Bool} {v : Value} {d : DataW H} {p : List MemPlace}
    (hv : Value.okWide Tryz.prog W r b0 46 v) (h : DataW.Trod enc Tryz.prog W base sp hd 46 v d p) : ∃ x : In, v = inV x ∧ AllI x ∧ x.name.length ≤ maxLen := by
  obtain ⟨cs, rfl, hsz⟩ := okWide_struct Tryz.underlying46 hv
  obtain ⟨fuel, hf⟩ := h
  obtain ⟨xs, n, _, _, _, hlen, hg⟩ := DataW.trod_struct Tryz.underlying46 hf
  have hc6 : Tryz.prog.cellsOf 46 = 6 := by kernel_rfl
  have hci : Tryz.prog.cellsOf 3 = 1 := by kernel_rfl
  have hl6 : xs.length = 6 := hlen
  have at_ : ∀ i, i < 6 → ∃ y, xs[i]? = some y := fun i hi => ⟨_, List.getElem?_eq_getElem (by omega)⟩
  have num : ∀ l : List Value, (∃ y, DataW.trod enc Tryz.prog W base sp hd n 3 l = some y) → ∃ k, l = [.int .i64 k] ∧ I64 k := by
    rintro l ⟨y, hy⟩
    obtain ⟨k, e, _, w⟩ := DataW.trod_int Tryz.underlying3 hy
    exact ⟨k, e, bounds_i64 w⟩
  obtain ⟨l⟩ := cs
  match l, hsz.trans hc6 with
  | [c0, c1, c2, c3, c4, c5], _ =>
    have fi : ∀ (i : Nat) (f : Field) (c : Value), i < 6 → DataW.trod enc Tryz.prog W base sp hd n f.type (List.take (Tryz.prog.cellsOf f.type) (List.drop f.offset [c0, c1, c2, c3, c4, c5])) = xs[i]? → f.type = 3 → ([c0, c1, c2, c3, c4, c5].drop f.offset).take 1 = [c] → ∃ k, c = .int .i64 k ∧ I64 k := by
      intro i f c hi this ht hd
      obtain ⟨y, hy⟩ := at_ i hi
      rw [hy, ht, hci] at this
      obtain ⟨k, e, w⟩ := num _ ⟨y, this⟩
      have e2 : [c] = [.int .i64 k] := hd.symm.trans e
      exact ⟨k, by simpa using e2, w⟩
    obtain ⟨k0, rfl, w0⟩ := fi 0 _ c0 (by decide) (hg 0 _ rfl) rfl rfl
    obtain ⟨k1, rfl, w1⟩ := fi 1 _ c1 (by decide) (hg 1 _ rfl) rfl rfl
    obtain ⟨k2, rfl, w2⟩ := fi 2 _ c2 (by decide) (hg 2 _ rfl) rfl rfl
    obtain ⟨k3, rfl, w3⟩ := fi 3 _ c3 (by decide) (hg 3 _ rfl) rfl rfl
    obtain ⟨k4, rfl, w4⟩ := fi 4 _ c4 (by decide) (hg 4 _ rfl) rfl rfl
    obtain ⟨y, hy⟩ := at_ 5 (by decide)
    have h5 : DataW.trod enc Tryz.prog W base sp hd n 9 (List.take (Tryz.prog.cellsOf 9) (List.drop 5 [.int .i64 k0, .int .i64 k1, .int .i64 k2, .int .i64 k3, .int .i64 k4, c5])) = xs[5]? := hg 5 _ rfl
    rw [hy, cellsStr] at h5
    obtain ⟨s, e, _, w5⟩ := DataW.trod_string Tryz.underlying9 h5
    have e2 : [c5] = [.string s] := e
    obtain rfl : c5 = .string s := by simpa using e2
    exact ⟨⟨k0, k1, k2, k3, k4, s.data.toList⟩, rfl, ⟨w0, w1, w2, w3, w4⟩, w5⟩
/-- The wrap with both: what the listed variables hold, and the world's shape. -/
theorem handed_both {H : Type} {enc : TypeId × Value → H} {a : Assume} {C : Checked} {os : Os} {f : FuncId} {fn : Func} {s : ChangeSpec} {conds : List PathCond} {apart fresh handsOn again : Bool} {X : World → Array Value → Prop}
    (hX : ∀ (w w' : World) (args : Array Value), w.heap = w'.heap → X w args → X w' args)
    (own : ownKnob C.prog.godebug = none) (started : os.Started) (noInit : C.prog.inits.idxOf? f = none) (hfn : C.prog.funcs[f]? = some fn)
    (witness : ∃ (w : World) (tape : Tape) (i : Input), w.os = os ∧ (w.forCall tape i).Shaped C.prog ∧ i.vars = [] ∧ Input.okWide C.prog (w.forCall tape i) .any w.heap.size f i ∧
      ((s.pre enc C.prog fn conds apart (w.forCall tape i).memory i.args ∧ X (w.forCall tape i).memory i.args) ∧ sizedMet enc C.prog fn (OpenSpec.ofChange s) apart (w.forCall tape i).memory i.args) ∧ a.holds C.prog (lone (Frame.enter C.prog f i.args .normal) [] (w.forCall tape i)))
    (contract : ∀ (W : World) (base : Nat) (args : Array Value) (ds gs : List (DataW H)) (before : List MemPlace),
      (∀ (j : Nat) t v, fn.params[j]? = some t → args[j]? = some v → Value.okWide C.prog W .any base t v) →
      DataW.Whole enc C.prog fn.params.toList s.vars apart W args.toList ds gs before → X W args → W.ShapedOpen C.prog →
      Calls C.prog f args W fun e W' => ∃ v, e = .returned v ∧ s.post enc C.prog fn apart fresh handsOn again W args v W') :
    ReturnsInHanded a C os f .any (fun w args => (s.pre enc C.prog fn conds apart w args ∧ X w args) ∧ sizedMet enc C.prog fn (OpenSpec.ofChange s) apart w args) (s.post enc C.prog fn apart fresh handsOn again) := by
  refine returnsInHanded_of_calls own started noInit witness ?_
  intro w tape i _ hsh _ hok hpre _
  obtain ⟨_, _, _, fn', hfn', _, _, _, _, hval⟩ := hok
  obtain rfl : fn' = fn := Option.some.inj (hfn'.symm.trans hfn)
  obtain ⟨⟨⟨ds, gs, before, hw, _⟩, hx⟩, _⟩ := hpre
  refine (contract (w.forCall tape i) w.heap.size i.args ds gs before hval (DataW.Whole.of_heap (w' := w.forCall tape i) (by rfl) hw) (hX _ _ _ (by rfl) hx) hsh).mono fun e W' ⟨v, he, hp⟩ => ?_
  subst he
  exact ChangeSpec.post_blind hp
end Go.Proofs.YtlaihjefmhcmcaaGreatDoor
