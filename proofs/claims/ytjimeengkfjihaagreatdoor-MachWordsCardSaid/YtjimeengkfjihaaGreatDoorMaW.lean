/- The machine: a run. -/
import Derived.Test.YtjimeengkfjihaaGreatDoorRows
import Derived.WalkKit
import Derived.ProofKit
import Derived.OpenShut
import Derived.WalkLawsBesides
import Derived.WalkSpells
import Derived.Outline
import Derived.Handy
import Derived.Lib.Hide
import Derived.Lib.OthersKept
import Derived.KernelRfl
import Derived.Carry
import Derived.IntWalk
import Derived.RegionTactic
import Derived.BigRegion
import Derived.BigQuiet
import Derived.Deep.QuietTactic
import Derived.Deep.RegionHeld3
import Derived.Deep.DeepCutAuto
import Derived.Deep.MidRow
import Derived.Test.YtjimeengkfjihaaGreatDoorMaX
namespace Go.Proofs.YtjimeengkfjihaaGreatDoor
open Go.ChangeShapes Go.WideShapes Go.ChangeAt Go.RowKit
set_option linter.unusedVariables false
set_option linter.unusedSimpArgs false
def RunRes (B : Nat) (r : Rn) (e : Ending) (w : World) : Prop := ∃ po co, e = .returned (.agg #[.int .i64 r.stat, .int .i64 r.code, .slice po r.out.length co, .int .i64 r.steps]) ∧ w.ownsRow B 3 1 (.slice po r.out.length co) r.out.length (r.out.flatMap cellsN)
theorem four_cells {w : World} {b : Nat} {v0 v1 v2 v3 : Value} {t : TypeId} (h : w.heap[b]? = some (.cells #[v0, v1, v2, v3] t (0, 0))) : w.cell? ⟨b, 0, none⟩ = some v0 ∧ w.cell? ⟨b, 1, none⟩ = some v1 ∧ w.cell? ⟨b, 2, none⟩ = some v2 ∧ w.cell? ⟨b, 3, none⟩ = some v3 := by
  refine ⟨?_, ?_, ?_, ?_⟩ <;> simp [World.cell?, h]
theorem four_frozen {w : World} {b : Nat} {v0 v1 v2 v3 : Value} {t : TypeId} (h : w.heap[b]? = some (.cells #[v0, v1, v2, v3] t (0, 0))) : w.frozen? ⟨b, 0, none⟩ = false ∧ w.frozen? ⟨b, 1, none⟩ = false ∧ w.frozen? ⟨b, 2, none⟩ = false ∧ w.frozen? ⟨b, 3, none⟩ = false := by
  refine ⟨?_, ?_, ?_, ?_⟩ <;> simp [World.frozen?, h]
theorem four_store {w wr : World} {b : Nat} {v0 v1 v2 v3 : Value} {t : TypeId} (h : wr.heap[b]? = some (.cells #[v0, v1, v2, v3] t (0, 0))) (hb : Below w.heap.size w wr) (hB : w.heap.size ≤ b) (x y z u : Value) :
    ∃ wf, (((wr.setCell ⟨b, 0, none⟩ x).setCell ⟨b, 1, none⟩ y).setCell ⟨b, 2, none⟩ z).setCell ⟨b, 3, none⟩ u = wf ∧ wf.heap[b]? = some (.cells #[x, y, z, u] t (0, 0)) ∧ Below w.heap.size w wf ∧ ∀ k, k ≠ b → wf.heap[k]? = wr.heap[k]? := by
  refine ⟨_, rfl, ?_, ext_set (ext_set (ext_set (ext_set hb hB _) hB _) hB _) hB _, fun k hk => ?_⟩
  · exact (heap_setCell_same _ b 3 _ _ _ ((heap_setCell_same _ b 2 _ _ _ ((heap_setCell_same _ b 1 _ _ _ ((heap_setCell_same _ b 0 _ _ _ h).trans rfl)).trans rfl)).trans rfl)).trans rfl
  · exact (heap_setCell_other _ _ _ _ hk).trans ((heap_setCell_other _ _ _ _ hk).trans ((heap_setCell_other _ _ _ _ hk).trans (heap_setCell_other _ _ _ _ hk)))
def Laid (w0 w1 : World) (c : Cd) (vi : Value) (s9 : Value) (wx : World) : Prop :=
  ∃ B M P, s9 = .pointer (some ⟨B, 0, none⟩) ∧ wx.heap[B]? = some (.cells (cells0 P M (wordsL c.arrays) vi).toArray 68 (0, 0)) ∧ IMap wx P c.arrays.length (begL c) ∧ NMap wx M 0 (fun _ => none) ∧ w1.heap.size ≤ P ∧ w1.heap.size ≤ M ∧ w1.heap.size ≤ B ∧ P ≠ B ∧ P ≠ M ∧ B ≠ M ∧ Below w1.heap.size w1 wx
/-- What the loop keeps. -/
def RunRel (e : Mw) (N : Nat) (ins : List Int) (w : World) : Prop := ∃ m, MS e m w ∧ m.steps ≤ N ∧ goM e.F e.W e.L e.T (N - m.steps) m = goM e.F e.W e.L e.T N (mac0 ins)
def measM (B N : Nat) (w : World) : Nat := match w.cell? ⟨B, 42, none⟩ with | some (.int _ x) => N - x.toNat | _ => 0
theorem measM_at {e : Mw} {m : Mac} {pi : Option Addr} {ci : Nat} {po : Option Addr} {co nm : Nat} {w : World} (h : MAt e m pi ci po co nm w) (N : Nat) : measM e.B N w = N - m.steps := by
  unfold measM; rw [h.stepc]; simp
theorem RunRel.ended {e : Mw} {N : Nat} {ins : List Int} {m : Mac} (hg : goM e.F e.W e.L e.T (N - m.steps) m = goM e.F e.W e.L e.T N (mac0 ins)) (hs : m.stat ≠ 0) : goM e.F e.W e.L e.T N (mac0 ins) = m := by
  rw [← hg]
  cases N - m.steps with
  | zero => unfold goM; rw [if_neg (fun k => hs k.1)]
  | succ n => unfold goM; rw [if_pos hs]
theorem RunRel.out {e : Mw} {N : Nat} {ins : List Int} {m : Mac} (hg : goM e.F e.W e.L e.T (N - m.steps) m = goM e.F e.W e.L e.T N (mac0 ins)) (hs : m.stat = 0) (hp : e.L.length ≤ m.pc) : goM e.F e.W e.L e.T N (mac0 ins) = faultM m := by
  rw [← hg]
  cases N - m.steps with
  | zero => unfold goM; rw [if_pos ⟨hs, hp⟩]
  | succ n => unfold goM; rw [if_neg (by simp [hs]), if_pos hp]
theorem RunRel.stop {e : Mw} {N : Nat} {ins : List Int} {m : Mac} (hg : goM e.F e.W e.L e.T (N - m.steps) m = goM e.F e.W e.L e.T N (mac0 ins)) (hp : ¬ e.L.length ≤ m.pc) (hn : N ≤ m.steps) : goM e.F e.W e.L e.T N (mac0 ins) = m := by
  rw [← hg]
  have : N - m.steps = 0 := by omega
  rw [this]
  unfold goM
  rw [if_neg (fun k => hp k.2)]
theorem RunRel.go {e : Mw} {N : Nat} {ins : List Int} {m : Mac} (hg : goM e.F e.W e.L e.T (N - m.steps) m = goM e.F e.W e.L e.T N (mac0 ins)) (hs : m.stat = 0) (hp : ¬ e.L.length ≤ m.pc) (hn : m.steps < N) :
    (roundM e.F e.W e.L e.T m).steps = m.steps + 1 → goM e.F e.W e.L e.T (N - (roundM e.F e.W e.L e.T m).steps) (roundM e.F e.W e.L e.T m) = goM e.F e.W e.L e.T N (mac0 ins) := by
  intro h
  rw [h, ← hg]
  obtain ⟨k, hk⟩ : ∃ k, N - m.steps = k + 1 := ⟨N - m.steps - 1, by omega⟩
  have hk2 : N - (m.steps + 1) = k := by omega
  rw [hk, hk2]
  conv => rhs; unfold goM
  rw [if_neg (by simp [hs]), if_neg hp]
theorem move_steps (W : Int) (m : Mac) (x : In) (p : Int) : (moveM W m x p).steps = m.steps := by
  unfold moveM faultM setR
  split
  · rfl
  · split <;> rfl
theorem turn_steps (T : List Int) (m : Mac) (d : Bool) : (turnM T m d).steps = m.steps := by unfold turnM; split <;> rfl
theorem back_steps (L : List In) (m : Mac) : (backM L m).steps = m.steps := by unfold backM faultM; split <;> rfl
theorem call_steps (m : Mac) : (callM m).steps = m.steps := by
  unfold callM
  split
  · rfl
  split
  · rw [readM_eq]; rfl
  split
  · rfl
  split
  · split <;> rfl
  split <;> rfl
theorem step_steps (F : List UInt8 → Option Int) (W : Int) (L : List In) (T : List Int) (m : Mac) (x : In) : (stepM F W L T m x).steps = m.steps := by
  unfold stepM
  simp only
  by_cases h : x.op = 17
  · rw [if_pos h]; rfl
  rw [if_neg h]
  by_cases h : x.op = 19 ∨ x.op = 20
  · rw [if_pos h, move_steps]
  rw [if_neg h]
  by_cases h : x.op = 21
  · rw [if_pos h, turn_steps]
  rw [if_neg h]
  by_cases h : x.op = 22
  · rw [if_pos h, turn_steps]
  rw [if_neg h]
  by_cases h : x.op = 23
  · rw [if_pos h, turn_steps]
  rw [if_neg h]
  by_cases h : x.op = 24
  · rw [if_pos h, turn_steps]
  rw [if_neg h]
  by_cases h : x.op = 25
  · rw [if_pos h, turn_steps]
  rw [if_neg h]
  by_cases h : x.op = 26
  · rw [if_pos h, turn_steps]; rfl
  rw [if_neg h]
  by_cases h : x.op = 27
  · rw [if_pos h, back_steps]
  rw [if_neg h]
  by_cases h : x.op = 28
  · rw [if_pos h, call_steps]
  rw [if_neg h]; rfl
theorem round_steps (F : List UInt8 → Option Int) (W : Int) (L : List In) (T : List Int) (m : Mac) : (roundM F W L T m).steps = m.steps + 1 := by
  show (stepM F W L T { m with steps := m.steps + 1 } _).steps = _
  rw [step_steps]
theorem mrun_end {E : Mw} (ok : E.Ok) {m : Mac} {pi : Option Addr} {ci : Nat} {po : Option Addr} {co nm : Nat} {w wz : World} (h : MAt E m pi ci po co nm wz) (hz : E.z = w) {R : Nat} {v0 v1 v2 v3 : Value} (hR : E.a.heap[R]? = some (.cells #[v0, v1, v2, v3] 31 (0, 0))) (hRS : R < E.S) (hRB : R ≠ E.B) (hRM : R ≠ E.M) (hRw : w.heap.size ≤ R) :
    wz.heap[R]? = some (.cells #[v0, v1, v2, v3] 31 (0, 0)) ∧ ∃ wf, (((wz.setCell ⟨R, 0, none⟩ (.int .i64 m.stat)).setCell ⟨R, 1, none⟩ (.int .i64 m.code)).setCell ⟨R, 2, none⟩ (.slice po m.out.length co)).setCell ⟨R, 3, none⟩ (.int .i64 m.steps) = wf ∧ wf.heap[R]? = some (.cells #[.int .i64 m.stat, .int .i64 m.code, .slice po m.out.length co, .int .i64 m.steps] 31 (0, 0)) ∧ Below w.heap.size w wf ∧ RunRes w.heap.size m.rn (.returned (.agg #[.int .i64 m.stat, .int .i64 m.code, .slice po m.out.length co, .int .i64 m.steps])) wf := by
  subst hz
  have hR2 := h.fr.heap hR hRS (fun k => k.elim hRB hRM)
  obtain ⟨wf, h1, h2, h3, h4⟩ := four_store hR2 h.bel hRw (.int .i64 m.stat) (.int .i64 m.code) (.slice po m.out.length co) (.int .i64 m.steps)
  refine ⟨hR2, wf, h1, h2, h3, po, co, rfl, ?_⟩
  refine own_base (base := E.S) ?_ ok.sz
  refine ⟨h.out.1, ?_⟩
  rcases h.out.2 with k | ⟨g0, cap, cur, k1, k2, k3, k4⟩
  · exact .inl k
  · exact .inr ⟨g0, cap, cur, k1, k2, (h4 g0 (by omega)).trans k3, k4⟩
/-- A machine of nothing. -/
def ZM : Array Value := #[.slice none 0 0, .slice none 0 0, .map none, .int .i64 0, .int .i64 0, .int .i64 0, .int .i64 0, .int .i64 0, .int .i64 0, .int .i64 0, .int .i64 0, .int .i64 0, .int .i64 0, .int .i64 0, .int .i64 0, .int .i64 0, .int .i64 0, .int .i64 0, .int .i64 0, .int .i64 0, .int .i64 0, .int .i64 0, .int .i64 0, .int .i64 0, .int .i64 0, .int .i64 0, .int .i64 0, .int .i64 0, .int .i64 0, .int .i64 0, .int .i64 0, .int .i64 0, .int .i64 0, .int .i64 0, .int .i64 0, .int .i64 0, .map none, .slice none 0 0, .int .i64 0, .int .i64 0, .int .i64 0, .slice none 0 0, .int .i64 0]
theorem infoZM : (Tryz.prog.info? 68).map (·.size) = some 43 := by kernel_rfl
theorem there_zm {w : World} {B : Nat} (h : w.heap[B]? = some (.cells ZM 68 (0, 0))) : w.there B 0 43 := by
  intro j hj
  rw [Nat.zero_add]
  refine ⟨?_, by simp [World.frozen?, h]⟩
  rw [cell_row h, Array.getElem?_eq_getElem (show j < ZM.size from hj)]
  rfl
theorem cells0_one (P M : Nat) (W : Int) (p : Option Addr) (l k : Nat) : (cells0 P M W (.slice p l k)).toArray.all (·.oneCell') = true := by
  simp [cells0, Value.oneCell']
theorem nmap_made' (w : World) (b : Nat) (h : b = w.heap.size) : NMap (w.alloc (.map #[] 0)) b 0 (fun _ => none) := by rw [h]; exact nmap_made w
theorem setCells_heap {b : Nat} {t : TypeId} : ∀ (vs : List Value) (o : Nat) (w : World) (C : Array Value), w.heap[b]? = some (.cells C t (0, 0)) → o + vs.length ≤ C.size → ∃ D, (w.setCells b o vs).heap[b]? = some (.cells D t (0, 0)) ∧ D.toList = C.toList.take o ++ vs ++ C.toList.drop (o + vs.length)
  | [], o, w, C, h, hl => ⟨C, h, by simp⟩
  | v :: r, o, w, C, h, hl => by
    have h1 := (heap_setCell_same _ _ o _ _ v h)
    obtain ⟨D, hD, hL⟩ := setCells_heap r (o + 1) (w.setCell ⟨b, o, none⟩ v) _ h1 (by simp at hl ⊢; omega)
    refine ⟨D, hD, hL.trans ?_⟩
    have ho : o < C.toList.length := by simp at hl ⊢; omega
    rw [Array.toList_setIfInBounds]
    have e1 : (C.toList.set o v).take (o + 1) = C.toList.take o ++ [v] := by
      rw [List.take_succ_eq_append_getElem (by simpa using ho), List.getElem_set_self, List.take_set_of_le (Nat.le_refl o)]
    have e2 : (C.toList.set o v).drop (o + 1 + r.length) = C.toList.drop (o + (v :: r).length) := by
      rw [List.drop_set_of_lt (by omega), List.length_cons]
      congr 1; omega
    rw [e1, e2]; simp
theorem setCells_other {b : Nat} : ∀ (vs : List Value) (o : Nat) (w : World) (k : Nat), k ≠ b → (w.setCells b o vs).heap[k]? = w.heap[k]?
  | [], _, _, _, _ => rfl
  | v :: r, o, w, k, h => (setCells_other r (o + 1) _ k h).trans (heap_setCell_other _ _ _ _ h)
theorem setCells_below {b B : Nat} : ∀ (vs : List Value) (o : Nat) (a w : World), Below B a w → B ≤ b → Below B a (w.setCells b o vs)
  | [], _, _, _, h, _ => h
  | v :: r, o, a, w, h, hb => setCells_below r (o + 1) a _ (h.setCell (p := ⟨b, o, none⟩) hb v) hb
theorem ext_cells {w1 w : World} {B : Nat} {vs : List Value} (h : Below w1.heap.size w1 w) (hz : w.heap[B]? = some (.cells ZM 68 (0, 0))) (hb : w1.heap.size ≤ B) : Below w1.heap.size w1 (w.setCells B 0 vs) := setCells_below _ _ _ _ h hb
theorem laid_mk {w0 w1 wx : World} {c : Cd} {vi : Value} {P M B : Nat} (g : Below w1.heap.size w1 wx) (hB : wx.heap[B]? = some (.cells ZM 68 (0, 0))) (hP : IMap wx P c.arrays.length (begL c)) (hM : NMap wx M 0 (fun _ => none)) (h1 : w1.heap.size ≤ P) (h2 : w1.heap.size ≤ M) (h3 : w1.heap.size ≤ B) (h4 : P ≠ B) (h5 : P ≠ M) (h6 : B ≠ M) :
    Laid w0 w1 c vi (.pointer (some ⟨B, 0, none⟩)) (wx.setCells B 0 (cells0 P M (wordsL c.arrays) vi)) := by
  obtain ⟨D, hD, hL⟩ := setCells_heap (cells0 P M (wordsL c.arrays) vi) 0 wx ZM hB (show 0 + 43 ≤ 43 by decide)
  refine ⟨B, M, P, rfl, ?_, hP.same (setCells_other _ _ _ _ h4), hM.same (setCells_other _ _ _ _ (fun e => h6 e.symm)), h1, h2, h3, h4, h5, h6, setCells_below _ _ _ _ g h3⟩
  rw [hD]
  have : D = (cells0 P M (wordsL c.arrays) vi).toArray := Array.toList_inj.1 (hL.trans (by
    rw [List.take_zero, List.nil_append, List.drop_of_length_le (by rw [Nat.zero_add]; exact Nat.le_refl 43)]; simp))
  rw [this]
set_option maxHeartbeats 4000000 in
set_option maxRecDepth 100000 in
theorem run_any (v : Value) (c : Cd) (w : World) (h : CdAt w v c) (hf : CdFit c) (hal : c.arrays.length ≤ 1000) (hn64 : ∀ l ∈ c.lines, I64 l.ins.n) (pi : Option Addr) (ci : Nat) (ins : List Int) (hin : ∀ i (h : i < ins.length), ∃ a, pi = some a ∧ w.cell? (a.add i) = some (.int .i64 (ins[i]'h))) (hci : ins.length ≤ ci ∧ ci ≤ 9223372036854775807) (hi64 : ∀ x ∈ ins, I64 x) (steps : Int) (hs : steps ≤ 1000000) :
    Calls Tryz.prog 14 #[v, .slice pi ins.length ci, .int .i64 steps] w fun e w' => RunRes w.heap.size (runL c ins steps) e w' ∧ Below w.heap.size w w' := by
  have HCK := Lib.hid (fun w' (g : Below w.heap.size w w') => acheck_any v c w' (h.ext g) hf)
  have HBG := Lib.hid (fun (hok : (faultL c).1 = 0) w' (g : Below w.heap.size w w') => begins_any v c w' (h.ext g) hf hok hal)
  have HWD := Lib.hid (fun (hok : (faultL c).1 = 0) w' (g : Below w.heap.size w w') => words_any v c w' (h.ext g) hok hal)
  have HFL := Lib.hid (fun (hok : (faultL c).1 = 0) w' (g : Below w.heap.size w w') => flat_yes v c w' (h.ext g) hf hok)
  obtain ⟨va, vl, rfl, _, _, _, _⟩ := h
  have hmm := @run_makeMap Tryz.prog
  have hz := @run_makeMap Tryz.prog
  clear hz
  by_cases h0 : (faultL c).1 = 0
  · have HBG2 := Lib.hid (HBG.out h0)
    have HWD2 := Lib.hid (HWD.out h0)
    have HFL2 := Lib.hid (HFL.out h0)
    have HOK := Lib.hid h0
    rw [h0] at HCK
    clear HBG HWD HFL h0
    generalize he2 : (faultL c).2 = e2 at *
    clear he2
    have HIN := Lib.hid hin
    have HF := Lib.hid hf
    have HN64 := Lib.hid hn64
    have HI64 := Lib.hid hi64
    clear hin hf hn64 hi64
    go_enter Tryz.func14, Tryz.ntmps14
    go_wp2_with fail
    refine (HCK.out _ (ext_alloc (ext_alloc (Below.refl _ _) _) _)).mono ?_; rintro e w1 ⟨rfl, g1⟩
    obtain ⟨c0, c1⟩ := two_cells ((g1.block w.heap.size (by simp; omega)).trans ((Lib.alloc_old _ _ _ (by simp)).trans (heap_new w _)))
    have HR1 := Lib.hid ((g1.block (w.heap.size + 1) (by simp)).trans (heap_new' _ _ _ (by simp)))
    have G1 := Lib.hid (ext_trans (ext_alloc (ext_alloc (Below.refl _ _) _) _) g1)
    have z1 : w.heap.size + 1 < w1.heap.size := by have := g1.size; simp at this; omega
    clear g1
    go_upto_region 4 with (fail)
    go_cut [9] (fun s9 wx => Laid w w1 c (.slice pi ins.length ci) s9 wx)
    case first =>
      have KEEP : Hid (∀ w', Below w1.heap.size w1 w' → w'.cell? ⟨w.heap.size, 0, none⟩ = some va ∧ w'.cell? ⟨w.heap.size, 1, none⟩ = some vl) := Lib.hid (fun w' g => ⟨(g.cell (p := ⟨w.heap.size, 0, none⟩) (by show w.heap.size < w1.heap.size; omega)).trans c0, (g.cell (p := ⟨w.heap.size, 1, none⟩) (by show w.heap.size < w1.heap.size; omega)).trans c1⟩)
      refine wp_region_held_drew (S := fun w' => w'.cell? ⟨w.heap.size, 0, none⟩ = some va ∧ w'.cell? ⟨w.heap.size, 1, none⟩ = some vl) (by kernel_rfl) (KEEP.out _ (ext_drew (Below.refl _ _))) (fun hHeld => ?_)
      refine wpAnyH_take (i := 0) (v := ?_) rfl (by kernel_rfl) (by kernel_rfl) (by kernel_rfl) (fun _ _ _ h => h) (Or.inl ⟨by rfl, ?hy⟩) hHeld ?_
      case hy => (intro w hSw; (try dsimp only at hSw); go_simp; try (with_reducible rfl))
      try simp only [Act.put, List.setIfInBounds_toArray, List.set_cons_zero, List.set_cons_succ]
      refine wpAnyH_take (i := 2) (v := ?_) rfl (by kernel_rfl) (by kernel_rfl) (by kernel_rfl) (fun _ _ _ h => h) (Or.inl ⟨by rfl, ?hy⟩) hHeld ?_
      case hy => (intro w hSw; (try dsimp only at hSw); go_simp; try (with_reducible rfl))
      try simp only [Act.put, List.setIfInBounds_toArray, List.set_cons_zero, List.set_cons_succ]
      refine wpAnyH_take (i := 5) (v := ?_) rfl (by kernel_rfl) (by kernel_rfl) (by kernel_rfl) (fun _ _ _ h => h) (Or.inl ⟨by rfl, ?hy⟩) hHeld ?_
      case hy => (intro w hSw; (try dsimp only at hSw); go_simp; try (with_reducible rfl))
      try simp only [Act.put, List.setIfInBounds_toArray, List.set_cons_zero, List.set_cons_succ]
      refine wpAnyH_ready (rs := [1, 4, 7]) (by kernel_rfl) (by simp) ?_
      refine AllReadyH.cons rfl (fun K hK => ?_) ?_
      · go_simp
        refine (HBG2.out _ (ext_trans G1.out (ext_drew (Below.refl w1.heap.size w1)))).mono ?_; rintro e v1 ⟨⟨b, rfl, hm, hbl⟩, gv1⟩
        have HM := Lib.hid hm; have hbl2 : w1.heap.size ≤ b := Nat.le_trans ((ext_drew (Below.refl w1.heap.size w1))).size hbl; have hbl3 := hm.lt; try simp at hbl
        clear hm
        have Zv1 : w1.heap.size ≤ v1.heap.size := by have := gv1.size; (try simp at this); omega
        have Gv1 := Lib.hid gv1; clear gv1
        refine hK.out _ _ (KEEP.out _ (ext_trans (ext_drew (Below.refl w1.heap.size w1)) Gv1.out)) (fun hHeld => ?_)
        clear hK K
        try simp only [Act.put, List.setIfInBounds_toArray, List.set_cons_zero, List.set_cons_succ]
        refine wpAnyH_ready (rs := [3, 4, 7]) (by kernel_rfl) (by simp) ?_
        refine AllReadyH.cons rfl (fun K hK => ?_) ?_
        · go_simp
          refine (HWD2.out _ (ext_trans G1.out (ext_trans (ext_drew (Below.refl w1.heap.size w1)) Gv1.out))).mono ?_; rintro e v2 ⟨rfl, gv2⟩
          have Zv2 : v1.heap.size ≤ v2.heap.size := by have := gv2.size; (try simp at this); omega
          have Gv2 := Lib.hid gv2; clear gv2
          have HP2 := Lib.hid (HM.out.ext Gv2.out)
          refine hK.out _ _ (KEEP.out _ (ext_trans (ext_trans (ext_drew (Below.refl w1.heap.size w1)) Gv1.out) Gv2.out)) (fun hHeld => ?_)
          clear hK K
          try simp only [Act.put, List.setIfInBounds_toArray, List.set_cons_zero, List.set_cons_succ]
          refine wpAnyH_ready (rs := [4, 7]) (by kernel_rfl) (by simp) ?_
          refine AllReadyH.cons rfl (fun K hK => ?_) ?_
          · go_simp
            have HP3 := Lib.hid (HP2.out.ext (ext_alloc (Below.refl _ _) (.map #[] 0)))
            have HN3 : Hid (NMap ((v2).alloc (.map #[] 0)) (v2.heap.size) 0 (fun _ => none)) := Lib.hid (nmap_made' _ _ (by first | rfl | simp))
            refine hK.out _ _ (KEEP.out _ (ext_alloc (ext_trans (ext_trans (ext_drew (Below.refl w1.heap.size w1)) Gv1.out) Gv2.out) _)) (fun hHeld => ?_)
            clear hK K
            try simp only [Act.put, List.setIfInBounds_toArray, List.set_cons_zero, List.set_cons_succ]
            refine wpAnyH_take (i := 6) (v := ?_) rfl (by kernel_rfl) (by kernel_rfl) (by kernel_rfl) (fun _ _ _ h => h) (Or.inl ⟨by rfl, ?hy⟩) (KEEP.out _ (ext_alloc (ext_trans (ext_trans (ext_drew (Below.refl w1.heap.size w1)) Gv1.out) Gv2.out) _)) ?_
            case hy => (intro w hSw; go_simp; try (with_reducible rfl))
            try simp only [Act.put, List.setIfInBounds_toArray, List.set_cons_zero, List.set_cons_succ]
            refine wpAnyH_ready (rs := [7]) (by kernel_rfl) (by simp) ?_
            refine AllReadyH.cons rfl (fun K hK => ?_) AllReadyH.nil
            go_simp
            have HN4 : Hid (NMap (((v2).alloc (.map #[] 0)).alloc (.cells ZM 68)) (v2.heap.size) 0 (fun _ => none)) := Lib.hid (HN3.out.ext (ext_alloc (Below.refl _ _) _))
            have HP4 := Lib.hid (HP3.out.ext (ext_alloc (Below.refl _ _) (.cells ZM 68)))
            have HB4 : Hid ((((v2).alloc (.map #[] 0)).alloc (.cells ZM 68)).heap[v2.heap.size + 1]? = some (.cells ZM 68 (0, 0))) := Lib.hid (heap_new' _ _ _ (by first | rfl | simp))
            refine hK.out _ _ (KEEP.out _ (ext_alloc (ext_alloc (ext_trans (ext_trans (ext_drew (Below.refl w1.heap.size w1)) Gv1.out) Gv2.out) _) _)) (fun hHeld => ?_)
            clear hK K
            try simp only [Act.put, List.setIfInBounds_toArray, List.set_cons_zero, List.set_cons_succ]
            refine wpAnyH_ready (rs := [8]) (by kernel_rfl) (by simp) ?_
            refine AllReadyH.cons rfl (fun K hK => ?_) AllReadyH.nil
            rw [if_pos (by rfl)]
            refine wp_store_mid 68 _ _ rfl (v2.heap.size + 1) 0 (cells0 b (v2.heap.size) (wordsL c.arrays) (.slice pi ins.length ci)).toArray rfl rfl (there_zm HB4.out) infoZM (cells0_one _ _ _ _ _ _) ?_
            refine hK.out _ _ (KEEP.out _ (ext_cells (ext_alloc (ext_alloc (ext_trans (ext_trans (ext_drew (Below.refl w1.heap.size w1)) Gv1.out) Gv2.out) _) _) HB4.out (by omega))) (fun hHeld => ?_)
            clear hK K
            try simp only [Act.put, List.setIfInBounds_toArray, List.set_cons_zero, List.set_cons_succ]
            refine wpAnyH_done (by kernel_rfl) ?_ _
            have HLD := Lib.hid (laid_mk (w0 := w) (c := c) (vi := .slice pi ins.length ci) (ext_alloc (ext_alloc (ext_trans (ext_trans (ext_drew (Below.refl w1.heap.size w1)) Gv1.out) Gv2.out) _) _) HB4.out HP4.out HN4.out (by omega) (by omega) (by omega) (by omega) (by omega) (by omega))
            go_wp2_with fail
            go_meet
            case rel => exact HLD.out
          refine AllReadyH.cons rfl (fun K hK => ?_) AllReadyH.nil
          go_simp
          have HP3 := Lib.hid (HP2.out.ext (ext_alloc (Below.refl _ _) (.cells ZM 68)))
          have HB3 : Hid (((v2).alloc (.cells ZM 68)).heap[v2.heap.size]? = some (.cells ZM 68 (0, 0))) := Lib.hid (heap_new' _ _ _ (by first | rfl | simp))
          refine hK.out _ _ (KEEP.out _ (ext_alloc (ext_trans (ext_trans (ext_drew (Below.refl w1.heap.size w1)) Gv1.out) Gv2.out) _)) (fun hHeld => ?_)
          clear hK K
          try simp only [Act.put, List.setIfInBounds_toArray, List.set_cons_zero, List.set_cons_succ]
          refine wpAnyH_ready (rs := [4]) (by kernel_rfl) (by simp) ?_
          refine AllReadyH.cons rfl (fun K hK => ?_) AllReadyH.nil
          go_simp
          have HB4 : Hid ((((v2).alloc (.cells ZM 68)).alloc (.map #[] 0)).heap[v2.heap.size]? = some (.cells ZM 68 (0, 0))) := Lib.hid ((Lib.alloc_old _ _ _ (Array.getElem?_eq_some_iff.1 HB3.out).1).trans HB3.out)
          have HP4 := Lib.hid (HP3.out.ext (ext_alloc (Below.refl _ _) (.map #[] 0)))
          have HN4 : Hid (NMap (((v2).alloc (.cells ZM 68)).alloc (.map #[] 0)) (v2.heap.size + 1) 0 (fun _ => none)) := Lib.hid (nmap_made' _ _ (by first | rfl | simp))
          refine hK.out _ _ (KEEP.out _ (ext_alloc (ext_alloc (ext_trans (ext_trans (ext_drew (Below.refl w1.heap.size w1)) Gv1.out) Gv2.out) _) _)) (fun hHeld => ?_)
          clear hK K
          try simp only [Act.put, List.setIfInBounds_toArray, List.set_cons_zero, List.set_cons_succ]
          refine wpAnyH_take (i := 6) (v := ?_) rfl (by kernel_rfl) (by kernel_rfl) (by kernel_rfl) (fun _ _ _ h => h) (Or.inl ⟨by rfl, ?hy⟩) (KEEP.out _ (ext_alloc (ext_alloc (ext_trans (ext_trans (ext_drew (Below.refl w1.heap.size w1)) Gv1.out) Gv2.out) _) _)) ?_
          case hy => (intro w hSw; go_simp; try (with_reducible rfl))
          try simp only [Act.put, List.setIfInBounds_toArray, List.set_cons_zero, List.set_cons_succ]
          refine wpAnyH_ready (rs := [8]) (by kernel_rfl) (by simp) ?_
          refine AllReadyH.cons rfl (fun K hK => ?_) AllReadyH.nil
          rw [if_pos (by rfl)]
          refine wp_store_mid 68 _ _ rfl (v2.heap.size) 0 (cells0 b (v2.heap.size + 1) (wordsL c.arrays) (.slice pi ins.length ci)).toArray rfl rfl (there_zm HB4.out) infoZM (cells0_one _ _ _ _ _ _) ?_
          refine hK.out _ _ (KEEP.out _ (ext_cells (ext_alloc (ext_alloc (ext_trans (ext_trans (ext_drew (Below.refl w1.heap.size w1)) Gv1.out) Gv2.out) _) _) HB4.out (by omega))) (fun hHeld => ?_)
          clear hK K
          try simp only [Act.put, List.setIfInBounds_toArray, List.set_cons_zero, List.set_cons_succ]
          refine wpAnyH_done (by kernel_rfl) ?_ _
          have HLD := Lib.hid (laid_mk (w0 := w) (c := c) (vi := .slice pi ins.length ci) (ext_alloc (ext_alloc (ext_trans (ext_trans (ext_drew (Below.refl w1.heap.size w1)) Gv1.out) Gv2.out) _) _) HB4.out HP4.out HN4.out (by omega) (by omega) (by omega) (by omega) (by omega) (by omega))
          go_wp2_with fail
          go_meet
          case rel => exact HLD.out
        refine AllReadyH.cons rfl (fun K hK => ?_) ?_
        · go_simp
          have HP2 := Lib.hid (HM.out.ext (ext_alloc (Below.refl _ _) (.map #[] 0)))
          have HN2 : Hid (NMap ((v1).alloc (.map #[] 0)) (v1.heap.size) 0 (fun _ => none)) := Lib.hid (nmap_made' _ _ (by first | rfl | simp))
          refine hK.out _ _ (KEEP.out _ (ext_alloc (ext_trans (ext_drew (Below.refl w1.heap.size w1)) Gv1.out) _)) (fun hHeld => ?_)
          clear hK K
          try simp only [Act.put, List.setIfInBounds_toArray, List.set_cons_zero, List.set_cons_succ]
          refine wpAnyH_ready (rs := [3, 7]) (by kernel_rfl) (by simp) ?_
          refine AllReadyH.cons rfl (fun K hK => ?_) ?_
          · go_simp
            refine (HWD2.out _ (ext_trans G1.out (ext_alloc (ext_trans (ext_drew (Below.refl w1.heap.size w1)) Gv1.out) _))).mono ?_; rintro e v2 ⟨rfl, gv2⟩
            have Zv2 : v1.heap.size + 1 ≤ v2.heap.size := by have := gv2.size; (try simp at this); omega
            have Gv2 := Lib.hid gv2; clear gv2
            have HN3 : Hid (NMap (v2) (v1.heap.size) 0 (fun _ => none)) := Lib.hid (HN2.out.ext Gv2.out)
            have HP3 := Lib.hid (HP2.out.ext Gv2.out)
            refine hK.out _ _ (KEEP.out _ (ext_trans (ext_alloc (ext_trans (ext_drew (Below.refl w1.heap.size w1)) Gv1.out) _) Gv2.out)) (fun hHeld => ?_)
            clear hK K
            try simp only [Act.put, List.setIfInBounds_toArray, List.set_cons_zero, List.set_cons_succ]
            refine wpAnyH_take (i := 6) (v := ?_) rfl (by kernel_rfl) (by kernel_rfl) (by kernel_rfl) (fun _ _ _ h => h) (Or.inl ⟨by rfl, ?hy⟩) (KEEP.out _ (ext_trans (ext_alloc (ext_trans (ext_drew (Below.refl w1.heap.size w1)) Gv1.out) _) Gv2.out)) ?_
            case hy => (intro w hSw; go_simp; try (with_reducible rfl))
            try simp only [Act.put, List.setIfInBounds_toArray, List.set_cons_zero, List.set_cons_succ]
            refine wpAnyH_ready (rs := [7]) (by kernel_rfl) (by simp) ?_
            refine AllReadyH.cons rfl (fun K hK => ?_) AllReadyH.nil
            go_simp
            have HN4 : Hid (NMap ((v2).alloc (.cells ZM 68)) (v1.heap.size) 0 (fun _ => none)) := Lib.hid (HN3.out.ext (ext_alloc (Below.refl _ _) _))
            have HP4 := Lib.hid (HP3.out.ext (ext_alloc (Below.refl _ _) (.cells ZM 68)))
            have HB4 : Hid (((v2).alloc (.cells ZM 68)).heap[v2.heap.size]? = some (.cells ZM 68 (0, 0))) := Lib.hid (heap_new' _ _ _ (by first | rfl | simp))
            refine hK.out _ _ (KEEP.out _ (ext_alloc (ext_trans (ext_alloc (ext_trans (ext_drew (Below.refl w1.heap.size w1)) Gv1.out) _) Gv2.out) _)) (fun hHeld => ?_)
            clear hK K
            try simp only [Act.put, List.setIfInBounds_toArray, List.set_cons_zero, List.set_cons_succ]
            refine wpAnyH_ready (rs := [8]) (by kernel_rfl) (by simp) ?_
            refine AllReadyH.cons rfl (fun K hK => ?_) AllReadyH.nil
            rw [if_pos (by rfl)]
            refine wp_store_mid 68 _ _ rfl (v2.heap.size) 0 (cells0 b (v1.heap.size) (wordsL c.arrays) (.slice pi ins.length ci)).toArray rfl rfl (there_zm HB4.out) infoZM (cells0_one _ _ _ _ _ _) ?_
            refine hK.out _ _ (KEEP.out _ (ext_cells (ext_alloc (ext_trans (ext_alloc (ext_trans (ext_drew (Below.refl w1.heap.size w1)) Gv1.out) _) Gv2.out) _) HB4.out (by omega))) (fun hHeld => ?_)
            clear hK K
            try simp only [Act.put, List.setIfInBounds_toArray, List.set_cons_zero, List.set_cons_succ]
            refine wpAnyH_done (by kernel_rfl) ?_ _
            have HLD := Lib.hid (laid_mk (w0 := w) (c := c) (vi := .slice pi ins.length ci) (ext_alloc (ext_trans (ext_alloc (ext_trans (ext_drew (Below.refl w1.heap.size w1)) Gv1.out) _) Gv2.out) _) HB4.out HP4.out HN4.out (by omega) (by omega) (by omega) (by omega) (by omega) (by omega))
            go_wp2_with fail
            go_meet
            case rel => exact HLD.out
          refine AllReadyH.cons rfl (fun K hK => ?_) AllReadyH.nil
          go_simp
          have HN3 : Hid (NMap (((v1).alloc (.map #[] 0)).alloc (.cells ZM 68)) (v1.heap.size) 0 (fun _ => none)) := Lib.hid (HN2.out.ext (ext_alloc (Below.refl _ _) _))
          have HP3 := Lib.hid (HP2.out.ext (ext_alloc (Below.refl _ _) (.cells ZM 68)))
          have HB3 : Hid ((((v1).alloc (.map #[] 0)).alloc (.cells ZM 68)).heap[v1.heap.size + 1]? = some (.cells ZM 68 (0, 0))) := Lib.hid (heap_new' _ _ _ (by first | rfl | simp))
          refine hK.out _ _ (KEEP.out _ (ext_alloc (ext_alloc (ext_trans (ext_drew (Below.refl w1.heap.size w1)) Gv1.out) _) _)) (fun hHeld => ?_)
          clear hK K
          try simp only [Act.put, List.setIfInBounds_toArray, List.set_cons_zero, List.set_cons_succ]
          refine wpAnyH_ready (rs := [3]) (by kernel_rfl) (by simp) ?_
          refine AllReadyH.cons rfl (fun K hK => ?_) AllReadyH.nil
          go_simp
          refine (HWD2.out _ (ext_trans G1.out (ext_alloc (ext_alloc (ext_trans (ext_drew (Below.refl w1.heap.size w1)) Gv1.out) _) _))).mono ?_; rintro e v2 ⟨rfl, gv2⟩
          have Zv2 : v1.heap.size + 2 ≤ v2.heap.size := by have := gv2.size; (try simp at this); omega
          have Gv2 := Lib.hid gv2; clear gv2
          have HB4 : Hid ((v2).heap[v1.heap.size + 1]? = some (.cells ZM 68 (0, 0))) := Lib.hid ((Gv2.out.block _ (Array.getElem?_eq_some_iff.1 HB3.out).1).trans HB3.out)
          have HN4 : Hid (NMap (v2) (v1.heap.size) 0 (fun _ => none)) := Lib.hid (HN3.out.ext Gv2.out)
          have HP4 := Lib.hid (HP3.out.ext Gv2.out)
          refine hK.out _ _ (KEEP.out _ (ext_trans (ext_alloc (ext_alloc (ext_trans (ext_drew (Below.refl w1.heap.size w1)) Gv1.out) _) _) Gv2.out)) (fun hHeld => ?_)
          clear hK K
          try simp only [Act.put, List.setIfInBounds_toArray, List.set_cons_zero, List.set_cons_succ]
          refine wpAnyH_take (i := 6) (v := ?_) rfl (by kernel_rfl) (by kernel_rfl) (by kernel_rfl) (fun _ _ _ h => h) (Or.inl ⟨by rfl, ?hy⟩) (KEEP.out _ (ext_trans (ext_alloc (ext_alloc (ext_trans (ext_drew (Below.refl w1.heap.size w1)) Gv1.out) _) _) Gv2.out)) ?_
          case hy => (intro w hSw; go_simp; try (with_reducible rfl))
          try simp only [Act.put, List.setIfInBounds_toArray, List.set_cons_zero, List.set_cons_succ]
          refine wpAnyH_ready (rs := [8]) (by kernel_rfl) (by simp) ?_
          refine AllReadyH.cons rfl (fun K hK => ?_) AllReadyH.nil
          rw [if_pos (by rfl)]
          refine wp_store_mid 68 _ _ rfl (v1.heap.size + 1) 0 (cells0 b (v1.heap.size) (wordsL c.arrays) (.slice pi ins.length ci)).toArray rfl rfl (there_zm HB4.out) infoZM (cells0_one _ _ _ _ _ _) ?_
          refine hK.out _ _ (KEEP.out _ (ext_cells (ext_trans (ext_alloc (ext_alloc (ext_trans (ext_drew (Below.refl w1.heap.size w1)) Gv1.out) _) _) Gv2.out) HB4.out (by omega))) (fun hHeld => ?_)
          clear hK K
          try simp only [Act.put, List.setIfInBounds_toArray, List.set_cons_zero, List.set_cons_succ]
          refine wpAnyH_done (by kernel_rfl) ?_ _
          have HLD := Lib.hid (laid_mk (w0 := w) (c := c) (vi := .slice pi ins.length ci) (ext_trans (ext_alloc (ext_alloc (ext_trans (ext_drew (Below.refl w1.heap.size w1)) Gv1.out) _) _) Gv2.out) HB4.out HP4.out HN4.out (by omega) (by omega) (by omega) (by omega) (by omega) (by omega))
          go_wp2_with fail
          go_meet
          case rel => exact HLD.out
        refine AllReadyH.cons rfl (fun K hK => ?_) AllReadyH.nil
        go_simp
        have HP2 := Lib.hid (HM.out.ext (ext_alloc (Below.refl _ _) (.cells ZM 68)))
        have HB2 : Hid (((v1).alloc (.cells ZM 68)).heap[v1.heap.size]? = some (.cells ZM 68 (0, 0))) := Lib.hid (heap_new' _ _ _ (by first | rfl | simp))
        refine hK.out _ _ (KEEP.out _ (ext_alloc (ext_trans (ext_drew (Below.refl w1.heap.size w1)) Gv1.out) _)) (fun hHeld => ?_)
        clear hK K
        try simp only [Act.put, List.setIfInBounds_toArray, List.set_cons_zero, List.set_cons_succ]
        refine wpAnyH_ready (rs := [3, 4]) (by kernel_rfl) (by simp) ?_
        refine AllReadyH.cons rfl (fun K hK => ?_) ?_
        · go_simp
          refine (HWD2.out _ (ext_trans G1.out (ext_alloc (ext_trans (ext_drew (Below.refl w1.heap.size w1)) Gv1.out) _))).mono ?_; rintro e v2 ⟨rfl, gv2⟩
          have Zv2 : v1.heap.size + 1 ≤ v2.heap.size := by have := gv2.size; (try simp at this); omega
          have Gv2 := Lib.hid gv2; clear gv2
          have HB3 : Hid ((v2).heap[v1.heap.size]? = some (.cells ZM 68 (0, 0))) := Lib.hid ((Gv2.out.block _ (Array.getElem?_eq_some_iff.1 HB2.out).1).trans HB2.out)
          have HP3 := Lib.hid (HP2.out.ext Gv2.out)
          refine hK.out _ _ (KEEP.out _ (ext_trans (ext_alloc (ext_trans (ext_drew (Below.refl w1.heap.size w1)) Gv1.out) _) Gv2.out)) (fun hHeld => ?_)
          clear hK K
          try simp only [Act.put, List.setIfInBounds_toArray, List.set_cons_zero, List.set_cons_succ]
          refine wpAnyH_ready (rs := [4]) (by kernel_rfl) (by simp) ?_
          refine AllReadyH.cons rfl (fun K hK => ?_) AllReadyH.nil
          go_simp
          have HB4 : Hid (((v2).alloc (.map #[] 0)).heap[v1.heap.size]? = some (.cells ZM 68 (0, 0))) := Lib.hid ((Lib.alloc_old _ _ _ (Array.getElem?_eq_some_iff.1 HB3.out).1).trans HB3.out)
          have HP4 := Lib.hid (HP3.out.ext (ext_alloc (Below.refl _ _) (.map #[] 0)))
          have HN4 : Hid (NMap ((v2).alloc (.map #[] 0)) (v2.heap.size) 0 (fun _ => none)) := Lib.hid (nmap_made' _ _ (by first | rfl | simp))
          refine hK.out _ _ (KEEP.out _ (ext_alloc (ext_trans (ext_alloc (ext_trans (ext_drew (Below.refl w1.heap.size w1)) Gv1.out) _) Gv2.out) _)) (fun hHeld => ?_)
          clear hK K
          try simp only [Act.put, List.setIfInBounds_toArray, List.set_cons_zero, List.set_cons_succ]
          refine wpAnyH_take (i := 6) (v := ?_) rfl (by kernel_rfl) (by kernel_rfl) (by kernel_rfl) (fun _ _ _ h => h) (Or.inl ⟨by rfl, ?hy⟩) (KEEP.out _ (ext_alloc (ext_trans (ext_alloc (ext_trans (ext_drew (Below.refl w1.heap.size w1)) Gv1.out) _) Gv2.out) _)) ?_
          case hy => (intro w hSw; go_simp; try (with_reducible rfl))
          try simp only [Act.put, List.setIfInBounds_toArray, List.set_cons_zero, List.set_cons_succ]
          refine wpAnyH_ready (rs := [8]) (by kernel_rfl) (by simp) ?_
          refine AllReadyH.cons rfl (fun K hK => ?_) AllReadyH.nil
          rw [if_pos (by rfl)]
          refine wp_store_mid 68 _ _ rfl (v1.heap.size) 0 (cells0 b (v2.heap.size) (wordsL c.arrays) (.slice pi ins.length ci)).toArray rfl rfl (there_zm HB4.out) infoZM (cells0_one _ _ _ _ _ _) ?_
          refine hK.out _ _ (KEEP.out _ (ext_cells (ext_alloc (ext_trans (ext_alloc (ext_trans (ext_drew (Below.refl w1.heap.size w1)) Gv1.out) _) Gv2.out) _) HB4.out (by omega))) (fun hHeld => ?_)
          clear hK K
          try simp only [Act.put, List.setIfInBounds_toArray, List.set_cons_zero, List.set_cons_succ]
          refine wpAnyH_done (by kernel_rfl) ?_ _
          have HLD := Lib.hid (laid_mk (w0 := w) (c := c) (vi := .slice pi ins.length ci) (ext_alloc (ext_trans (ext_alloc (ext_trans (ext_drew (Below.refl w1.heap.size w1)) Gv1.out) _) Gv2.out) _) HB4.out HP4.out HN4.out (by omega) (by omega) (by omega) (by omega) (by omega) (by omega))
          go_wp2_with fail
          go_meet
          case rel => exact HLD.out
        refine AllReadyH.cons rfl (fun K hK => ?_) AllReadyH.nil
        go_simp
        have HB3 : Hid ((((v1).alloc (.cells ZM 68)).alloc (.map #[] 0)).heap[v1.heap.size]? = some (.cells ZM 68 (0, 0))) := Lib.hid ((Lib.alloc_old _ _ _ (Array.getElem?_eq_some_iff.1 HB2.out).1).trans HB2.out)
        have HP3 := Lib.hid (HP2.out.ext (ext_alloc (Below.refl _ _) (.map #[] 0)))
        have HN3 : Hid (NMap (((v1).alloc (.cells ZM 68)).alloc (.map #[] 0)) (v1.heap.size + 1) 0 (fun _ => none)) := Lib.hid (nmap_made' _ _ (by first | rfl | simp))
        refine hK.out _ _ (KEEP.out _ (ext_alloc (ext_alloc (ext_trans (ext_drew (Below.refl w1.heap.size w1)) Gv1.out) _) _)) (fun hHeld => ?_)
        clear hK K
        try simp only [Act.put, List.setIfInBounds_toArray, List.set_cons_zero, List.set_cons_succ]
        refine wpAnyH_ready (rs := [3]) (by kernel_rfl) (by simp) ?_
        refine AllReadyH.cons rfl (fun K hK => ?_) AllReadyH.nil
        go_simp
        refine (HWD2.out _ (ext_trans G1.out (ext_alloc (ext_alloc (ext_trans (ext_drew (Below.refl w1.heap.size w1)) Gv1.out) _) _))).mono ?_; rintro e v2 ⟨rfl, gv2⟩
        have Zv2 : v1.heap.size + 2 ≤ v2.heap.size := by have := gv2.size; (try simp at this); omega
        have Gv2 := Lib.hid gv2; clear gv2
        have HB4 : Hid ((v2).heap[v1.heap.size]? = some (.cells ZM 68 (0, 0))) := Lib.hid ((Gv2.out.block _ (Array.getElem?_eq_some_iff.1 HB3.out).1).trans HB3.out)
        have HN4 : Hid (NMap (v2) (v1.heap.size + 1) 0 (fun _ => none)) := Lib.hid (HN3.out.ext Gv2.out)
        have HP4 := Lib.hid (HP3.out.ext Gv2.out)
        refine hK.out _ _ (KEEP.out _ (ext_trans (ext_alloc (ext_alloc (ext_trans (ext_drew (Below.refl w1.heap.size w1)) Gv1.out) _) _) Gv2.out)) (fun hHeld => ?_)
        clear hK K
        try simp only [Act.put, List.setIfInBounds_toArray, List.set_cons_zero, List.set_cons_succ]
        refine wpAnyH_take (i := 6) (v := ?_) rfl (by kernel_rfl) (by kernel_rfl) (by kernel_rfl) (fun _ _ _ h => h) (Or.inl ⟨by rfl, ?hy⟩) (KEEP.out _ (ext_trans (ext_alloc (ext_alloc (ext_trans (ext_drew (Below.refl w1.heap.size w1)) Gv1.out) _) _) Gv2.out)) ?_
        case hy => (intro w hSw; go_simp; try (with_reducible rfl))
        try simp only [Act.put, List.setIfInBounds_toArray, List.set_cons_zero, List.set_cons_succ]
        refine wpAnyH_ready (rs := [8]) (by kernel_rfl) (by simp) ?_
        refine AllReadyH.cons rfl (fun K hK => ?_) AllReadyH.nil
        rw [if_pos (by rfl)]
        refine wp_store_mid 68 _ _ rfl (v1.heap.size) 0 (cells0 b (v1.heap.size + 1) (wordsL c.arrays) (.slice pi ins.length ci)).toArray rfl rfl (there_zm HB4.out) infoZM (cells0_one _ _ _ _ _ _) ?_
        refine hK.out _ _ (KEEP.out _ (ext_cells (ext_trans (ext_alloc (ext_alloc (ext_trans (ext_drew (Below.refl w1.heap.size w1)) Gv1.out) _) _) Gv2.out) HB4.out (by omega))) (fun hHeld => ?_)
        clear hK K
        try simp only [Act.put, List.setIfInBounds_toArray, List.set_cons_zero, List.set_cons_succ]
        refine wpAnyH_done (by kernel_rfl) ?_ _
        have HLD := Lib.hid (laid_mk (w0 := w) (c := c) (vi := .slice pi ins.length ci) (ext_trans (ext_alloc (ext_alloc (ext_trans (ext_drew (Below.refl w1.heap.size w1)) Gv1.out) _) _) Gv2.out) HB4.out HP4.out HN4.out (by omega) (by omega) (by omega) (by omega) (by omega) (by omega))
        go_wp2_with fail
        go_meet
        case rel => exact HLD.out
      refine AllReadyH.cons rfl (fun K hK => ?_) ?_
      · go_simp
        have HN1 : Hid (NMap ((w1.drew).alloc (.map #[] 0)) (w1.heap.size) 0 (fun _ => none)) := Lib.hid (nmap_made' _ _ (by first | rfl | simp))
        refine hK.out _ _ (KEEP.out _ (ext_alloc (ext_drew (Below.refl w1.heap.size w1)) _)) (fun hHeld => ?_)
        clear hK K
        try simp only [Act.put, List.setIfInBounds_toArray, List.set_cons_zero, List.set_cons_succ]
        refine wpAnyH_ready (rs := [1, 7]) (by kernel_rfl) (by simp) ?_
        refine AllReadyH.cons rfl (fun K hK => ?_) ?_
        · go_simp
          refine (HBG2.out _ (ext_trans G1.out (ext_alloc (ext_drew (Below.refl w1.heap.size w1)) _))).mono ?_; rintro e v1 ⟨⟨b, rfl, hm, hbl⟩, gv1⟩
          have HM := Lib.hid hm; have hbl2 : w1.heap.size ≤ b := Nat.le_trans ((ext_alloc (ext_drew (Below.refl w1.heap.size w1)) _)).size hbl; have hbl3 := hm.lt; try simp at hbl
          clear hm
          have Zv1 : w1.heap.size + 1 ≤ v1.heap.size := by have := gv1.size; (try simp at this); omega
          have Gv1 := Lib.hid gv1; clear gv1
          have HN2 : Hid (NMap (v1) (w1.heap.size) 0 (fun _ => none)) := Lib.hid (HN1.out.ext Gv1.out)
          refine hK.out _ _ (KEEP.out _ (ext_trans (ext_alloc (ext_drew (Below.refl w1.heap.size w1)) _) Gv1.out)) (fun hHeld => ?_)
          clear hK K
          try simp only [Act.put, List.setIfInBounds_toArray, List.set_cons_zero, List.set_cons_succ]
          refine wpAnyH_ready (rs := [3, 7]) (by kernel_rfl) (by simp) ?_
          refine AllReadyH.cons rfl (fun K hK => ?_) ?_
          · go_simp
            refine (HWD2.out _ (ext_trans G1.out (ext_trans (ext_alloc (ext_drew (Below.refl w1.heap.size w1)) _) Gv1.out))).mono ?_; rintro e v2 ⟨rfl, gv2⟩
            have Zv2 : v1.heap.size ≤ v2.heap.size := by have := gv2.size; (try simp at this); omega
            have Gv2 := Lib.hid gv2; clear gv2
            have HN3 : Hid (NMap (v2) (w1.heap.size) 0 (fun _ => none)) := Lib.hid (HN2.out.ext Gv2.out)
            have HP3 := Lib.hid (HM.out.ext Gv2.out)
            refine hK.out _ _ (KEEP.out _ (ext_trans (ext_trans (ext_alloc (ext_drew (Below.refl w1.heap.size w1)) _) Gv1.out) Gv2.out)) (fun hHeld => ?_)
            clear hK K
            try simp only [Act.put, List.setIfInBounds_toArray, List.set_cons_zero, List.set_cons_succ]
            refine wpAnyH_take (i := 6) (v := ?_) rfl (by kernel_rfl) (by kernel_rfl) (by kernel_rfl) (fun _ _ _ h => h) (Or.inl ⟨by rfl, ?hy⟩) (KEEP.out _ (ext_trans (ext_trans (ext_alloc (ext_drew (Below.refl w1.heap.size w1)) _) Gv1.out) Gv2.out)) ?_
            case hy => (intro w hSw; go_simp; try (with_reducible rfl))
            try simp only [Act.put, List.setIfInBounds_toArray, List.set_cons_zero, List.set_cons_succ]
            refine wpAnyH_ready (rs := [7]) (by kernel_rfl) (by simp) ?_
            refine AllReadyH.cons rfl (fun K hK => ?_) AllReadyH.nil
            go_simp
            have HN4 : Hid (NMap ((v2).alloc (.cells ZM 68)) (w1.heap.size) 0 (fun _ => none)) := Lib.hid (HN3.out.ext (ext_alloc (Below.refl _ _) _))
            have HP4 := Lib.hid (HP3.out.ext (ext_alloc (Below.refl _ _) (.cells ZM 68)))
            have HB4 : Hid (((v2).alloc (.cells ZM 68)).heap[v2.heap.size]? = some (.cells ZM 68 (0, 0))) := Lib.hid (heap_new' _ _ _ (by first | rfl | simp))
            refine hK.out _ _ (KEEP.out _ (ext_alloc (ext_trans (ext_trans (ext_alloc (ext_drew (Below.refl w1.heap.size w1)) _) Gv1.out) Gv2.out) _)) (fun hHeld => ?_)
            clear hK K
            try simp only [Act.put, List.setIfInBounds_toArray, List.set_cons_zero, List.set_cons_succ]
            refine wpAnyH_ready (rs := [8]) (by kernel_rfl) (by simp) ?_
            refine AllReadyH.cons rfl (fun K hK => ?_) AllReadyH.nil
            rw [if_pos (by rfl)]
            refine wp_store_mid 68 _ _ rfl (v2.heap.size) 0 (cells0 b (w1.heap.size) (wordsL c.arrays) (.slice pi ins.length ci)).toArray rfl rfl (there_zm HB4.out) infoZM (cells0_one _ _ _ _ _ _) ?_
            refine hK.out _ _ (KEEP.out _ (ext_cells (ext_alloc (ext_trans (ext_trans (ext_alloc (ext_drew (Below.refl w1.heap.size w1)) _) Gv1.out) Gv2.out) _) HB4.out (by omega))) (fun hHeld => ?_)
            clear hK K
            try simp only [Act.put, List.setIfInBounds_toArray, List.set_cons_zero, List.set_cons_succ]
            refine wpAnyH_done (by kernel_rfl) ?_ _
            have HLD := Lib.hid (laid_mk (w0 := w) (c := c) (vi := .slice pi ins.length ci) (ext_alloc (ext_trans (ext_trans (ext_alloc (ext_drew (Below.refl w1.heap.size w1)) _) Gv1.out) Gv2.out) _) HB4.out HP4.out HN4.out (by omega) (by omega) (by omega) (by omega) (by omega) (by omega))
            go_wp2_with fail
            go_meet
            case rel => exact HLD.out
          refine AllReadyH.cons rfl (fun K hK => ?_) AllReadyH.nil
          go_simp
          have HN3 : Hid (NMap ((v1).alloc (.cells ZM 68)) (w1.heap.size) 0 (fun _ => none)) := Lib.hid (HN2.out.ext (ext_alloc (Below.refl _ _) _))
          have HP3 := Lib.hid (HM.out.ext (ext_alloc (Below.refl _ _) (.cells ZM 68)))
          have HB3 : Hid (((v1).alloc (.cells ZM 68)).heap[v1.heap.size]? = some (.cells ZM 68 (0, 0))) := Lib.hid (heap_new' _ _ _ (by first | rfl | simp))
          refine hK.out _ _ (KEEP.out _ (ext_alloc (ext_trans (ext_alloc (ext_drew (Below.refl w1.heap.size w1)) _) Gv1.out) _)) (fun hHeld => ?_)
          clear hK K
          try simp only [Act.put, List.setIfInBounds_toArray, List.set_cons_zero, List.set_cons_succ]
          refine wpAnyH_ready (rs := [3]) (by kernel_rfl) (by simp) ?_
          refine AllReadyH.cons rfl (fun K hK => ?_) AllReadyH.nil
          go_simp
          refine (HWD2.out _ (ext_trans G1.out (ext_alloc (ext_trans (ext_alloc (ext_drew (Below.refl w1.heap.size w1)) _) Gv1.out) _))).mono ?_; rintro e v2 ⟨rfl, gv2⟩
          have Zv2 : v1.heap.size + 1 ≤ v2.heap.size := by have := gv2.size; (try simp at this); omega
          have Gv2 := Lib.hid gv2; clear gv2
          have HB4 : Hid ((v2).heap[v1.heap.size]? = some (.cells ZM 68 (0, 0))) := Lib.hid ((Gv2.out.block _ (Array.getElem?_eq_some_iff.1 HB3.out).1).trans HB3.out)
          have HN4 : Hid (NMap (v2) (w1.heap.size) 0 (fun _ => none)) := Lib.hid (HN3.out.ext Gv2.out)
          have HP4 := Lib.hid (HP3.out.ext Gv2.out)
          refine hK.out _ _ (KEEP.out _ (ext_trans (ext_alloc (ext_trans (ext_alloc (ext_drew (Below.refl w1.heap.size w1)) _) Gv1.out) _) Gv2.out)) (fun hHeld => ?_)
          clear hK K
          try simp only [Act.put, List.setIfInBounds_toArray, List.set_cons_zero, List.set_cons_succ]
          refine wpAnyH_take (i := 6) (v := ?_) rfl (by kernel_rfl) (by kernel_rfl) (by kernel_rfl) (fun _ _ _ h => h) (Or.inl ⟨by rfl, ?hy⟩) (KEEP.out _ (ext_trans (ext_alloc (ext_trans (ext_alloc (ext_drew (Below.refl w1.heap.size w1)) _) Gv1.out) _) Gv2.out)) ?_
          case hy => (intro w hSw; go_simp; try (with_reducible rfl))
          try simp only [Act.put, List.setIfInBounds_toArray, List.set_cons_zero, List.set_cons_succ]
          refine wpAnyH_ready (rs := [8]) (by kernel_rfl) (by simp) ?_
          refine AllReadyH.cons rfl (fun K hK => ?_) AllReadyH.nil
          rw [if_pos (by rfl)]
          refine wp_store_mid 68 _ _ rfl (v1.heap.size) 0 (cells0 b (w1.heap.size) (wordsL c.arrays) (.slice pi ins.length ci)).toArray rfl rfl (there_zm HB4.out) infoZM (cells0_one _ _ _ _ _ _) ?_
          refine hK.out _ _ (KEEP.out _ (ext_cells (ext_trans (ext_alloc (ext_trans (ext_alloc (ext_drew (Below.refl w1.heap.size w1)) _) Gv1.out) _) Gv2.out) HB4.out (by omega))) (fun hHeld => ?_)
          clear hK K
          try simp only [Act.put, List.setIfInBounds_toArray, List.set_cons_zero, List.set_cons_succ]
          refine wpAnyH_done (by kernel_rfl) ?_ _
          have HLD := Lib.hid (laid_mk (w0 := w) (c := c) (vi := .slice pi ins.length ci) (ext_trans (ext_alloc (ext_trans (ext_alloc (ext_drew (Below.refl w1.heap.size w1)) _) Gv1.out) _) Gv2.out) HB4.out HP4.out HN4.out (by omega) (by omega) (by omega) (by omega) (by omega) (by omega))
          go_wp2_with fail
          go_meet
          case rel => exact HLD.out
        refine AllReadyH.cons rfl (fun K hK => ?_) AllReadyH.nil
        go_simp
        have HN2 : Hid (NMap (((w1.drew).alloc (.map #[] 0)).alloc (.cells ZM 68)) (w1.heap.size) 0 (fun _ => none)) := Lib.hid (HN1.out.ext (ext_alloc (Below.refl _ _) _))
        have HB2 : Hid ((((w1.drew).alloc (.map #[] 0)).alloc (.cells ZM 68)).heap[w1.heap.size + 1]? = some (.cells ZM 68 (0, 0))) := Lib.hid (heap_new' _ _ _ (by first | rfl | simp))
        refine hK.out _ _ (KEEP.out _ (ext_alloc (ext_alloc (ext_drew (Below.refl w1.heap.size w1)) _) _)) (fun hHeld => ?_)
        clear hK K
        try simp only [Act.put, List.setIfInBounds_toArray, List.set_cons_zero, List.set_cons_succ]
        refine wpAnyH_ready (rs := [1]) (by kernel_rfl) (by simp) ?_
        refine AllReadyH.cons rfl (fun K hK => ?_) AllReadyH.nil
        go_simp
        refine (HBG2.out _ (ext_trans G1.out (ext_alloc (ext_alloc (ext_drew (Below.refl w1.heap.size w1)) _) _))).mono ?_; rintro e v1 ⟨⟨b, rfl, hm, hbl⟩, gv1⟩
        have HM := Lib.hid hm; have hbl2 : w1.heap.size ≤ b := Nat.le_trans ((ext_alloc (ext_alloc (ext_drew (Below.refl w1.heap.size w1)) _) _)).size hbl; have hbl3 := hm.lt; try simp at hbl
        clear hm
        have Zv1 : w1.heap.size + 2 ≤ v1.heap.size := by have := gv1.size; (try simp at this); omega
        have Gv1 := Lib.hid gv1; clear gv1
        have HB3 : Hid ((v1).heap[w1.heap.size + 1]? = some (.cells ZM 68 (0, 0))) := Lib.hid ((Gv1.out.block _ (Array.getElem?_eq_some_iff.1 HB2.out).1).trans HB2.out)
        have HN3 : Hid (NMap (v1) (w1.heap.size) 0 (fun _ => none)) := Lib.hid (HN2.out.ext Gv1.out)
        refine hK.out _ _ (KEEP.out _ (ext_trans (ext_alloc (ext_alloc (ext_drew (Below.refl w1.heap.size w1)) _) _) Gv1.out)) (fun hHeld => ?_)
        clear hK K
        try simp only [Act.put, List.setIfInBounds_toArray, List.set_cons_zero, List.set_cons_succ]
        refine wpAnyH_ready (rs := [3]) (by kernel_rfl) (by simp) ?_
        refine AllReadyH.cons rfl (fun K hK => ?_) AllReadyH.nil
        go_simp
        refine (HWD2.out _ (ext_trans G1.out (ext_trans (ext_alloc (ext_alloc (ext_drew (Below.refl w1.heap.size w1)) _) _) Gv1.out))).mono ?_; rintro e v2 ⟨rfl, gv2⟩
        have Zv2 : v1.heap.size ≤ v2.heap.size := by have := gv2.size; (try simp at this); omega
        have Gv2 := Lib.hid gv2; clear gv2
        have HB4 : Hid ((v2).heap[w1.heap.size + 1]? = some (.cells ZM 68 (0, 0))) := Lib.hid ((Gv2.out.block _ (Array.getElem?_eq_some_iff.1 HB3.out).1).trans HB3.out)
        have HN4 : Hid (NMap (v2) (w1.heap.size) 0 (fun _ => none)) := Lib.hid (HN3.out.ext Gv2.out)
        have HP4 := Lib.hid (HM.out.ext Gv2.out)
        refine hK.out _ _ (KEEP.out _ (ext_trans (ext_trans (ext_alloc (ext_alloc (ext_drew (Below.refl w1.heap.size w1)) _) _) Gv1.out) Gv2.out)) (fun hHeld => ?_)
        clear hK K
        try simp only [Act.put, List.setIfInBounds_toArray, List.set_cons_zero, List.set_cons_succ]
        refine wpAnyH_take (i := 6) (v := ?_) rfl (by kernel_rfl) (by kernel_rfl) (by kernel_rfl) (fun _ _ _ h => h) (Or.inl ⟨by rfl, ?hy⟩) (KEEP.out _ (ext_trans (ext_trans (ext_alloc (ext_alloc (ext_drew (Below.refl w1.heap.size w1)) _) _) Gv1.out) Gv2.out)) ?_
        case hy => (intro w hSw; go_simp; try (with_reducible rfl))
        try simp only [Act.put, List.setIfInBounds_toArray, List.set_cons_zero, List.set_cons_succ]
        refine wpAnyH_ready (rs := [8]) (by kernel_rfl) (by simp) ?_
        refine AllReadyH.cons rfl (fun K hK => ?_) AllReadyH.nil
        rw [if_pos (by rfl)]
        refine wp_store_mid 68 _ _ rfl (w1.heap.size + 1) 0 (cells0 b (w1.heap.size) (wordsL c.arrays) (.slice pi ins.length ci)).toArray rfl rfl (there_zm HB4.out) infoZM (cells0_one _ _ _ _ _ _) ?_
        refine hK.out _ _ (KEEP.out _ (ext_cells (ext_trans (ext_trans (ext_alloc (ext_alloc (ext_drew (Below.refl w1.heap.size w1)) _) _) Gv1.out) Gv2.out) HB4.out (by omega))) (fun hHeld => ?_)
        clear hK K
        try simp only [Act.put, List.setIfInBounds_toArray, List.set_cons_zero, List.set_cons_succ]
        refine wpAnyH_done (by kernel_rfl) ?_ _
        have HLD := Lib.hid (laid_mk (w0 := w) (c := c) (vi := .slice pi ins.length ci) (ext_trans (ext_trans (ext_alloc (ext_alloc (ext_drew (Below.refl w1.heap.size w1)) _) _) Gv1.out) Gv2.out) HB4.out HP4.out HN4.out (by omega) (by omega) (by omega) (by omega) (by omega) (by omega))
        go_wp2_with fail
        go_meet
        case rel => exact HLD.out
      refine AllReadyH.cons rfl (fun K hK => ?_) AllReadyH.nil
      go_simp
      have HB1 : Hid (((w1.drew).alloc (.cells ZM 68)).heap[w1.heap.size]? = some (.cells ZM 68 (0, 0))) := Lib.hid (heap_new' _ _ _ (by first | rfl | simp))
      refine hK.out _ _ (KEEP.out _ (ext_alloc (ext_drew (Below.refl w1.heap.size w1)) _)) (fun hHeld => ?_)
      clear hK K
      try simp only [Act.put, List.setIfInBounds_toArray, List.set_cons_zero, List.set_cons_succ]
      refine wpAnyH_ready (rs := [1, 4]) (by kernel_rfl) (by simp) ?_
      refine AllReadyH.cons rfl (fun K hK => ?_) ?_
      · go_simp
        refine (HBG2.out _ (ext_trans G1.out (ext_alloc (ext_drew (Below.refl w1.heap.size w1)) _))).mono ?_; rintro e v1 ⟨⟨b, rfl, hm, hbl⟩, gv1⟩
        have HM := Lib.hid hm; have hbl2 : w1.heap.size ≤ b := Nat.le_trans ((ext_alloc (ext_drew (Below.refl w1.heap.size w1)) _)).size hbl; have hbl3 := hm.lt; try simp at hbl
        clear hm
        have Zv1 : w1.heap.size + 1 ≤ v1.heap.size := by have := gv1.size; (try simp at this); omega
        have Gv1 := Lib.hid gv1; clear gv1
        have HB2 : Hid ((v1).heap[w1.heap.size]? = some (.cells ZM 68 (0, 0))) := Lib.hid ((Gv1.out.block _ (Array.getElem?_eq_some_iff.1 HB1.out).1).trans HB1.out)
        refine hK.out _ _ (KEEP.out _ (ext_trans (ext_alloc (ext_drew (Below.refl w1.heap.size w1)) _) Gv1.out)) (fun hHeld => ?_)
        clear hK K
        try simp only [Act.put, List.setIfInBounds_toArray, List.set_cons_zero, List.set_cons_succ]
        refine wpAnyH_ready (rs := [3, 4]) (by kernel_rfl) (by simp) ?_
        refine AllReadyH.cons rfl (fun K hK => ?_) ?_
        · go_simp
          refine (HWD2.out _ (ext_trans G1.out (ext_trans (ext_alloc (ext_drew (Below.refl w1.heap.size w1)) _) Gv1.out))).mono ?_; rintro e v2 ⟨rfl, gv2⟩
          have Zv2 : v1.heap.size ≤ v2.heap.size := by have := gv2.size; (try simp at this); omega
          have Gv2 := Lib.hid gv2; clear gv2
          have HB3 : Hid ((v2).heap[w1.heap.size]? = some (.cells ZM 68 (0, 0))) := Lib.hid ((Gv2.out.block _ (Array.getElem?_eq_some_iff.1 HB2.out).1).trans HB2.out)
          have HP3 := Lib.hid (HM.out.ext Gv2.out)
          refine hK.out _ _ (KEEP.out _ (ext_trans (ext_trans (ext_alloc (ext_drew (Below.refl w1.heap.size w1)) _) Gv1.out) Gv2.out)) (fun hHeld => ?_)
          clear hK K
          try simp only [Act.put, List.setIfInBounds_toArray, List.set_cons_zero, List.set_cons_succ]
          refine wpAnyH_ready (rs := [4]) (by kernel_rfl) (by simp) ?_
          refine AllReadyH.cons rfl (fun K hK => ?_) AllReadyH.nil
          go_simp
          have HB4 : Hid (((v2).alloc (.map #[] 0)).heap[w1.heap.size]? = some (.cells ZM 68 (0, 0))) := Lib.hid ((Lib.alloc_old _ _ _ (Array.getElem?_eq_some_iff.1 HB3.out).1).trans HB3.out)
          have HP4 := Lib.hid (HP3.out.ext (ext_alloc (Below.refl _ _) (.map #[] 0)))
          have HN4 : Hid (NMap ((v2).alloc (.map #[] 0)) (v2.heap.size) 0 (fun _ => none)) := Lib.hid (nmap_made' _ _ (by first | rfl | simp))
          refine hK.out _ _ (KEEP.out _ (ext_alloc (ext_trans (ext_trans (ext_alloc (ext_drew (Below.refl w1.heap.size w1)) _) Gv1.out) Gv2.out) _)) (fun hHeld => ?_)
          clear hK K
          try simp only [Act.put, List.setIfInBounds_toArray, List.set_cons_zero, List.set_cons_succ]
          refine wpAnyH_take (i := 6) (v := ?_) rfl (by kernel_rfl) (by kernel_rfl) (by kernel_rfl) (fun _ _ _ h => h) (Or.inl ⟨by rfl, ?hy⟩) (KEEP.out _ (ext_alloc (ext_trans (ext_trans (ext_alloc (ext_drew (Below.refl w1.heap.size w1)) _) Gv1.out) Gv2.out) _)) ?_
          case hy => (intro w hSw; go_simp; try (with_reducible rfl))
          try simp only [Act.put, List.setIfInBounds_toArray, List.set_cons_zero, List.set_cons_succ]
          refine wpAnyH_ready (rs := [8]) (by kernel_rfl) (by simp) ?_
          refine AllReadyH.cons rfl (fun K hK => ?_) AllReadyH.nil
          rw [if_pos (by rfl)]
          refine wp_store_mid 68 _ _ rfl (w1.heap.size) 0 (cells0 b (v2.heap.size) (wordsL c.arrays) (.slice pi ins.length ci)).toArray rfl rfl (there_zm HB4.out) infoZM (cells0_one _ _ _ _ _ _) ?_
          refine hK.out _ _ (KEEP.out _ (ext_cells (ext_alloc (ext_trans (ext_trans (ext_alloc (ext_drew (Below.refl w1.heap.size w1)) _) Gv1.out) Gv2.out) _) HB4.out (by omega))) (fun hHeld => ?_)
          clear hK K
          try simp only [Act.put, List.setIfInBounds_toArray, List.set_cons_zero, List.set_cons_succ]
          refine wpAnyH_done (by kernel_rfl) ?_ _
          have HLD := Lib.hid (laid_mk (w0 := w) (c := c) (vi := .slice pi ins.length ci) (ext_alloc (ext_trans (ext_trans (ext_alloc (ext_drew (Below.refl w1.heap.size w1)) _) Gv1.out) Gv2.out) _) HB4.out HP4.out HN4.out (by omega) (by omega) (by omega) (by omega) (by omega) (by omega))
          go_wp2_with fail
          go_meet
          case rel => exact HLD.out
        refine AllReadyH.cons rfl (fun K hK => ?_) AllReadyH.nil
        go_simp
        have HB3 : Hid (((v1).alloc (.map #[] 0)).heap[w1.heap.size]? = some (.cells ZM 68 (0, 0))) := Lib.hid ((Lib.alloc_old _ _ _ (Array.getElem?_eq_some_iff.1 HB2.out).1).trans HB2.out)
        have HP3 := Lib.hid (HM.out.ext (ext_alloc (Below.refl _ _) (.map #[] 0)))
        have HN3 : Hid (NMap ((v1).alloc (.map #[] 0)) (v1.heap.size) 0 (fun _ => none)) := Lib.hid (nmap_made' _ _ (by first | rfl | simp))
        refine hK.out _ _ (KEEP.out _ (ext_alloc (ext_trans (ext_alloc (ext_drew (Below.refl w1.heap.size w1)) _) Gv1.out) _)) (fun hHeld => ?_)
        clear hK K
        try simp only [Act.put, List.setIfInBounds_toArray, List.set_cons_zero, List.set_cons_succ]
        refine wpAnyH_ready (rs := [3]) (by kernel_rfl) (by simp) ?_
        refine AllReadyH.cons rfl (fun K hK => ?_) AllReadyH.nil
        go_simp
        refine (HWD2.out _ (ext_trans G1.out (ext_alloc (ext_trans (ext_alloc (ext_drew (Below.refl w1.heap.size w1)) _) Gv1.out) _))).mono ?_; rintro e v2 ⟨rfl, gv2⟩
        have Zv2 : v1.heap.size + 1 ≤ v2.heap.size := by have := gv2.size; (try simp at this); omega
        have Gv2 := Lib.hid gv2; clear gv2
        have HB4 : Hid ((v2).heap[w1.heap.size]? = some (.cells ZM 68 (0, 0))) := Lib.hid ((Gv2.out.block _ (Array.getElem?_eq_some_iff.1 HB3.out).1).trans HB3.out)
        have HN4 : Hid (NMap (v2) (v1.heap.size) 0 (fun _ => none)) := Lib.hid (HN3.out.ext Gv2.out)
        have HP4 := Lib.hid (HP3.out.ext Gv2.out)
        refine hK.out _ _ (KEEP.out _ (ext_trans (ext_alloc (ext_trans (ext_alloc (ext_drew (Below.refl w1.heap.size w1)) _) Gv1.out) _) Gv2.out)) (fun hHeld => ?_)
        clear hK K
        try simp only [Act.put, List.setIfInBounds_toArray, List.set_cons_zero, List.set_cons_succ]
        refine wpAnyH_take (i := 6) (v := ?_) rfl (by kernel_rfl) (by kernel_rfl) (by kernel_rfl) (fun _ _ _ h => h) (Or.inl ⟨by rfl, ?hy⟩) (KEEP.out _ (ext_trans (ext_alloc (ext_trans (ext_alloc (ext_drew (Below.refl w1.heap.size w1)) _) Gv1.out) _) Gv2.out)) ?_
        case hy => (intro w hSw; go_simp; try (with_reducible rfl))
        try simp only [Act.put, List.setIfInBounds_toArray, List.set_cons_zero, List.set_cons_succ]
        refine wpAnyH_ready (rs := [8]) (by kernel_rfl) (by simp) ?_
        refine AllReadyH.cons rfl (fun K hK => ?_) AllReadyH.nil
        rw [if_pos (by rfl)]
        refine wp_store_mid 68 _ _ rfl (w1.heap.size) 0 (cells0 b (v1.heap.size) (wordsL c.arrays) (.slice pi ins.length ci)).toArray rfl rfl (there_zm HB4.out) infoZM (cells0_one _ _ _ _ _ _) ?_
        refine hK.out _ _ (KEEP.out _ (ext_cells (ext_trans (ext_alloc (ext_trans (ext_alloc (ext_drew (Below.refl w1.heap.size w1)) _) Gv1.out) _) Gv2.out) HB4.out (by omega))) (fun hHeld => ?_)
        clear hK K
        try simp only [Act.put, List.setIfInBounds_toArray, List.set_cons_zero, List.set_cons_succ]
        refine wpAnyH_done (by kernel_rfl) ?_ _
        have HLD := Lib.hid (laid_mk (w0 := w) (c := c) (vi := .slice pi ins.length ci) (ext_trans (ext_alloc (ext_trans (ext_alloc (ext_drew (Below.refl w1.heap.size w1)) _) Gv1.out) _) Gv2.out) HB4.out HP4.out HN4.out (by omega) (by omega) (by omega) (by omega) (by omega) (by omega))
        go_wp2_with fail
        go_meet
        case rel => exact HLD.out
      refine AllReadyH.cons rfl (fun K hK => ?_) AllReadyH.nil
      go_simp
      have HB2 : Hid ((((w1.drew).alloc (.cells ZM 68)).alloc (.map #[] 0)).heap[w1.heap.size]? = some (.cells ZM 68 (0, 0))) := Lib.hid ((Lib.alloc_old _ _ _ (Array.getElem?_eq_some_iff.1 HB1.out).1).trans HB1.out)
      have HN2 : Hid (NMap (((w1.drew).alloc (.cells ZM 68)).alloc (.map #[] 0)) (w1.heap.size + 1) 0 (fun _ => none)) := Lib.hid (nmap_made' _ _ (by first | rfl | simp))
      refine hK.out _ _ (KEEP.out _ (ext_alloc (ext_alloc (ext_drew (Below.refl w1.heap.size w1)) _) _)) (fun hHeld => ?_)
      clear hK K
      try simp only [Act.put, List.setIfInBounds_toArray, List.set_cons_zero, List.set_cons_succ]
      refine wpAnyH_ready (rs := [1]) (by kernel_rfl) (by simp) ?_
      refine AllReadyH.cons rfl (fun K hK => ?_) AllReadyH.nil
      go_simp
      refine (HBG2.out _ (ext_trans G1.out (ext_alloc (ext_alloc (ext_drew (Below.refl w1.heap.size w1)) _) _))).mono ?_; rintro e v1 ⟨⟨b, rfl, hm, hbl⟩, gv1⟩
      have HM := Lib.hid hm; have hbl2 : w1.heap.size ≤ b := Nat.le_trans ((ext_alloc (ext_alloc (ext_drew (Below.refl w1.heap.size w1)) _) _)).size hbl; have hbl3 := hm.lt; try simp at hbl
      clear hm
      have Zv1 : w1.heap.size + 2 ≤ v1.heap.size := by have := gv1.size; (try simp at this); omega
      have Gv1 := Lib.hid gv1; clear gv1
      have HB3 : Hid ((v1).heap[w1.heap.size]? = some (.cells ZM 68 (0, 0))) := Lib.hid ((Gv1.out.block _ (Array.getElem?_eq_some_iff.1 HB2.out).1).trans HB2.out)
      have HN3 : Hid (NMap (v1) (w1.heap.size + 1) 0 (fun _ => none)) := Lib.hid (HN2.out.ext Gv1.out)
      refine hK.out _ _ (KEEP.out _ (ext_trans (ext_alloc (ext_alloc (ext_drew (Below.refl w1.heap.size w1)) _) _) Gv1.out)) (fun hHeld => ?_)
      clear hK K
      try simp only [Act.put, List.setIfInBounds_toArray, List.set_cons_zero, List.set_cons_succ]
      refine wpAnyH_ready (rs := [3]) (by kernel_rfl) (by simp) ?_
      refine AllReadyH.cons rfl (fun K hK => ?_) AllReadyH.nil
      go_simp
      refine (HWD2.out _ (ext_trans G1.out (ext_trans (ext_alloc (ext_alloc (ext_drew (Below.refl w1.heap.size w1)) _) _) Gv1.out))).mono ?_; rintro e v2 ⟨rfl, gv2⟩
      have Zv2 : v1.heap.size ≤ v2.heap.size := by have := gv2.size; (try simp at this); omega
      have Gv2 := Lib.hid gv2; clear gv2
      have HB4 : Hid ((v2).heap[w1.heap.size]? = some (.cells ZM 68 (0, 0))) := Lib.hid ((Gv2.out.block _ (Array.getElem?_eq_some_iff.1 HB3.out).1).trans HB3.out)
      have HN4 : Hid (NMap (v2) (w1.heap.size + 1) 0 (fun _ => none)) := Lib.hid (HN3.out.ext Gv2.out)
      have HP4 := Lib.hid (HM.out.ext Gv2.out)
      refine hK.out _ _ (KEEP.out _ (ext_trans (ext_trans (ext_alloc (ext_alloc (ext_drew (Below.refl w1.heap.size w1)) _) _) Gv1.out) Gv2.out)) (fun hHeld => ?_)
      clear hK K
      try simp only [Act.put, List.setIfInBounds_toArray, List.set_cons_zero, List.set_cons_succ]
      refine wpAnyH_take (i := 6) (v := ?_) rfl (by kernel_rfl) (by kernel_rfl) (by kernel_rfl) (fun _ _ _ h => h) (Or.inl ⟨by rfl, ?hy⟩) (KEEP.out _ (ext_trans (ext_trans (ext_alloc (ext_alloc (ext_drew (Below.refl w1.heap.size w1)) _) _) Gv1.out) Gv2.out)) ?_
      case hy => (intro w hSw; go_simp; try (with_reducible rfl))
      try simp only [Act.put, List.setIfInBounds_toArray, List.set_cons_zero, List.set_cons_succ]
      refine wpAnyH_ready (rs := [8]) (by kernel_rfl) (by simp) ?_
      refine AllReadyH.cons rfl (fun K hK => ?_) AllReadyH.nil
      rw [if_pos (by rfl)]
      refine wp_store_mid 68 _ _ rfl (w1.heap.size) 0 (cells0 b (w1.heap.size + 1) (wordsL c.arrays) (.slice pi ins.length ci)).toArray rfl rfl (there_zm HB4.out) infoZM (cells0_one _ _ _ _ _ _) ?_
      refine hK.out _ _ (KEEP.out _ (ext_cells (ext_trans (ext_trans (ext_alloc (ext_alloc (ext_drew (Below.refl w1.heap.size w1)) _) _) Gv1.out) Gv2.out) HB4.out (by omega))) (fun hHeld => ?_)
      clear hK K
      try simp only [Act.put, List.setIfInBounds_toArray, List.set_cons_zero, List.set_cons_succ]
      refine wpAnyH_done (by kernel_rfl) ?_ _
      have HLD := Lib.hid (laid_mk (w0 := w) (c := c) (vi := .slice pi ins.length ci) (ext_trans (ext_trans (ext_alloc (ext_alloc (ext_drew (Below.refl w1.heap.size w1)) _) _) Gv1.out) Gv2.out) HB4.out HP4.out HN4.out (by omega) (by omega) (by omega) (by omega) (by omega) (by omega))
      go_wp2_with fail
      go_meet
      case rel => exact HLD.out
    case rest =>
      obtain ⟨B, M, P, rfl, hB, hPm, hMm, b1, b2, b3, n1, n2, n3, gW⟩ := hcut
      have GC := Lib.hid (ext_trans G1.out gW)
      have zW := gW.size
      have d0 := (gW.cell (p := ⟨w.heap.size, 0, none⟩) (by show w.heap.size < w1.heap.size; omega)).trans c0
      have d1 := (gW.cell (p := ⟨w.heap.size, 1, none⟩) (by show w.heap.size < w1.heap.size; omega)).trans c1
      have HRW := Lib.hid ((gW.block (w.heap.size + 1) z1).trans HR1.out)
      have hBl : B < wc.heap.size := (Array.getElem?_eq_some_iff.1 hB).1
      have hMl : M < wc.heap.size := hMm.lt
      have HBc := Lib.hid hB
      have HPc := Lib.hid hPm
      have HMc := Lib.hid hMm
      clear c0 c1 hB hPm hMm gW HR1
      go_wp2_with fail
      refine (HFL2.out _ GC.out).mono ?_; rintro e wF ⟨hres, gF⟩
      obtain ⟨p1, k1, p2, k2, rfl, r1, r2⟩ := hres.shape
      have hbF := (gF.block B hBl).trans HBc.out
      have zF := gF.size
      have OK : Hid ((mkE w wF B M P wc.heap.size p1 k1 p2 k2 c).Ok) := Lib.hid (mkE_ok HOK.out hal HF.out HN64.out (by omega) (by omega) (by omega) hBl hMl HPc.out n1 n2 n3 gF r1 r2)
      have HST := Lib.hid (mkE_start OK.out hbF (HMc.out.ext gF) (by omega) (ext_trans GC.out gF) HIN.out (by omega) hci HI64.out)
      have HRF := Lib.hid ((gF.block (w.heap.size + 1) (by omega)).trans HRW.out)
      have HRUN : Hid (∀ m, goM (begL c) (wordsL c.arrays) (flatI c.lines) ((flatI c.lines).map (toL c)) steps.toNat (mac0 ins) = m → runL c ins steps = m.rn) := Lib.hid (fun m hm => by unfold runL; rw [if_neg (by rw [HOK.out]; simp), hm])
      obtain ⟨N, hN⟩ : ∃ N, steps.toNat = N := ⟨_, rfl⟩
      rw [hN] at HRUN
      have e0 : wF.cell? ⟨B, 0, none⟩ = some (.slice none 0 0) := by rw [cell_row hbF]; rfl
      have e1 : wF.cell? ⟨B, 1, none⟩ = some (.slice none 0 0) := by rw [cell_row hbF]; rfl
      have e6 : wF.cell? ⟨B, 6, none⟩ = some (.int .i64 0) := by rw [cell_row hbF]; rfl
      have f0 := frozen_row hbF 0
      have f1 := frozen_row hbF 1
      have f6 := frozen_row hbF 6
      have HEX : Hid (∃ E : Mw, E.Ok ∧ E.B = B ∧ E.z = w ∧ E.a = wF ∧ E.S = wF.heap.size ∧ E.M = M ∧ E.L = flatI c.lines ∧ E.F = begL c ∧ E.W = wordsL c.arrays ∧ E.T = (flatI c.lines).map (toL c) ∧ MAt E (mac0 ins) pi ci none 0 0 (((wF.setCell ⟨B, 0, none⟩ (.slice p1 (flatI c.lines).length k1)).setCell ⟨B, 1, none⟩ (.slice p2 (flatI c.lines).length k2)).setCell ⟨B, 6, none⟩ (.int .i64 1073741824))) := Lib.hid ⟨_, OK.out, rfl, rfl, rfl, rfl, rfl, rfl, rfl, rfl, rfl, HST.out⟩
      obtain ⟨E, ok, hEB, hEz, hEa, hES, hEM, hEL, hEF, hEW, hET, hst⟩ := HEX.out
      subst hEB
      have OKE := Lib.hid ok
      have HSTE := Lib.hid hst
      have HEa := Lib.hid hEa
      have HES := Lib.hid hES
      have HEM := Lib.hid hEM
      have HEz := Lib.hid hEz
      have HRUN2 : Hid (∀ m, goM E.F E.W E.L E.T N (mac0 ins) = m → runL c ins steps = m.rn) := Lib.hid (by rw [hEF, hEW, hEL, hET]; exact HRUN.out)
      clear hres gF r1 r2 hbF OK HST HRUN HEX ok hst hEa hES hEM hEz d0 d1 HRW HBc HPc HMc HFL2 HBG2 HWD2 HCK hEL hEF hEW hET
      have hN2 := Lib.hid hN
      clear hN
      go_wp2_with fail
      go_loopw [] (fun wr => RunRel E N ins wr) (fun wr => measM E.B N wr)
      case atStart => exact ⟨mac0 ins, ⟨_, _, _, _, _, HSTE.out⟩, Nat.zero_le _, rfl⟩
      case round =>
        obtain ⟨m, ⟨qi, di, qo, do_, mm, hm⟩, hsl, hgo⟩ := hrel
        have HM := Lib.hid hm
        have HGO := Lib.hid hgo
        have hB2 := hm.lt
        have c39 := hm.stat
        have c38 := hm.pc
        have cl := hm.c0.1
        have c40 := hm.code
        have c41 := hm.outc
        have c42 := hm.stepc
        have f39 := hm.fz 39
        have f42 := hm.fz 42
        have hpcL := hm.good.pc
        have hlen := OKE.out.good.len
        have hfs := hm.fr.size
        have hRz := (hm.fr.heap (b := w.heap.size + 1) (by rw [HEa.out]; exact HRF.out) (by rw [HES.out]; omega) (fun k => by rcases k with k | k; omega; rw [HEM.out] at k; omega))
        obtain ⟨r0, r1, r2, r3⟩ := four_cells hRz
        obtain ⟨g0, g1, g2, g3⟩ := four_frozen hRz
        have hRl : w.heap.size + 1 < wr.heap.size := (Array.getElem?_eq_some_iff.1 hRz).1
        have hRB : w.heap.size + 1 ≠ E.B := by omega
        have hRB2 : ¬ E.B = w.heap.size + 1 := by omega
        clear hm hgo hRz
        by_cases hs0 : m.stat = 0
        · have c39z : wr.cell? ⟨E.B, 39, none⟩ = some (.int .i64 0) := by rw [c39, hs0]
          clear c39
          by_cases hpl : E.L.length ≤ m.pc
          · have hge : decide ((E.L.length : Int) ≤ (m.pc : Int)) = true := decide_eq_true (by omega)
            have hge2 : decide (E.L.length ≤ m.pc) = true := decide_eq_true hpl
            have HE := Lib.hid (HRUN2.out _ (RunRel.out HGO.out hs0 hpl))
            have hm6 := HM.out.toStat OKE.out 6
            obtain ⟨hR2, wf, hwf, hhf, hbf, hrs⟩ := mrun_end OKE.out hm6 HEz.out (R := w.heap.size + 1) (by rw [HEa.out]; exact HRF.out) (by rw [HES.out]; omega) (by omega) (by rw [HEM.out]; omega) (by omega)
            have HWF : Hid (((((wr.setCell ⟨E.B, 39, none⟩ (.int .i64 6)).setCell ⟨w.heap.size + 1, 0, none⟩ (.int .i64 6)).setCell ⟨w.heap.size + 1, 1, none⟩ (.int .i64 m.code)).setCell ⟨w.heap.size + 1, 2, none⟩ (.slice qo m.out.length do_)).setCell ⟨w.heap.size + 1, 3, none⟩ (.int .i64 m.steps) = wf) := Lib.hid hwf
            have HBF := Lib.hid hbf
            have HRS : Hid (RunRes w.heap.size (runL c ins steps) (.returned (.agg #[.int .i64 6, .int .i64 m.code, .slice qo m.out.length do_, .int .i64 m.steps])) wf) := Lib.hid (by rw [HE.out]; exact hrs)
            have hhf2 : wf.heap[w.heap.size + 1]? = some (.cells #[.int .i64 6, .int .i64 m.code, .slice qo m.out.length do_, .int .i64 m.steps] 31 (0, 0)) := hhf
            obtain ⟨x0, x1, x2, x3⟩ := four_cells hhf2
            clear hwf hbf hrs hhf hR2 hhf2
            clear hs0 hpl hm6 HE
            go_wp2_with fail
            refine bodyPost_world HWF.out ?_
            clear r0 r1 r2 r3 g0 g1 g2 g3 c38 cl c40 c41 c42 f39 f42 c39z
            exact bodyPost_ret (v := .agg #[.int .i64 6, .int .i64 m.code, .slice qo m.out.length do_, .int .i64 m.steps]) (by simp [results, Tryz.results14, go_sem, x0, x1, x2, x3]) rfl ⟨HRS.out, HBF.out⟩
          · have hge : decide ((E.L.length : Int) ≤ (m.pc : Int)) = false := decide_eq_false (by omega)
            have hge2 : decide (E.L.length ≤ m.pc) = false := decide_eq_false hpl
            have hpi : (m.pc : Int) < (E.L.length : Int) := by omega
            by_cases hst : m.steps < N
            · have hsi : (m.steps : Int) < steps := by have := hN2.out; omega
              have hsg : decide (steps ≤ (m.steps : Int)) = false := decide_eq_false (by omega)
              have hsg2 : ¬ steps ≤ (m.steps : Int) := by omega
              have hpl2 : m.pc < E.L.length := by omega
              obtain ⟨x, hx⟩ : ∃ x, E.L[m.pc]'hpl2 = x := ⟨_, rfl⟩
              have hgd : E.L.getD m.pc zeroI = x := by rw [List.getD_eq_getElem?_getD, List.getElem?_eq_getElem hpl2, hx]; rfl
              have hrl := HM.out.fr.own OKE.out.rl (fun b hb => ⟨OKE.out.rlS b hb, by have := (OKE.out.rl.lt b hb).1; have := OKE.out.bb; have := OKE.out.mb; unfold Mw.X; omega⟩)
              have hrlt := OKE.out.rl.lt
              have hbb := OKE.out.bb
              obtain ⟨_, p', c', hq, hc⟩ := row_get lenI (by decide) hrl
              obtain ⟨g, hg, hgb, hcg⟩ := hc _ hpl2
              injection hq with hq1 _ hq2
              rw [hq1, hg] at cl
              rw [hx] at hcg
              have q0 : wr.cell? ⟨g, m.pc * 6, none⟩ = some (.int .i64 x.op) := hcg 0 (by decide)
              have q1 : wr.cell? ⟨g, m.pc * 6 + 1, none⟩ = some (.int .i64 x.d) := hcg 1 (by decide)
              have q2 : wr.cell? ⟨g, m.pc * 6 + 2, none⟩ = some (.int .i64 x.a) := hcg 2 (by decide)
              have q3 : wr.cell? ⟨g, m.pc * 6 + 3, none⟩ = some (.int .i64 x.b) := hcg 3 (by decide)
              have q4 : wr.cell? ⟨g, m.pc * 6 + 4, none⟩ = some (.int .i64 x.n) := hcg 4 (by decide)
              have q5 : wr.cell? ⟨g, m.pc * 6 + 5, none⟩ = some (.string (mk x.name)) := hcg 5 (by decide)
              have hgl : g < wr.heap.size := at_lt q0
              have hgne : g ≠ E.B := by omega
              have hgne2 : ¬ E.B = g := by omega
              have H1 : MSp E { m with steps := m.steps + 1 } (wr.setCell ⟨E.B, 42, none⟩ (.int .i64 ((m.steps : Int) + 1))) := ⟨_, _, _, _, _, HM.out.toSteps OKE.out (k := m.steps + 1) (Nat.le_succ _), by have := HM.out.nm; show mm + 1 ≤ m.steps + 1; omega, by have := HM.out.ol; show m.out.length + 1 ≤ m.steps + 1; omega⟩
              have HSP := Lib.hid (step_m OKE.out H1 (by show m.steps + 1 ≤ 1000000; have := hN2.out; omega) hpl2)
              have hgd2 : E.L.getD ({ m with steps := m.steps + 1 } : Mac).pc zeroI = x := hgd
              rw [hgd2] at HSP
              unfold inV at HSP
              have HRM : Hid (roundM E.F E.W E.L E.T m = zeroM (stepM E.F E.W E.L E.T { m with steps := m.steps + 1 } x)) := Lib.hid (by unfold roundM; rw [hgd])
              have HNX := Lib.hid (RunRel.go HGO.out hs0 hpl hst (round_steps _ _ _ _ _))
              have HSS := Lib.hid (round_steps E.F E.W E.L E.T m)
              have HMS := Lib.hid (measM_at HM.out N)
              have hsm : m.steps ≤ 1000000 := by have := hN2.out; omega
              have hstN := Lib.hid hst
              clear hs0 hpl hst hrl hc hcg hq1 hq2 hg hx hgd hgd2 H1 HGO r0 r1 r2 r3 g0 g1 g2 g3 hrlt
              obtain ⟨op, xd, xa, xb, xn, name⟩ := x
              simp only at q0 q1 q2 q3 q4 q5 HSP HRM
              generalize stepM E.F E.W E.L E.T { m with steps := m.steps + 1 } ⟨op, xd, xa, xb, xn, name⟩ = m2 at *
              go_wp2_with fail
              refine HSP.out.mono ?_; rintro e w3 ⟨rfl, hms⟩
              obtain ⟨qi2, di2, qo2, do2, mm2, h2⟩ := hms
              have z4 : w3.cell? ⟨E.B, 4, none⟩ = some (.int .i64 (getR m2 0)) := h2.reg 0 (by decide)
              have f4 := h2.fz 4
              have hB3 := h2.lt
              have HM3 : Hid (MAt E (roundM E.F E.W E.L E.T m) qi2 di2 qo2 do2 mm2 (w3.setCell ⟨E.B, 4, none⟩ (.int .i64 0))) := Lib.hid (by rw [HRM.out]; exact h2.toR OKE.out 0 (by decide) i64_0)
              have HMS3 := Lib.hid (measM_at HM3.out N)
              rw [HSS.out] at HMS3
              clear h2 c39z c38 cl c40 c41 c42 f39 f42 q0 q1 q2 q3 q4 q5
              go_wp2_with fail
              go_roundw
              case rel => exact ⟨_, ⟨_, _, _, _, _, HM3.out⟩, by rw [HSS.out]; exact hstN.out, HNX.out⟩
              case measure => rw [HMS3.out, HMS.out]; have := hstN.out; omega
            · have hsg : decide (steps ≤ (m.steps : Int)) = true := decide_eq_true (by have := hN2.out; omega)
              have hsg2 : steps ≤ (m.steps : Int) := by have := hN2.out; omega
              have HE := Lib.hid (HRUN2.out _ (RunRel.stop HGO.out hpl (by omega)))
              have hm0 := HM.out
              obtain ⟨hR2, wf, hwf, hhf, hbf, hrs⟩ := mrun_end OKE.out hm0 HEz.out (R := w.heap.size + 1) (by rw [HEa.out]; exact HRF.out) (by rw [HES.out]; omega) (by omega) (by rw [HEM.out]; omega) (by omega)
              have HWF : Hid (((((wr).setCell ⟨w.heap.size + 1, 0, none⟩ (.int .i64 0)).setCell ⟨w.heap.size + 1, 1, none⟩ (.int .i64 m.code)).setCell ⟨w.heap.size + 1, 2, none⟩ (.slice qo m.out.length do_)).setCell ⟨w.heap.size + 1, 3, none⟩ (.int .i64 m.steps) = wf) := Lib.hid (by rw [hs0] at hwf; exact hwf)
              have HBF := Lib.hid hbf
              have HRS : Hid (RunRes w.heap.size (runL c ins steps) (.returned (.agg #[.int .i64 0, .int .i64 m.code, .slice qo m.out.length do_, .int .i64 m.steps])) wf) := Lib.hid (by rw [HE.out]; rw [hs0] at hrs; exact hrs)
              have hhf2 : wf.heap[w.heap.size + 1]? = some (.cells #[.int .i64 0, .int .i64 m.code, .slice qo m.out.length do_, .int .i64 m.steps] 31 (0, 0)) := by rw [hs0] at hhf; exact hhf
              obtain ⟨x0, x1, x2, x3⟩ := four_cells hhf2
              clear hwf hbf hrs hhf hR2 hhf2
              clear hs0 hpl hm0 HE hst
              go_wp2_with fail
              refine bodyPost_world HWF.out ?_
              clear r0 r1 r2 r3 g0 g1 g2 g3 c38 cl c40 c41 c42 f39 f42 c39z
              exact bodyPost_ret (v := .agg #[.int .i64 0, .int .i64 m.code, .slice qo m.out.length do_, .int .i64 m.steps]) (by simp [results, Tryz.results14, go_sem, x0, x1, x2, x3]) rfl ⟨HRS.out, HBF.out⟩
        · have hsb : (m.stat == 0) = false := beq_eq_false_iff_ne.2 hs0
          have HE := Lib.hid (HRUN2.out _ (RunRel.ended HGO.out hs0))
          have hm0 := HM.out
          obtain ⟨hR2, wf, hwf, hhf, hbf, hrs⟩ := mrun_end OKE.out hm0 HEz.out (R := w.heap.size + 1) (by rw [HEa.out]; exact HRF.out) (by rw [HES.out]; omega) (by omega) (by rw [HEM.out]; omega) (by omega)
          have HWF : Hid (((((wr).setCell ⟨w.heap.size + 1, 0, none⟩ (.int .i64 m.stat)).setCell ⟨w.heap.size + 1, 1, none⟩ (.int .i64 m.code)).setCell ⟨w.heap.size + 1, 2, none⟩ (.slice qo m.out.length do_)).setCell ⟨w.heap.size + 1, 3, none⟩ (.int .i64 m.steps) = wf) := Lib.hid hwf
          have HBF := Lib.hid hbf
          have HRS : Hid (RunRes w.heap.size (runL c ins steps) (.returned (.agg #[.int .i64 m.stat, .int .i64 m.code, .slice qo m.out.length do_, .int .i64 m.steps])) wf) := Lib.hid (by rw [HE.out]; exact hrs)
          have hhf2 : wf.heap[w.heap.size + 1]? = some (.cells #[.int .i64 m.stat, .int .i64 m.code, .slice qo m.out.length do_, .int .i64 m.steps] 31 (0, 0)) := hhf
          obtain ⟨x0, x1, x2, x3⟩ := four_cells hhf2
          clear hwf hbf hrs hhf hR2 hhf2
          clear hs0 hm0 HE
          go_wp2_with fail
          refine bodyPost_world HWF.out ?_
          clear r0 r1 r2 r3 g0 g1 g2 g3 c38 cl c40 c41 c42 f39 f42 c39
          exact bodyPost_ret (v := .agg #[.int .i64 m.stat, .int .i64 m.code, .slice qo m.out.length do_, .int .i64 m.steps]) (by simp [results, Tryz.results14, go_sem, x0, x1, x2, x3]) rfl ⟨HRS.out, HBF.out⟩
  · have E : Hid (runL c ins steps = ⟨0, 0, [], 0⟩) := Lib.hid (by unfold runL; rw [if_pos h0])
    have hb : ((faultL c).1 == 0) = false := beq_eq_false_iff_ne.2 h0
    have hb2 : ((faultL c).1 != 0) = true := bne_iff_ne.2 h0
    clear HBG HWD HFL h0 hf hin hn64 hi64
    generalize (faultL c).2 = e2 at *
    generalize (faultL c).1 = e1 at *
    go_enter Tryz.func14, Tryz.ntmps14
    go_wp2_with fail
    refine (HCK.out _ (ext_alloc (ext_alloc (Below.refl _ _) _) _)).mono ?_; rintro e w1 ⟨rfl, g1⟩
    have hR1 := (g1.block (w.heap.size + 1) (by simp)).trans (heap_new' _ _ _ (by simp))
    have G1 := Lib.hid (ext_trans (ext_alloc (ext_alloc (Below.refl _ _) _) _) g1)
    have z1 : w.heap.size + 1 < w1.heap.size := by have := g1.size; simp at this; omega
    obtain ⟨r0, r1, r2, r3⟩ := four_cells hR1
    obtain ⟨g0, g1', g2, g3⟩ := four_frozen hR1
    obtain ⟨wf, hwf, hhf, hbf, _⟩ := four_store hR1 G1.out (Nat.le_succ _) (.int .i64 0) (.int .i64 0) (.slice none 0 0) (.int .i64 0)
    have HWF := Lib.hid hwf
    have HBF := Lib.hid hbf
    obtain ⟨x0, x1, x2, x3⟩ := four_cells hhf
    have HRS : Hid (RunRes w.heap.size (runL c ins steps) (.returned (.agg #[.int .i64 0, .int .i64 0, .slice none 0 0, .int .i64 0])) wf) := Lib.hid (by rw [E.out]; exact ⟨none, 0, rfl, World.ownsRow_nil _ _ _ _⟩)
    clear g1 hR1 hwf hhf hbf
    go_wp2_with fail
    refine bodyPost_world HWF.out ?_
    clear r0 r1 r2 r3 g0 g1' g2 g3
    exact bodyPost_ret (v := .agg #[.int .i64 0, .int .i64 0, .slice none 0 0, .int .i64 0]) (by simp [results, Tryz.results14, go_sem, x0, x1, x2, x3]) rfl ⟨HRS.out, HBF.out⟩
end Go.Proofs.YtjimeengkfjihaaGreatDoor
