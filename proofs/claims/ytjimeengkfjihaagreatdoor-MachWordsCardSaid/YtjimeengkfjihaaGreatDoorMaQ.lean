/- The machine, where it lies. -/
import Derived.Test.YtjimeengkfjihaaGreatDoorRows
import Derived.WalkKit
import Derived.ProofKit
import Derived.OpenShut
import Derived.WalkLawsBesides
import Derived.WalkSpells
import Derived.Outline
import Derived.Handy
import Derived.Lib.Hide
import Derived.Lib.OthersKept
import Derived.KernelRfl
import Derived.Carry
import Derived.Test.YtjimeengkfjihaaGreatDoorMaP
import Derived.Test.YtjimeengkfjihaaGreatDoorMapN
import Derived.Test.YtjimeengkfjihaaGreatDoorFrm
import Derived.RegionTactic
import Derived.BigRegion
import Derived.BigQuiet
import Derived.DataElems
import Derived.IntWalk
import Derived.Deep.QuietTactic
import Derived.Deep.RegionHeld3
import Derived.Test.YtjimeengkfjihaaGreatDoorMrF
namespace Go.Proofs.YtjimeengkfjihaaGreatDoor
open Go.ChangeShapes Go.WideShapes Go.ChangeAt Go.RowKit
set_option linter.unusedVariables false
def regsV (m : Mac) : List Value := (List.range 32).map fun i : Nat => .int .i64 (m.regs (i : Int))
/-- What stays of a machine: where it lies, its code. -/
structure Mw where
  z : World
  a : World
  B : Nat
  M : Nat
  P : Nat
  S : Nat
  n : Nat
  base : Nat
  pl : Option Addr
  cl : Nat
  pt : Option Addr
  ct : Nat
  W : Int
  F : List UInt8 → Option Int
  L : List In
  T : List Int
def cellsM (e : Mw) (vi vo : Value) (m : Mac) : List Value :=
  [.slice e.pl e.L.length e.cl, .slice e.pt e.T.length e.ct, .map (some e.P), .int .i64 e.W] ++ regsV m ++ [.map (some e.M), vi, .int .i64 m.pc, .int .i64 m.stat, .int .i64 m.code, vo, .int .i64 m.steps]
theorem regsV_len (m : Mac) : (regsV m).length = 32 := by unfold regsV; simp
theorem regsV_get (m : Mac) (r : Nat) (h : r < 32) : (regsV m)[r]? = some (.int .i64 (m.regs (r : Int))) := by
  unfold regsV; rw [List.getElem?_map, List.getElem?_range h]; rfl
theorem regsV_set (m : Mac) (r : Nat) (v : Int) : (regsV m).set r (.int .i64 v) = regsV (setR m (r : Int) v) := by
  refine List.ext_getElem? fun i => ?_
  by_cases h : i < 32
  · rw [regsV_get _ _ h]
    by_cases e : r = i
    · subst e
      rw [List.getElem?_set_self (by rw [regsV_len]; exact h)]
      show _ = some (Value.int .i64 (if (r : Int) = (r : Int) then v else m.regs (r : Int)))
      rw [if_pos rfl]
    · rw [List.getElem?_set_ne e, regsV_get _ _ h]
      show _ = some (Value.int .i64 (if (i : Int) = (r : Int) then v else m.regs (i : Int)))
      rw [if_neg (by omega)]
  · rw [List.getElem?_eq_none (by rw [List.length_set, regsV_len]; omega), List.getElem?_eq_none (by rw [regsV_len]; omega)]
theorem cellsM_reg (e : Mw) (vi vo : Value) (m : Mac) (r : Nat) (h : r < 32) : (cellsM e vi vo m).toArray[4 + r]? = some (.int .i64 (m.regs (r : Int))) := by
  rw [List.getElem?_toArray]
  unfold cellsM
  rw [List.append_assoc, List.getElem?_append_right (by simp), List.getElem?_append_left (by simp [regsV_len]; omega)]
  have : 4 + r - [Value.slice e.pl e.L.length e.cl, .slice e.pt e.T.length e.ct, .map (some e.P), .int .i64 e.W].length = r := by simp
  rw [this, regsV_get _ _ h]
theorem cellsM_setR (e : Mw) (vi vo : Value) (m : Mac) (r : Nat) (h : r < 32) (v : Int) : (cellsM e vi vo m).toArray.setIfInBounds (4 + r) (.int .i64 v) = (cellsM e vi vo (setR m (r : Int) v)).toArray := by
  apply Array.toList_inj.1
  rw [Array.toList_setIfInBounds]
  show (cellsM e vi vo m).set (4 + r) _ = cellsM e vi vo (setR m (r : Int) v)
  unfold cellsM
  rw [List.append_assoc, List.set_append_right _ _ (by simp), List.set_append_left _ _ (by simp [regsV_len]; omega)]
  have : 4 + r - [Value.slice e.pl e.L.length e.cl, .slice e.pt e.T.length e.ct, .map (some e.P), .int .i64 e.W].length = r := by simp
  rw [this, regsV_set, List.append_assoc]
  rfl
theorem cellsM_at (e : Mw) (vi vo : Value) (m : Mac) (i : Nat) : (cellsM e vi vo m).toArray[36 + i]? = [Value.map (some e.M), vi, .int .i64 m.pc, .int .i64 m.stat, .int .i64 m.code, vo, .int .i64 m.steps][i]? := by
  rw [List.getElem?_toArray]
  unfold cellsM
  rw [List.getElem?_append_right (by simp [regsV_len])]
  congr 1
  simp [regsV_len]
theorem cellsM_set (e : Mw) (vi vo : Value) (m : Mac) (i : Nat) (x : Value) : ((cellsM e vi vo m).toArray.setIfInBounds (36 + i) x).toList = ([Value.slice e.pl e.L.length e.cl, .slice e.pt e.T.length e.ct, .map (some e.P), .int .i64 e.W] ++ regsV m) ++ [Value.map (some e.M), vi, .int .i64 m.pc, .int .i64 m.stat, .int .i64 m.code, vo, .int .i64 m.steps].set i x := by
  rw [Array.toList_setIfInBounds]
  show (cellsM e vi vo m).set (36 + i) _ = _
  unfold cellsM
  rw [List.set_append_right _ _ (by simp [regsV_len])]
  congr 2
  simp [regsV_len]
theorem cellsM_pc (e : Mw) (vi vo : Value) (m : Mac) (k : Nat) : (cellsM e vi vo m).toArray.setIfInBounds 38 (.int .i64 (k : Int)) = (cellsM e vi vo { m with pc := k }).toArray := Array.toList_inj.1 ((cellsM_set e vi vo m 2 _).trans rfl)
theorem cellsM_stat (e : Mw) (vi vo : Value) (m : Mac) (k : Int) : (cellsM e vi vo m).toArray.setIfInBounds 39 (.int .i64 k) = (cellsM e vi vo { m with stat := k }).toArray := Array.toList_inj.1 ((cellsM_set e vi vo m 3 _).trans rfl)
theorem cellsM_code (e : Mw) (vi vo : Value) (m : Mac) (k : Int) : (cellsM e vi vo m).toArray.setIfInBounds 40 (.int .i64 k) = (cellsM e vi vo { m with code := k }).toArray := Array.toList_inj.1 ((cellsM_set e vi vo m 4 _).trans rfl)
theorem cellsM_steps (e : Mw) (vi vo : Value) (m : Mac) (k : Nat) : (cellsM e vi vo m).toArray.setIfInBounds 42 (.int .i64 (k : Int)) = (cellsM e vi vo { m with steps := k }).toArray := Array.toList_inj.1 ((cellsM_set e vi vo m 6 _).trans rfl)
theorem cellsM_in (e : Mw) (vi vo vi' : Value) (m : Mac) (l : List Int) : (cellsM e vi vo m).toArray.setIfInBounds 37 vi' = (cellsM e vi' vo { m with ins := l }).toArray := Array.toList_inj.1 ((cellsM_set e vi vo m 1 _).trans rfl)
theorem cellsM_out (e : Mw) (vi vo vo' : Value) (m : Mac) (l : List Int) : (cellsM e vi vo m).toArray.setIfInBounds 41 vo' = (cellsM e vi vo' { m with out := l }).toArray := Array.toList_inj.1 ((cellsM_set e vi vo m 5 _).trans rfl)
def Mw.X (e : Mw) (b : Nat) : Prop := b = e.B ∨ b = e.M
structure Mw.Ok (e : Mw) : Prop where
  good : GoodC e.F e.W e.L e.T
  bz : e.z.heap.size ≤ e.B
  mz : e.z.heap.size ≤ e.M
  sz : e.z.heap.size ≤ e.S
  bb : e.B < e.base
  mb : e.M < e.base
  bm : e.B ≠ e.M
  bs : e.base ≤ e.S
  pB : e.P ≠ e.B
  pM : e.P ≠ e.M
  pS : e.P < e.S
  sa : e.S ≤ e.a.heap.size
  rl : e.a.ownsRow e.base 39 6 (.slice e.pl e.L.length e.cl) e.L.length (e.L.flatMap cellsI)
  rt : e.a.ownsRow e.base 3 1 (.slice e.pt e.T.length e.ct) e.T.length (e.T.flatMap cellsN)
  rlS : ∀ b, Value.ownBlock (.slice e.pl e.L.length e.cl) = some b → b < e.S
  rtS : ∀ b, Value.ownBlock (.slice e.pt e.T.length e.ct) = some b → b < e.S
  mp : IMap e.a e.P e.n e.F
  nl : ∀ x ∈ e.L, x.name.length ≤ maxLen
/-- What may be read stands in old blocks. -/
def InsIn (e : Mw) (pi : Option Addr) (l : List Int) : Prop := ∀ i (h : i < l.length), ∃ a, pi = some a ∧ a.block < e.S ∧ a.block ≠ e.B ∧ a.block ≠ e.M ∧ e.a.cell? (a.add i) = some (.int .i64 (l[i]'h))
structure MAt (e : Mw) (m : Mac) (pi : Option Addr) (ci : Nat) (po : Option Addr) (co nm : Nat) (w : World) : Prop where
  hb : w.heap[e.B]? = some (.cells (cellsM e (.slice pi m.ins.length ci) (.slice po m.out.length co) m).toArray 68 (0, 0))
  fr : Fr e.S e.X e.a w
  mem : NMap w e.M nm m.mem
  nm : nm ≤ m.steps
  ol : m.out.length ≤ m.steps
  out : w.ownsRow e.S 3 1 (.slice po m.out.length co) m.out.length (m.out.flatMap cellsN)
  ins : InsIn e pi m.ins
  ic : m.ins.length ≤ ci ∧ ci ≤ 9223372036854775807
  bel : Below e.z.heap.size e.z w
  good : GoodM e.L m
def MSp (e : Mw) (m : Mac) (w : World) : Prop := ∃ pi ci po co nm, MAt e m pi ci po co nm w ∧ nm + 1 ≤ m.steps ∧ m.out.length + 1 ≤ m.steps
def MS (e : Mw) (m : Mac) (w : World) : Prop := ∃ pi ci po co nm, MAt e m pi ci po co nm w
end Go.Proofs.YtjimeengkfjihaaGreatDoor
/- The machine: what is read, what is written. -/
namespace Go.Proofs.YtjimeengkfjihaaGreatDoor
open Go.ChangeShapes Go.WideShapes Go.ChangeAt Go.RowKit
set_option linter.unusedVariables false
theorem own_far_m {w : World} {base : Nat} {e : TypeId} {k : Nat} {v : Value} {n : Nat} {xs : List Value} (h : w.ownsRow base e k v n xs) {b o : Nat} {x : Value} (hb : v.ownBlock ≠ some b) : (w.setCell ⟨b, o, none⟩ x).ownsRow base e k v n xs := by
  refine ⟨h.1, ?_⟩
  rcases h.2 with h | ⟨g0, cap, cur, h1, h2, h3, h4⟩
  · exact .inl h
  · exact .inr ⟨g0, cap, cur, h1, h2, (heap_setCell_other _ _ _ _ (by show g0 ≠ b; intro e; exact hb (by rw [h1, ← e]; rfl))).trans h3, h4⟩
theorem frozen_row {w : World} {b : Nat} {cs : Array Value} {t : TypeId} (h : w.heap[b]? = some (.cells cs t (0, 0))) (i : Nat) : w.frozen? ⟨b, i, none⟩ = false := by
  simp [World.frozen?, h]
theorem MAt.lt {e : Mw} {m : Mac} {pi : Option Addr} {ci : Nat} {po : Option Addr} {co nm : Nat} {w : World} (h : MAt e m pi ci po co nm w) : e.B < w.heap.size := (Array.getElem?_eq_some_iff.1 h.hb).1
theorem MAt.ext {e : Mw} {m : Mac} {pi : Option Addr} {ci : Nat} {po : Option Addr} {co nm : Nat} {w w' : World} (h : MAt e m pi ci po co nm w) (g : Below w.heap.size w w') : MAt e m pi ci po co nm w' :=
  ⟨(g.block e.B h.lt).trans h.hb, h.fr.ext g, h.mem.ext g, h.nm, h.ol, own_ext h.out g, h.ins, h.ic, ext_trans h.bel g, h.good⟩
theorem MAt.reg {e : Mw} {m : Mac} {pi : Option Addr} {ci : Nat} {po : Option Addr} {co nm : Nat} {w : World} (h : MAt e m pi ci po co nm w) (r : Nat) (hr : r < 32) : w.cell? ⟨e.B, 4 + r, none⟩ = some (.int .i64 (getR m (r : Int))) := by
  rw [cell_row h.hb]; exact cellsM_reg e _ _ m r hr
theorem MAt.tl {e : Mw} {m : Mac} {pi : Option Addr} {ci : Nat} {po : Option Addr} {co nm : Nat} {w : World} (h : MAt e m pi ci po co nm w) (i : Nat) : w.cell? ⟨e.B, 36 + i, none⟩ = [Value.map (some e.M), .slice pi m.ins.length ci, .int .i64 m.pc, .int .i64 m.stat, .int .i64 m.code, .slice po m.out.length co, .int .i64 m.steps][i]? := by
  rw [cell_row h.hb]; exact cellsM_at e _ _ m i
theorem MAt.c0 {e : Mw} {m : Mac} {pi : Option Addr} {ci : Nat} {po : Option Addr} {co nm : Nat} {w : World} (h : MAt e m pi ci po co nm w) : w.cell? ⟨e.B, 0, none⟩ = some (.slice e.pl e.L.length e.cl) ∧ w.cell? ⟨e.B, 1, none⟩ = some (.slice e.pt e.T.length e.ct) ∧ w.cell? ⟨e.B, 2, none⟩ = some (.map (some e.P)) ∧ w.cell? ⟨e.B, 3, none⟩ = some (.int .i64 e.W) := by
  refine ⟨?_, ?_, ?_, ?_⟩ <;> (rw [cell_row h.hb]; rfl)
theorem MAt.mm {e : Mw} {m : Mac} {pi : Option Addr} {ci : Nat} {po : Option Addr} {co nm : Nat} {w : World} (h : MAt e m pi ci po co nm w) : w.cell? ⟨e.B, 36, none⟩ = some (.map (some e.M)) := h.tl 0
theorem MAt.inn {e : Mw} {m : Mac} {pi : Option Addr} {ci : Nat} {po : Option Addr} {co nm : Nat} {w : World} (h : MAt e m pi ci po co nm w) : w.cell? ⟨e.B, 37, none⟩ = some (.slice pi m.ins.length ci) := h.tl 1
theorem MAt.pc {e : Mw} {m : Mac} {pi : Option Addr} {ci : Nat} {po : Option Addr} {co nm : Nat} {w : World} (h : MAt e m pi ci po co nm w) : w.cell? ⟨e.B, 38, none⟩ = some (.int .i64 m.pc) := h.tl 2
theorem MAt.stat {e : Mw} {m : Mac} {pi : Option Addr} {ci : Nat} {po : Option Addr} {co nm : Nat} {w : World} (h : MAt e m pi ci po co nm w) : w.cell? ⟨e.B, 39, none⟩ = some (.int .i64 m.stat) := h.tl 3
theorem MAt.code {e : Mw} {m : Mac} {pi : Option Addr} {ci : Nat} {po : Option Addr} {co nm : Nat} {w : World} (h : MAt e m pi ci po co nm w) : w.cell? ⟨e.B, 40, none⟩ = some (.int .i64 m.code) := h.tl 4
theorem MAt.outc {e : Mw} {m : Mac} {pi : Option Addr} {ci : Nat} {po : Option Addr} {co nm : Nat} {w : World} (h : MAt e m pi ci po co nm w) : w.cell? ⟨e.B, 41, none⟩ = some (.slice po m.out.length co) := h.tl 5
theorem MAt.stepc {e : Mw} {m : Mac} {pi : Option Addr} {ci : Nat} {po : Option Addr} {co nm : Nat} {w : World} (h : MAt e m pi ci po co nm w) : w.cell? ⟨e.B, 42, none⟩ = some (.int .i64 m.steps) := h.tl 6
theorem MAt.fz {e : Mw} {m : Mac} {pi : Option Addr} {ci : Nat} {po : Option Addr} {co nm : Nat} {w : World} (h : MAt e m pi ci po co nm w) (i : Nat) : w.frozen? ⟨e.B, i, none⟩ = false := frozen_row h.hb i
/-- A store into the machine itself. -/
theorem MAt.store {e : Mw} (ok : e.Ok) {m m' : Mac} {pi pi' : Option Addr} {ci ci' : Nat} {po : Option Addr} {co nm : Nat} {w : World} (h : MAt e m pi ci po co nm w) {i : Nat} {v : Value}
    (hc : (cellsM e (.slice pi m.ins.length ci) (.slice po m.out.length co) m).toArray.setIfInBounds i v = (cellsM e (.slice pi' m'.ins.length ci') (.slice po m'.out.length co) m').toArray)
    (h1 : m'.mem = m.mem) (h2 : InsIn e pi' m'.ins) (h5 : m'.ins.length ≤ ci' ∧ ci' ≤ 9223372036854775807) (h3 : m'.out = m.out) (h4 : m.steps ≤ m'.steps) (hg : GoodM e.L m') : MAt e m' pi' ci' po co nm (w.setCell ⟨e.B, i, none⟩ v) :=
  ⟨(heap_setCell_same _ _ i _ _ _ h.hb).trans (by rw [hc]), h.fr.set (.inl (.inl rfl)) _, by
    rw [h1]
    exact h.mem.same (heap_setCell_other _ _ _ _ (by show e.M ≠ e.B; exact fun k => ok.bm k.symm)), Nat.le_trans h.nm h4, by rw [h3]; exact Nat.le_trans h.ol h4, by
    rw [h3]
    exact own_far_m h.out (fun k => by have := (h.out.lt _ k).1; have := ok.bb; have := ok.bs; omega), h2, h5, ext_set h.bel (by show e.z.heap.size ≤ e.B; exact ok.bz) _, hg⟩
theorem MAt.toR {e : Mw} (ok : e.Ok) {m : Mac} {pi : Option Addr} {ci : Nat} {po : Option Addr} {co nm : Nat} {w : World} (h : MAt e m pi ci po co nm w) (r : Nat) (hr : r < 32) {v : Int} (hv : I64 v) : MAt e (setR m (r : Int) v) pi ci po co nm (w.setCell ⟨e.B, 4 + r, none⟩ (.int .i64 v)) :=
  h.store ok (cellsM_setR e _ _ m r hr v) rfl h.ins h.ic rfl (Nat.le_refl _) (setR_good h.good _ hv)
theorem MAt.toPc {e : Mw} (ok : e.Ok) {m : Mac} {pi : Option Addr} {ci : Nat} {po : Option Addr} {co nm : Nat} {w : World} (h : MAt e m pi ci po co nm w) {k : Nat} (hk : k ≤ e.L.length) : MAt e { m with pc := k } pi ci po co nm (w.setCell ⟨e.B, 38, none⟩ (.int .i64 (k : Int))) :=
  h.store ok (cellsM_pc e _ _ m k) rfl h.ins h.ic rfl (Nat.le_refl _) ⟨h.good.regs, h.good.mem, h.good.ins, hk⟩
theorem MAt.toStat {e : Mw} (ok : e.Ok) {m : Mac} {pi : Option Addr} {ci : Nat} {po : Option Addr} {co nm : Nat} {w : World} (h : MAt e m pi ci po co nm w) (k : Int) : MAt e { m with stat := k } pi ci po co nm (w.setCell ⟨e.B, 39, none⟩ (.int .i64 k)) :=
  h.store ok (cellsM_stat e _ _ m k) rfl h.ins h.ic rfl (Nat.le_refl _) ⟨h.good.regs, h.good.mem, h.good.ins, h.good.pc⟩
theorem MAt.toCode {e : Mw} (ok : e.Ok) {m : Mac} {pi : Option Addr} {ci : Nat} {po : Option Addr} {co nm : Nat} {w : World} (h : MAt e m pi ci po co nm w) (k : Int) : MAt e { m with code := k } pi ci po co nm (w.setCell ⟨e.B, 40, none⟩ (.int .i64 k)) :=
  h.store ok (cellsM_code e _ _ m k) rfl h.ins h.ic rfl (Nat.le_refl _) ⟨h.good.regs, h.good.mem, h.good.ins, h.good.pc⟩
theorem MAt.toSteps {e : Mw} (ok : e.Ok) {m : Mac} {pi : Option Addr} {ci : Nat} {po : Option Addr} {co nm : Nat} {w : World} (h : MAt e m pi ci po co nm w) {k : Nat} (hk : m.steps ≤ k) : MAt e { m with steps := k } pi ci po co nm (w.setCell ⟨e.B, 42, none⟩ (.int .i64 (k : Int))) :=
  h.store ok (cellsM_steps e _ _ m k) rfl h.ins h.ic rfl hk ⟨h.good.regs, h.good.mem, h.good.ins, h.good.pc⟩
theorem MS.ext {e : Mw} {m : Mac} {w w' : World} (h : MS e m w) (g : Below w.heap.size w w') : MS e m w' := by
  obtain ⟨pi, ci, po, co, nm, h⟩ := h
  exact ⟨pi, ci, po, co, nm, h.ext g⟩
theorem MSp.ms {e : Mw} {m : Mac} {w : World} (h : MSp e m w) : MS e m w := by
  obtain ⟨pi, ci, po, co, nm, h, _⟩ := h
  exact ⟨pi, ci, po, co, nm, h⟩
set_option maxRecDepth 100000 in
theorem fault_m {e : Mw} (ok : e.Ok) {m : Mac} {w : World} (h : MS e m w) : Calls Tryz.prog 84 #[.pointer (some ⟨e.B, 0, none⟩)] w fun r w' => r = .returned (.tuple #[]) ∧ MS e (faultM m) w' := by
  obtain ⟨pi, ci, po, co, nm, h⟩ := h
  have c1 := h.stat
  have f1 := h.fz 39
  have HR : Hid (MS e (faultM m) (w.setCell ⟨e.B, 39, none⟩ (.int .i64 6))) := Lib.hid ⟨_, _, _, _, _, h.toStat ok 6⟩
  have hl := h.lt
  clear h
  go_enter Tryz.func84, Tryz.ntmps84
  go_wp2
  go_end0
  exact ⟨rfl, HR.out⟩
end Go.Proofs.YtjimeengkfjihaaGreatDoor
/- The machine's small functions. -/
namespace Go.Proofs.YtjimeengkfjihaaGreatDoor
open Go.ChangeShapes Go.WideShapes Go.ChangeAt Go.RowKit
set_option linter.unusedVariables false
def endM (m : Mac) (s : Int) : Mac := if s = 2 ∨ s = 3 ∨ s = 4 then { m with stat := s } else faultM m
set_option maxRecDepth 100000 in
theorem end_m {e : Mw} (ok : e.Ok) {m : Mac} {w : World} (h : MS e m w) (s : Int) : Calls Tryz.prog 86 #[.pointer (some ⟨e.B, 0, none⟩), .int .i64 s] w fun r w' => r = .returned (.tuple #[]) ∧ MS e (endM m s) w' := by
  have HF := Lib.hid (fault_m ok h)
  obtain ⟨pi, ci, po, co, nm, h⟩ := h
  have c1 := h.stat
  have f1 := h.fz 39
  have HR : Hid (s = 2 ∨ s = 3 ∨ s = 4 → MS e (endM m s) (w.setCell ⟨e.B, 39, none⟩ (.int .i64 s))) := Lib.hid (fun k => by unfold endM; rw [if_pos k]; exact ⟨_, _, _, _, _, h.toStat ok s⟩)
  have HE : Hid (¬ (s = 2 ∨ s = 3 ∨ s = 4) → endM m s = faultM m) := Lib.hid (fun k => by unfold endM; rw [if_neg k])
  have hl := h.lt
  clear h
  by_cases h2 : s = 2
  · subst h2
    go_enter Tryz.func86, Tryz.ntmps86
    go_wp2
    go_end0
    exact ⟨rfl, HR.out (by simp)⟩
  by_cases h3 : s = 3
  · subst h3
    clear h2
    go_enter Tryz.func86, Tryz.ntmps86
    go_wp2
    go_end0
    exact ⟨rfl, HR.out (by simp)⟩
  by_cases h4 : s = 4
  · subst h4
    clear h2 h3
    go_enter Tryz.func86, Tryz.ntmps86
    go_wp2
    go_end0
    exact ⟨rfl, HR.out (by simp)⟩
  have e2 : (s == 2) = false := beq_eq_false_iff_ne.2 h2
  have e3 : (s == 3) = false := beq_eq_false_iff_ne.2 h3
  have e4 : (s == 4) = false := beq_eq_false_iff_ne.2 h4
  have HE2 := Lib.hid (HE.out (by omega))
  clear h2 h3 h4
  go_enter Tryz.func86, Tryz.ntmps86
  go_wp2_with fail
  refine HF.out.mono ?_; rintro r w' ⟨rfl, g⟩
  have G := Lib.hid g
  clear g
  go_wp2
  go_end0
  exact ⟨rfl, by rw [HE2.out]; exact G.out⟩
set_option maxRecDepth 100000 in
theorem turn_m {e : Mw} (ok : e.Ok) {m : Mac} {w : World} (h : MS e m w) (x : In) (does : Bool) (hp : 1 ≤ m.pc) {k : Nat} (hk : e.T.getD (m.pc - 1) 0 = (k : Int)) (hkl : k ≤ e.L.length) : Calls Tryz.prog 44 #[.pointer (some ⟨e.B, 0, none⟩), inV x, .bool does] w fun r w' => r = .returned (.tuple #[]) ∧ MS e (turnM e.T m does) w' := by
  obtain ⟨pi, ci, po, co, nm, h⟩ := h
  cases does
  · have HR : Hid (MS e (turnM e.T m false) (w.alloc (.cells #[.int .i64 x.op, .int .i64 x.d, .int .i64 x.a, .int .i64 x.b, .int .i64 x.n, .string (mk x.name)] 39))) := Lib.hid ⟨_, _, _, _, _, h.ext (ext_alloc (Below.refl _ _) _)⟩
    clear h
    unfold inV
    go_enter Tryz.func44, Tryz.ntmps44
    go_wp2
    go_end0
    exact ⟨rfl, HR.out⟩
  · have hpl : m.pc - 1 < e.T.length := by have := h.good.pc; rw [ok.good.tos]; omega
    have hkk : e.T[m.pc - 1]'hpl = (k : Int) := by rw [← hk, List.getD_eq_getElem?_getD, List.getElem?_eq_getElem hpl]; rfl
    have hrt := h.fr.own ok.rt (fun b hb => ⟨ok.rtS b hb, by have := (ok.rt.lt b hb).1; have := ok.bb; have := ok.mb; unfold Mw.X; omega⟩)
    have HRES : Hid (MS e (turnM e.T m true) (w.setCell ⟨e.B, 38, none⟩ (.int .i64 (k : Int)))) := Lib.hid ⟨_, _, _, _, _, by
      have := h.toPc ok hkl
      unfold turnM
      rw [if_pos rfl, hk]
      exact this⟩
    have c0 := h.c0.2.1
    have c1a := h.pc
    have f1 := h.fz 38
    have hl := h.lt
    have hpc := h.good.pc
    have hlen := ok.good.len
    have htl := ok.good.tos
    generalize e.T = T at *
    obtain ⟨_, p', c', hq, hc⟩ := row_get lenN (by decide) hrt
    obtain ⟨g, hg, _, hcg⟩ := hc _ hpl
    injection hq with hq1 _ hq2
    rw [hq1, hg] at c0
    have r0 : w.cell? ⟨g, m.pc - 1, none⟩ = some (.int .i64 (k : Int)) := by
      have := hcg 0 (by decide)
      rw [Nat.mul_one, hkk] at this
      exact this
    have hgl : g < w.heap.size := at_lt r0
    obtain ⟨q, hq⟩ : ∃ q, m.pc = q + 1 := ⟨m.pc - 1, by omega⟩
    have c1 : w.cell? ⟨e.B, 38, none⟩ = some (.int .i64 ((q : Int) + 1)) := by rw [c1a, hq]; rfl
    have r0 : w.cell? ⟨g, q, none⟩ = some (.int .i64 (k : Int)) := by rw [hq] at r0; exact r0
    have hqT : (q : Int) < (T.length : Int) := by omega
    have hTb : T.length ≤ 40000 := by rw [htl]; exact hlen
    have hqb : q ≤ 40000 := by omega
    clear c1a h hp hk hkl hkk hrt hc hcg hq1 hq2 hg hpl hpc hlen htl hq ok
    have hw1 : IntKind.i64.wrap ((q : Int) + 1 - 1) = (q : Int) := by rw [IntWalk.i64_in _ (by omega)]; omega
    have hw2 : IntKind.i64.wrap (q : Int) = (q : Int) := IntWalk.i64_in _ (by omega)
    have hq0 : (0 : Int) ≤ (q : Int) := by omega
    unfold inV
    go_enter Tryz.func44, Tryz.ntmps44
    go_wp2_with fail
    go_region
    go_wp2_with fail
    go_end0
    exact ⟨rfl, HRES.out.ext (ext_drew (ext_alloc (Below.refl _ _) _))⟩
theorem readM_eq (m : Mac) : readM m = setR { m with ins := m.ins.tail } 10 (m.ins.headD (-1)) := by
  obtain ⟨r, me, ins, p, s, c, o, st⟩ := m
  cases ins <;> rfl
set_option maxRecDepth 100000 in
theorem read_m {e : Mw} (ok : e.Ok) {m : Mac} {w : World} (h : MS e m w) : Calls Tryz.prog 85 #[.pointer (some ⟨e.B, 0, none⟩)] w fun r w' => r = .returned (.int .i64 (m.ins.headD (-1))) ∧ MS e { m with ins := m.ins.tail } w' := by
  obtain ⟨pi, ci, po, co, nm, h⟩ := h
  have hl := h.lt
  cases hi : m.ins with
  | nil =>
    have HR : Hid (MS e { m with ins := [] } w) := Lib.hid (by
      have : { m with ins := [] } = m := by rw [← hi]
      rw [this]; exact ⟨_, _, _, _, _, h⟩)
    have c1 := h.inn
    rw [hi] at c1
    clear h
    go_enter Tryz.func85, Tryz.ntmps85
    go_wp2
    go_ret
    exact ⟨rfl, HR.out⟩
  | cons x r =>
    have c1 := h.inn
    have f1 := h.fz 37
    have hii := h.ins
    have hic := h.ic
    unfold InsIn at hii
    rw [hi] at c1 hic
    obtain ⟨a, ha, hab, haB, haM, hac⟩ := hii 0 (by rw [hi]; simp)
    have hrest : ∀ i (hh : i < r.length), a.block < e.S ∧ a.block ≠ e.B ∧ a.block ≠ e.M ∧ e.a.cell? (a.add (i + 1)) = some (.int .i64 (r[i]'hh)) := fun i hh => by
      obtain ⟨a', ha', h1, h2, h3, h4⟩ := hii (i + 1) (by rw [hi]; simpa using hh)
      rw [ha] at ha'
      injection ha' with ha'
      subst ha'
      refine ⟨h1, h2, h3, h4.trans ?_⟩
      simp [hi]
    have hx0 : w.cell? a = some (.int .i64 x) := by
      have e0 : e.a.cell? a = some (.int .i64 x) := by
        have := hac
        rw [Addr.add_zero'] at this
        simpa [hi] using this
      have hb := h.fr.block a.block hab (fun k => k.elim haB haM)
      unfold World.cell? at e0 ⊢
      rw [hb]
      exact e0
    subst ha
    have hal : a.block < w.heap.size := at_lt hx0
    have hr1 : r.length + 1 ≤ ci := by simpa using hic.1
    have hr2 : ci ≤ 9223372036854775807 := hic.2
    have c1' : w.cell? ⟨e.B, 37, none⟩ = some (.slice (some a) (r.length + 1) ci) := c1
    by_cases hc : ci = 1
    · subst hc
      obtain rfl : r = [] := List.eq_nil_of_length_eq_zero (by omega)
      have HR : Hid (MS e { m with ins := [] } (w.setCell ⟨e.B, 37, none⟩ (.slice (some a) 0 0))) := Lib.hid ⟨some a, 0, po, co, nm, h.store ok (m' := { m with ins := [] }) (cellsM_in e _ _ _ m []) rfl (fun i hh => by cases hh) ⟨Nat.le_refl _, by decide⟩ rfl (Nat.le_refl _) ⟨h.good.regs, h.good.mem, fun v hv => (by cases hv), h.good.pc⟩⟩
      clear h hii hic hac hrest c1 hi
      go_enter Tryz.func85, Tryz.ntmps85
      go_wp2
      go_ret
      exact ⟨rfl, HR.out⟩
    · have HR : Hid (MS e { m with ins := r } (w.setCell ⟨e.B, 37, none⟩ (.slice (some (a.add 1)) r.length (ci - 1)))) := Lib.hid ⟨some (a.add 1), ci - 1, po, co, nm, h.store ok (m' := { m with ins := r }) (cellsM_in e _ _ _ m r) rfl (fun i hh => by
        obtain ⟨h1, h2, h3, h4⟩ := hrest i hh
        refine ⟨a.add 1, rfl, ?_, ?_, ?_, ?_⟩
        · show (a.add 1).block < _; rw [Addr.add_succ']; exact h1
        · rw [Addr.add_succ']; exact h2
        · rw [Addr.add_succ']; exact h3
        · rw [Addr.add_add, Nat.add_comm 1 i]; exact h4) (show r.length ≤ ci - 1 ∧ ci - 1 ≤ 9223372036854775807 from ⟨by omega, by omega⟩) rfl (Nat.le_refl _) ⟨h.good.regs, h.good.mem, fun v hv => h.good.ins v (by rw [hi]; exact List.mem_cons_of_mem _ hv), h.good.pc⟩⟩
      have hc1 : 1 ≤ ci := by omega
      have hcb : ((ci : Int) == 1) = false := beq_eq_false_iff_ne.2 (by omega)
      clear h hii hic hac hrest c1 hi
      go_enter Tryz.func85, Tryz.ntmps85
      go_wp2
      go_ret
      exact ⟨rfl, HR.out⟩
end Go.Proofs.YtjimeengkfjihaaGreatDoor
/- What the machine reckons. -/
namespace Go.Proofs.YtjimeengkfjihaaGreatDoor
open Go.ChangeShapes Go.WideShapes Go.ChangeAt Go.RowKit
set_option linter.unusedVariables false
theorem number_m (W p : Int) (w : World) (h0 : 0 ≤ W) (h1 : W ≤ 1099511627776) (hp : I64 p) : Calls Tryz.prog 38 #[.int .i64 W, .int .i64 p] w fun e w' => e = .returned (.int .i64 (wordN W p)) ∧ w = w' := by
  obtain ⟨p1, p2⟩ := hp
  by_cases hneg : p < 0
  · by_cases h8 : p % 8 = 0
    · have hm : p.tmod 8 = 0 := Int.tmod_eq_zero_of_dvd (Int.dvd_of_emod_eq_zero h8)
      have hm2 : (p.tmod 8 == 0) = true := beq_iff_eq.2 hm
      have hm3 : (p.tmod 8 != 0) = false := by simp [hm]
      have E : Hid (wordN W p = -1) := Lib.hid (by unfold wordN; rw [if_neg (by omega), if_neg (by omega), if_neg (by omega)])
      clear h8 hm
      go_enter Tryz.func38, Tryz.ntmps38
      go_wp2
      go_ret
      exact ⟨by rw [E.out]; rfl, rfl⟩
    · have hm : p.tmod 8 ≠ 0 := fun k => h8 (by
        have := Int.emod_eq_zero_of_dvd (Int.dvd_of_tmod_eq_zero k)
        omega)
      have hm2 : (p.tmod 8 == 0) = false := beq_eq_false_iff_ne.2 hm
      have hm3 : (p.tmod 8 != 0) = true := bne_iff_ne.2 hm
      have E : Hid (wordN W p = -1) := Lib.hid (by unfold wordN; rw [if_pos h8])
      clear h8 hm
      go_enter Tryz.func38, Tryz.ntmps38
      go_wp2
      go_ret
      exact ⟨by rw [E.out]; rfl, rfl⟩
  · have hp0 : 0 ≤ p := by omega
    by_cases h8 : p % 8 = 0
    · have hm2 : (p % 8 == 0) = true := beq_iff_eq.2 h8
      have hm3 : (p % 8 != 0) = false := by simp [h8]
      by_cases ha : 65536 ≤ p ∧ p < 65536 + 8 * W
      · have E : Hid (wordN W p = (p - 65536) / 8) := Lib.hid (by unfold wordN; rw [if_neg (by omega), if_pos ha])
        obtain ⟨ha1, ha2⟩ := ha
        clear h8
        go_enter Tryz.func38, Tryz.ntmps38
        go_wp2
        go_ret
        exact ⟨by rw [E.out]; rfl, rfl⟩
      · by_cases hs : 1073709056 ≤ p ∧ p < 1073741824
        · have E : Hid (wordN W p = W + (p - 1073709056) / 8) := Lib.hid (by unfold wordN; rw [if_neg (by omega), if_neg ha, if_pos hs])
          obtain ⟨hs1, hs2⟩ := hs
          have ha1 : 65536 ≤ p := by omega
          have ha2 : ¬ p < 65536 + 8 * W := fun k => ha ⟨ha1, k⟩
          clear h8 ha
          go_enter Tryz.func38, Tryz.ntmps38
          go_wp2
          go_ret
          exact ⟨by rw [E.out]; rfl, rfl⟩
        · have E : Hid (wordN W p = -1) := Lib.hid (by unfold wordN; rw [if_neg (by omega), if_neg ha, if_neg hs])
          clear h8
          by_cases ha1 : 65536 ≤ p
          · have ha2 : ¬ p < 65536 + 8 * W := fun k => ha ⟨ha1, k⟩
            clear ha
            by_cases hs1 : 1073709056 ≤ p
            · have hs2 : ¬ p < 1073741824 := fun k => hs ⟨hs1, k⟩
              clear hs
              go_enter Tryz.func38, Tryz.ntmps38
              go_wp2
              go_ret
              exact ⟨by rw [E.out]; rfl, rfl⟩
            · clear hs
              go_enter Tryz.func38, Tryz.ntmps38
              go_wp2
              go_ret
              exact ⟨by rw [E.out]; rfl, rfl⟩
          · have hs1 : ¬ 1073709056 ≤ p := by omega
            clear ha hs
            go_enter Tryz.func38, Tryz.ntmps38
            go_wp2
            go_ret
            exact ⟨by rw [E.out]; rfl, rfl⟩
    · have hm2 : (p % 8 == 0) = false := beq_eq_false_iff_ne.2 h8
      have hm3 : (p % 8 != 0) = true := bne_iff_ne.2 h8
      have E : Hid (wordN W p = -1) := Lib.hid (by unfold wordN; rw [if_pos h8])
      clear h8
      go_enter Tryz.func38, Tryz.ntmps38
      go_wp2
      go_ret
      exact ⟨by rw [E.out]; rfl, rfl⟩
theorem mbit_any (c : Bool) (w : World) : Calls Tryz.prog 87 #[.bool c] w fun e w' => e = .returned (.int .i64 (bi c)) ∧ w = w' := by
  cases c
  all_goals
    go_enter Tryz.func87, Tryz.ntmps87
    go_wp2
    go_ret
    exact ⟨rfl, rfl⟩
theorem operator_any (op : Int) (w : World) : Calls Tryz.prog 88 #[.int .i64 op] w fun e w' => e = .returned (.int .i64 (opN op)) ∧ w = w' := by
  by_cases h : op = 1 ∨ op = 2 ∨ op = 3 ∨ op = 6 ∨ op = 7 ∨ op = 8 ∨ op = 9 ∨ op = 10
  · rcases h with rfl | rfl | rfl | rfl | rfl | rfl | rfl | rfl
    all_goals
      go_enter Tryz.func88, Tryz.ntmps88
      go_wp2
      go_ret
      exact ⟨rfl, rfl⟩
  · have e1 : (op == 1) = false := beq_eq_false_iff_ne.2 (by omega)
    have e2 : (op == 2) = false := beq_eq_false_iff_ne.2 (by omega)
    have e3 : (op == 3) = false := beq_eq_false_iff_ne.2 (by omega)
    have e6 : (op == 6) = false := beq_eq_false_iff_ne.2 (by omega)
    have e7 : (op == 7) = false := beq_eq_false_iff_ne.2 (by omega)
    have e8 : (op == 8) = false := beq_eq_false_iff_ne.2 (by omega)
    have e9 : (op == 9) = false := beq_eq_false_iff_ne.2 (by omega)
    have e10 : (op == 10) = false := beq_eq_false_iff_ne.2 (by omega)
    have E : Hid (opN op = 11) := Lib.hid (by unfold opN; repeat rw [if_neg (by omega)])
    clear h
    go_enter Tryz.func88, Tryz.ntmps88
    go_wp2
    go_ret
    exact ⟨by rw [E.out]; rfl, rfl⟩
theorem not_beq {a b : Int} (h : a ≠ b) : (a == b) = false := beq_eq_false_iff_ne.2 h
set_option maxHeartbeats 1000000 in
set_option maxRecDepth 100000 in
theorem made_any (x : In) (a b : Int) (w : World) : Calls Tryz.prog 47 #[inV x, .int .i64 a, .int .i64 b] w fun e w' => e = .returned (.int .i64 (madeI x.op x.n a b)) ∧ Below w.heap.size w w' := by
  obtain ⟨op, d, ra, rb, n, name⟩ := x
  unfold inV
  simp only
  by_cases h4 : op = 4
  · subst h4
    have E : Hid (madeI 4 n a b = divV a b) := Lib.hid rfl
    go_enter Tryz.func47, Tryz.ntmps47
    go_wp2_with (go_at_call 21; refine (div_any _ _ _).mono ?_; rintro e w' ⟨rfl, rfl⟩)
    go_ret
    exact ⟨by rw [E.out]; rfl, ext_alloc (Below.refl _ _) _⟩
  by_cases h5 : op = 5
  · subst h5
    clear h4
    have E : Hid (madeI 5 n a b = remV a b) := Lib.hid rfl
    go_enter Tryz.func47, Tryz.ntmps47
    go_wp2_with (go_at_call 22; refine (rem_any _ _ _).mono ?_; rintro e w' ⟨rfl, rfl⟩)
    go_ret
    exact ⟨by rw [E.out]; rfl, ext_alloc (Below.refl _ _) _⟩
  by_cases h12 : op = 12
  · subst h12
    clear h4 h5
    have E : Hid (madeI 12 n a b = bi (lessV a b)) := Lib.hid rfl
    go_enter Tryz.func47, Tryz.ntmps47
    go_wp2_with (first | (go_at_call 23; refine (less_any _ _ _).mono ?_; rintro e w' ⟨rfl, rfl⟩) | (go_at_call 87; refine (mbit_any _ _).mono ?_; rintro e w' ⟨rfl, rfl⟩))
    go_ret
    exact ⟨by rw [E.out]; rfl, ext_alloc (Below.refl _ _) _⟩
  by_cases h13 : op = 13
  · subst h13
    clear h4 h5 h12
    have E : Hid (madeI 13 n a b = bi (a == 0)) := Lib.hid rfl
    go_enter Tryz.func47, Tryz.ntmps47
    go_wp2_with (go_at_call 87; refine (mbit_any _ _).mono ?_; rintro e w' ⟨rfl, rfl⟩)
    go_ret
    exact ⟨by rw [E.out]; rfl, ext_alloc (Below.refl _ _) _⟩
  by_cases h14 : op = 14
  · subst h14
    clear h4 h5 h12 h13
    have E : Hid (madeI 14 n a b = bi (a != 0)) := Lib.hid rfl
    go_enter Tryz.func47, Tryz.ntmps47
    go_wp2_with (go_at_call 87; refine (mbit_any _ _).mono ?_; rintro e w' ⟨rfl, rfl⟩)
    go_ret
    exact ⟨by rw [E.out]; rfl, ext_alloc (Below.refl _ _) _⟩
  by_cases h15 : op = 15
  · subst h15
    clear h4 h5 h12 h13 h14
    have E : Hid (madeI 15 n a b = a) := Lib.hid rfl
    go_enter Tryz.func47, Tryz.ntmps47
    go_wp2
    go_ret
    exact ⟨by rw [E.out]; rfl, ext_alloc (Below.refl _ _) _⟩
  by_cases h16 : op = 16
  · subst h16
    clear h4 h5 h12 h13 h14 h15
    have E : Hid (madeI 16 n a b = n) := Lib.hid rfl
    go_enter Tryz.func47, Tryz.ntmps47
    go_wp2
    go_ret
    exact ⟨by rw [E.out]; rfl, ext_alloc (Below.refl _ _) _⟩
  by_cases h18 : op = 18
  · subst h18
    clear h4 h5 h12 h13 h14 h15 h16
    have E : Hid (madeI 18 n a b = wrap64 (a + n)) := Lib.hid rfl
    go_enter Tryz.func47, Tryz.ntmps47
    go_wp2
    go_ret
    exact ⟨by rw [E.out]; rfl, ext_alloc (Below.refl _ _) _⟩
  have E : Hid (madeI op n a b = twoV (opN op) a b) := Lib.hid (by unfold madeI; rw [if_neg h4, if_neg h5, if_neg h12, if_neg h13, if_neg h14, if_neg h15, if_neg h16, if_neg h18])
  have h4 := not_beq h4
  have h5 := not_beq h5
  have h12 := not_beq h12
  have h13 := not_beq h13
  have h14 := not_beq h14
  have h15 := not_beq h15
  have h16 := not_beq h16
  have h18 := not_beq h18
  go_enter Tryz.func47, Tryz.ntmps47
  go_wp2_with (first | (go_at_call 88; refine (operator_any _ _).mono ?_; rintro e w' ⟨rfl, rfl⟩) | (go_at_call 25; refine (two_any _ _ _ _).mono ?_; rintro e w1 ⟨rfl, g1⟩))
  go_ret
  exact ⟨by rw [E.out]; rfl, ext_trans (ext_alloc (Below.refl _ _) _) g1⟩
end Go.Proofs.YtjimeengkfjihaaGreatDoor
