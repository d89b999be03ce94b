/- What holds while a text is parsed. -/
import Derived.Test.YtlaihjefmhcmcaaGreatDoorRows
import Derived.WalkKit
import Derived.ProofKit
import Derived.OpenShut
import Derived.WalkLawsBesides
import Derived.WalkSpells
import Derived.Outline
import Derived.Handy
import Derived.Lib.Hide
import Derived.Lib.OthersKept
import Derived.KernelRfl
import Derived.Carry
import Derived.OwnWalk
import Derived.Test.YtlaihjefmhcmcaaGreatDoorAs2
import Derived.Test.YtlaihjefmhcmcaaGreatDoorAsY
import Derived.Test.YtlaihjefmhcmcaaGreatDoorRow
import Derived.Test.YtlaihjefmhcmcaaGreatDoorInG
namespace Go.Proofs.YtlaihjefmhcmcaaGreatDoor
open Go.ChangeShapes Go.WideShapes Go.ChangeAt Go.RowKit
set_option linter.unusedVariables false
theorem own_apart {w : World} {base base' : Nat} {e e' : TypeId} {k k' : Nat} {v v' : Value} {n n' : Nat} {xs xs' : List Value} (h : w.ownsRow base e k v n xs) (h' : w.ownsRow base' e' k' v' n' xs') (he : e' ≠ e) : v'.ownBlock = none ∨ v'.ownBlock ≠ v.ownBlock := by
  rcases h'.2 with ⟨rfl, _⟩ | ⟨g', cap', cur', rfl, _, hg', _⟩
  · exact .inl rfl
  · refine .inr fun hk => ?_
    rcases h.2 with ⟨rfl, _⟩ | ⟨g, cap, cur, rfl, _, hg, _⟩
    · cases hk
    · injection hk with hk
      have hk2 : g' = g := hk
      rw [hk2, hg] at hg'
      injection hg' with hg'
      injection hg' with _ h2 _
      exact he h2.symm
theorem own_set {w : World} {base : Nat} {e : TypeId} {k : Nat} {v : Value} {n : Nat} {xs : List Value} (h : w.ownsRow base e k v n xs) {b o : Nat} {x : Value} (hb : b < base) : (w.setCell ⟨b, o, none⟩ x).ownsRow base e k v n xs := by
  refine ⟨h.1, ?_⟩
  rcases h.2 with h | ⟨g0, cap, cur, h1, h2, h3, h4⟩
  · exact .inl h
  · exact .inr ⟨g0, cap, cur, h1, h2, (heap_setCell_other _ _ _ _ (by show g0 ≠ b; omega)).trans h3, h4⟩
def pcCells (P : List (List UInt8)) : Array Value := (P.map fun p => Value.string (mk p)).toArray
structure PInv (w wr : World) (P : List (List UInt8)) (st : Ps) (va vl vf : Value) : Prop where
  of ::
  b2 : wr.heap[w.heap.size]? = some (.cells #[.slice none 0 0, .slice none 0 0] 27 (0, 0))
  b5 : wr.heap[w.heap.size + 1]? = some (.cells #[va, vl] 27 (0, 0))
  pc : wr.heap[w.heap.size + 2]? = some (.cells (pcCells P) 9 (0, 0))
  ra : wr.ownsRow (w.heap.size + 3) 44 2 va st.arrs.length (st.arrs.flatMap cellsA)
  rl : wr.ownsRow (w.heap.size + 3) 48 7 vl st.lns.length (st.lns.flatMap cellsL)
  rf : wr.ownsRow (w.heap.size + 3) 3 1 vf st.fr.length (st.fr.flatMap cellsN)
  bl : Below w.heap.size w wr
theorem PInv.sz {w wr : World} {P : List (List UInt8)} {st : Ps} {va vl vf : Value} (h : PInv w wr P st va vl vf) : w.heap.size + 2 < wr.heap.size := (Array.getElem?_eq_some_iff.1 h.pc).1
theorem PInv.ext {w wr wx : World} {P : List (List UInt8)} {st : Ps} {va vl vf : Value} (h : PInv w wr P st va vl vf) (g : Below wr.heap.size wr wx) : PInv w wx P st va vl vf :=
  ⟨(g.block _ (by have := h.sz; omega)).trans h.b2, (g.block _ (by have := h.sz; omega)).trans h.b5, (g.block _ h.sz).trans h.pc, own_ext h.ra g, own_ext h.rl g, own_ext h.rf g, ext_trans h.bl g⟩
theorem PInv.start (w : World) (P : List (List UInt8)) : PInv w (((w.alloc (.cells #[.slice none 0 0, .slice none 0 0] 27)).alloc (.cells #[.slice none 0 0, .slice none 0 0] 27)).alloc (.cells (pcCells P) 9)) P ⟨[], [], []⟩ (.slice none 0 0) (.slice none 0 0) (.slice none 0 0) := by
  refine ⟨?_, ?_, ?_, World.ownsRow_nil _ _ _ _, World.ownsRow_nil _ _ _ _, World.ownsRow_nil _ _ _ _, ext_alloc (ext_alloc (ext_alloc (Below.refl _ _) _) _) _⟩
  · exact (Lib.alloc_old _ _ _ (by simp; omega)).trans ((Lib.alloc_old _ _ _ (by simp)).trans (heap_new w _))
  · exact (Lib.alloc_old _ _ _ (by simp)).trans (heap_new' _ _ _ (by simp))
  · exact heap_new' _ _ _ (by simp)
theorem PInv.arr {w wr w2 : World} {P : List (List UInt8)} {st : Ps} {va vl vf v' : Value} (h : PInv w wr P st va vl vf) (a : Ar) (hown : w2.ownsRow (w.heap.size + 3) 44 2 v' (st.arrs.length + 1) (st.arrs.flatMap cellsA ++ cellsA a)) (hg : wr.grownBy w2 va.ownBlock) :
    PInv w (w2.setCell ⟨w.heap.size + 1, 0, none⟩ v') P { st with arrs := st.arrs ++ [a] } v' vl vf := by
  have n0 := own_ne h.ra (b := w.heap.size) (by omega)
  have n1 := own_ne h.ra (b := w.heap.size + 1) (by omega)
  have n2 := own_ne h.ra (b := w.heap.size + 2) (by omega)
  have hz := h.sz
  have k : ∀ {e : TypeId} {k n : Nat} {v : Value} {xs : List Value}, w2.ownsRow (w.heap.size + 3) e k v n xs → (w2.setCell ⟨w.heap.size + 1, 0, none⟩ v').ownsRow (w.heap.size + 3) e k v n xs := by
    intro e k n v xs hh
    refine ⟨hh.1, ?_⟩
    rcases hh.2 with h | ⟨g0, cap, cur, h1, h2, h3, h4⟩
    · exact .inl h
    · exact .inr ⟨g0, cap, cur, h1, h2, (heap_setCell_other _ _ _ _ (by show g0 ≠ w.heap.size + 1; omega)).trans h3, h4⟩
  refine ⟨?_, ?_, ?_, ?_, k (h.rl.kept hg (own_apart h.ra h.rl (by decide))), k (h.rf.kept hg (own_apart h.ra h.rf (by decide))), ?_⟩
  · exact (heap_setCell_other _ _ _ _ (by simp)).trans ((hg.block _ (by omega) (fun e => n0 e.symm)).trans h.b2)
  · exact (heap_setCell_same _ _ 0 _ _ _ ((hg.block _ (by omega) (fun e => n1 e.symm)).trans h.b5)).trans rfl
  · exact (heap_setCell_other _ _ _ _ (by simp)).trans ((hg.block _ (by omega) (fun e => n2 e.symm)).trans h.pc)
  · have := k hown
    simpa using this
  · exact ext_set (below_grown h.bl hg (by omega) (fun b hb => by have := (h.ra.lt b hb).1; omega)) (by show w.heap.size ≤ w.heap.size + 1; omega) _
theorem PInv.line {w wr w2 : World} {P : List (List UInt8)} {st : Ps} {va vl vf v' : Value} (h : PInv w wr P st va vl vf) (a : Ln) (hown : w2.ownsRow (w.heap.size + 3) 48 7 v' (st.lns.length + 1) (st.lns.flatMap cellsL ++ cellsL a)) (hg : wr.grownBy w2 vl.ownBlock) :
    PInv w (w2.setCell ⟨w.heap.size + 1, 1, none⟩ v') P { st with lns := st.lns ++ [a] } va v' vf := by
  have n0 := own_ne h.rl (b := w.heap.size) (by omega)
  have n1 := own_ne h.rl (b := w.heap.size + 1) (by omega)
  have n2 := own_ne h.rl (b := w.heap.size + 2) (by omega)
  have hz := h.sz
  have k : ∀ {e : TypeId} {k n : Nat} {v : Value} {xs : List Value}, w2.ownsRow (w.heap.size + 3) e k v n xs → (w2.setCell ⟨w.heap.size + 1, 1, none⟩ v').ownsRow (w.heap.size + 3) e k v n xs := by
    intro e k n v xs hh
    refine ⟨hh.1, ?_⟩
    rcases hh.2 with h | ⟨g0, cap, cur, h1, h2, h3, h4⟩
    · exact .inl h
    · exact .inr ⟨g0, cap, cur, h1, h2, (heap_setCell_other _ _ _ _ (by show g0 ≠ w.heap.size + 1; omega)).trans h3, h4⟩
  refine ⟨?_, ?_, ?_, k (h.ra.kept hg (own_apart h.rl h.ra (by decide))), ?_, k (h.rf.kept hg (own_apart h.rl h.rf (by decide))), ?_⟩
  · exact (heap_setCell_other _ _ _ _ (by simp)).trans ((hg.block _ (by omega) (fun e => n0 e.symm)).trans h.b2)
  · exact (heap_setCell_same _ _ 1 _ _ _ ((hg.block _ (by omega) (fun e => n1 e.symm)).trans h.b5)).trans rfl
  · exact (heap_setCell_other _ _ _ _ (by simp)).trans ((hg.block _ (by omega) (fun e => n2 e.symm)).trans h.pc)
  · have := k hown
    simpa using this
  · exact ext_set (below_grown h.bl hg (by omega) (fun b hb => by have := (h.rl.lt b hb).1; omega)) (by show w.heap.size ≤ w.heap.size + 1; omega) _
theorem PInv.from {w wr w2 : World} {P : List (List UInt8)} {st : Ps} {va vl vf v' : Value} (h : PInv w wr P st va vl vf) (a : Int) (hown : w2.ownsRow (w.heap.size + 3) 3 1 v' (st.fr.length + 1) (st.fr.flatMap cellsN ++ cellsN a)) (hg : wr.grownBy w2 vf.ownBlock) :
    PInv w w2 P { st with fr := st.fr ++ [a] } va vl v' := by
  have n0 := own_ne h.rf (b := w.heap.size) (by omega)
  have n1 := own_ne h.rf (b := w.heap.size + 1) (by omega)
  have n2 := own_ne h.rf (b := w.heap.size + 2) (by omega)
  have hz := h.sz
  refine ⟨(hg.block _ (by omega) (fun e => n0 e.symm)).trans h.b2, (hg.block _ (by omega) (fun e => n1 e.symm)).trans h.b5, (hg.block _ (by omega) (fun e => n2 e.symm)).trans h.pc, h.ra.kept hg (own_apart h.rf h.ra (by decide)), h.rl.kept hg (own_apart h.rf h.rl (by decide)), ?_, below_grown h.bl hg (by omega) (fun b hb => by have := (h.rf.lt b hb).1; omega)⟩
  simpa using hown
theorem PInv.code {w wr : World} {P : List (List UInt8)} {st : Ps} {va vl vf : Value} (h : PInv w wr P st va vl vf) (h1 : st.arrs.length ≤ 1000000) (h2 : st.lns.length ≤ 1000000) : CdAt wr (.agg #[va, vl]) ⟨st.lns, st.arrs⟩ :=
  ⟨va, vl, rfl, row_ars h.ra (by show st.arrs.length ≤ _; omega), row_lns h.rl (by show st.lns.length ≤ _; omega), by show st.arrs.length ≤ _; omega, by show st.lns.length ≤ _; omega⟩
/-! What is read fits. -/
def StFit (st : Ps) : Prop := CdFit ⟨st.lns, st.arrs⟩ ∧ st.lns.length = st.fr.length
theorem fit_start : StFit ⟨[], [], []⟩ := ⟨⟨show LabFit [] from (fun l h => by cases h), show ∀ a ∈ ([] : List Ar), a.name.length ≤ 140737488355328 from (fun a h => by cases h)⟩, rfl⟩
theorem lab_le {l : List UInt8} (h : labelB l = true) : l.length ≤ 40 := (lab_all h).2.2
theorem fit_arr {st : Ps} (h : StFit st) {a : Ar} (ha : arrOk a) : StFit { st with arrs := st.arrs ++ [a] } := by
  refine ⟨⟨h.1.1, fun b hb => ?_⟩, h.2⟩
  rcases List.mem_append.1 hb with hb | hb
  · exact h.1.2 b hb
  · rw [List.mem_singleton.1 hb]
    have := lab_le ha.1
    omega
theorem readLn_fit {t : List UInt8} {l : Ln} (h : readLn t = some l) : l.label.length ≤ 140737488355328 ∧ l.ins.name.length ≤ 140737488355328 ∧ I64 l.ins.n := by
  unfold readLn at h
  split at h
  · split at h
    · rename_i k
      injection h with h
      subst h
      have := lab_le k
      exact ⟨by show t.dropLast.length ≤ _; omega, by show ([] : List UInt8).length ≤ _; simp, show I64 0 from ⟨by decide, by decide⟩⟩
    · cases h
  · cases k : readI2 t with
    | none => rw [k] at h; cases h
    | some x =>
      rw [k] at h
      injection h with h
      subst h
      obtain ⟨k1, k2, k3⟩ := readI2_ok k
      have := (right_fits k1 k2).2.2.2.2
      exact ⟨by show ([] : List UInt8).length ≤ _; simp, by show x.name.length ≤ _; omega, k2⟩
theorem fit_line {st : Ps} (h : StFit st) {t : List UInt8} {l : Ln} (hl : readLn t = some l) (k : Int) : StFit { st with lns := st.lns ++ [l], fr := st.fr ++ [k] } := by
  refine ⟨⟨fun b hb => ?_, h.1.2⟩, by simp [h.2]⟩
  rcases List.mem_append.1 hb with hb | hb
  · exact h.1.1 b hb
  · rw [List.mem_singleton.1 hb]
    exact ⟨(readLn_fit hl).1, (readLn_fit hl).2.1⟩
/-! One line more. -/
theorem run_step (P : List (List UInt8)) (i : Nat) (h : i < P.length) (st : Ps) : runPs (P.drop i) i st = match stepPs st i (bareL (P[i]'h)) with | some s => runPs (P.drop (i + 1)) (i + 1) s | none => .inl ((i : Int) + 1) := by
  rw [List.drop_eq_getElem_cons h]; rfl
theorem step_nil (st : Ps) (i : Nat) : stepPs st i [] = some st := by unfold stepPs; rw [if_pos rfl]
theorem step_arr (st : Ps) (i : Nat) {t : List UInt8} (ht : t ≠ []) (hl : st.lns = []) {a : Ar} (ha : readA t = some a) : stepPs st i t = some { st with arrs := st.arrs ++ [a] } := by
  unfold stepPs; rw [if_neg ht, if_pos hl, ha]
theorem step_line (st : Ps) (i : Nat) {t : List UInt8} (ht : t ≠ []) (hl : (if st.lns = [] then readA t else none) = none) {l : Ln} (ha : readLn t = some l) : stepPs st i t = some { st with lns := st.lns ++ [l], fr := st.fr ++ [(i : Int) + 1] } := by
  unfold stepPs; rw [if_neg ht, hl]; simp only [ha]
theorem step_bad (st : Ps) (i : Nat) {t : List UInt8} (ht : t ≠ []) (hl : (if st.lns = [] then readA t else none) = none) (ha : readLn t = none) : stepPs st i t = none := by
  unfold stepPs; rw [if_neg ht, hl]; simp only [ha]
end Go.Proofs.YtlaihjefmhcmcaaGreatDoor
