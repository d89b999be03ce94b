/- The machine at its start. -/
import Derived.Test.YtjimeengkfjihaaGreatDoorRows
import Derived.WalkKit
import Derived.ProofKit
import Derived.OpenShut
import Derived.WalkLawsBesides
import Derived.WalkSpells
import Derived.Outline
import Derived.Handy
import Derived.Lib.Hide
import Derived.Lib.OthersKept
import Derived.KernelRfl
import Derived.Carry
import Derived.Test.YtjimeengkfjihaaGreatDoorMaV
import Derived.Test.YtjimeengkfjihaaGreatDoorMaT
import Derived.Test.YtjimeengkfjihaaGreatDoorAsZ
import Derived.Test.YtjimeengkfjihaaGreatDoorAsAw
namespace Go.Proofs.YtjimeengkfjihaaGreatDoor
open Go.ChangeShapes Go.WideShapes Go.ChangeAt Go.RowKit
set_option linter.unusedVariables false
/-- The machine as it is laid. -/
def cells0 (P M : Nat) (W : Int) (vi : Value) : List Value :=
  [.slice none 0 0, .slice none 0 0, .map (some P), .int .i64 W, .int .i64 0, .int .i64 0, .int .i64 0, .int .i64 0, .int .i64 0, .int .i64 0, .int .i64 0, .int .i64 0, .int .i64 0, .int .i64 0, .int .i64 0, .int .i64 0, .int .i64 0, .int .i64 0, .int .i64 0, .int .i64 0, .int .i64 0, .int .i64 0, .int .i64 0, .int .i64 0, .int .i64 0, .int .i64 0, .int .i64 0, .int .i64 0, .int .i64 0, .int .i64 0, .int .i64 0, .int .i64 0, .int .i64 0, .int .i64 0, .int .i64 0, .int .i64 0,
    .map (some M), vi, .int .i64 0, .int .i64 0, .int .i64 0, .slice none 0 0, .int .i64 0]
theorem begs_i64 : ∀ (L : List Ar) (p : Int) (F : List UInt8 → Option Int), (∀ a ∈ L, 1 ≤ a.size ∧ a.size ≤ 1048576) → 0 ≤ p → p + 8388608 * (L.length : Int) ≤ 9223372036854775807 → (∀ n v, F n = some v → I64 v) → ∀ n v, beginsL L p F n = some v → I64 v
  | [], p, F, hs, h0, h1, hF => hF
  | a :: r, p, F, hs, h0, h1, hF => by
    have ha := hs a (by simp)
    rw [List.length_cons] at h1
    refine begs_i64 r (p + 8 * a.size) (putF F a.name p) (fun b hb => hs b (List.mem_cons_of_mem _ hb)) (by omega) (by omega) (fun n v hv => ?_)
    unfold putF at hv
    split at hv
    · injection hv with hv; subst hv; unfold I64; omega
    · exact hF _ _ hv
theorem ahead_flat (L : List Ln) (n : List UInt8) : aheadL L n ≤ (flatI L).length := by
  unfold aheadL flatI
  rw [List.length_map]
  exact ((List.takeWhile_sublist _).filter _).length_le
theorem has76 : ∀ k : Fin 6, (hasL ((k.val : Int) + 21)).contains 76 = true := by decide +kernel
theorem goodC_of {c : Cd} (hok : (faultL c).1 = 0) (hal : c.arrays.length ≤ 1000) (hn : ∀ l ∈ c.lines, I64 l.ins.n) : GoodC (begL c) (wordsL c.arrays) (flatI c.lines) ((flatI c.lines).map (toL c)) := by
  have ha := ok_all hok
  have hl : (flatI c.lines).length ≤ c.lines.length := by unfold flatI; rw [List.length_map]; exact List.length_filter_le _ _
  have hw := words_bd c.arrays (ok_size hok)
  have hx : ∀ x ∈ flatI c.lines, rightB x = true ∧ I64 x.n := fun x hx => by
    obtain ⟨i, hi, hl, e⟩ := flatI_mem hx
    have h2 := (ok_line (ha.2.2.2.2 i hi)).2 hl
    rw [e] at h2
    exact ⟨h2.1, e ▸ hn _ (List.getElem_mem hi)⟩
  refine ⟨by omega, by rw [List.length_map], ⟨hw.1, by omega⟩, begs_i64 _ _ _ (ok_size hok) (by decide) (by omega) (fun n v h => by cases h), hx, fun i h h1 h2 => ?_⟩
  have hr := (hx _ (List.getElem_mem h)).1
  have hg : ((flatI c.lines).map (toL c)).getD i 0 = toL c ((flatI c.lines)[i]'h) := by rw [List.getD_eq_getElem?_getD, List.getElem?_map, List.getElem?_eq_getElem h]; rfl
  rw [hg]
  generalize (flatI c.lines)[i]'h = x at *
  have hc : (hasL x.op).contains 76 = true := by
    have := has76 ⟨(x.op - 21).toNat, by omega⟩
    have e : (((x.op - 21).toNat : Nat) : Int) + 21 = x.op := by omega
    rw [e] at this
    exact this
  have hnm : x.name ≠ [] := by
    rw [right_eq] at hr
    unfold rightE at hr
    simp only [Bool.and_eq_true, hc, if_true] at hr
    exact lab_ne hr.2
  refine ⟨aheadL c.lines x.name, ?_, ahead_flat _ _⟩
  unfold toL
  rw [if_neg (fun k => k.elim hnm (by omega))]
def mkE (w wF : World) (B M P base : Nat) (p1 : Option Addr) (k1 : Nat) (p2 : Option Addr) (k2 : Nat) (c : Cd) : Mw :=
  { z := w, a := wF, B := B, M := M, P := P, S := wF.heap.size, n := c.arrays.length, base := base, pl := p1, cl := k1, pt := p2, ct := k2, W := wordsL c.arrays, F := begL c, L := flatI c.lines, T := (flatI c.lines).map (toL c) }
theorem mkE_ok {w wc wF : World} {B M P : Nat} {p1 p2 : Option Addr} {k1 k2 : Nat} {c : Cd} (hok : (faultL c).1 = 0) (hal : c.arrays.length ≤ 1000) (hf : CdFit c) (hn : ∀ l ∈ c.lines, I64 l.ins.n)
    (hzB : w.heap.size ≤ B) (hzM : w.heap.size ≤ M) (hzc : w.heap.size ≤ wc.heap.size) (hB : B < wc.heap.size) (hM : M < wc.heap.size) (hP : IMap wc P c.arrays.length (begL c)) (h1 : P ≠ B) (h2 : P ≠ M) (h3 : B ≠ M) (g : Below wc.heap.size wc wF)
    (r1 : wF.ownsRow wc.heap.size 39 6 (.slice p1 (flatI c.lines).length k1) (flatI c.lines).length ((flatI c.lines).flatMap cellsI))
    (r2 : wF.ownsRow wc.heap.size 3 1 (.slice p2 (flatI c.lines).length k2) (flatI c.lines).length (((flatI c.lines).map (toL c)).flatMap cellsN)) : (mkE w wF B M P wc.heap.size p1 k1 p2 k2 c).Ok := by
  have hl : ((flatI c.lines).map (toL c)).length = (flatI c.lines).length := List.length_map _
  have hs := g.size
  have hPl := hP.lt
  refine ⟨goodC_of hok hal hn, hzB, hzM, Nat.le_trans hzc hs, hB, hM, h3, hs, h1, h2, Nat.lt_of_lt_of_le hPl hs, Nat.le_refl _, r1, ?_, fun b hb => (r1.lt b hb).2, ?_, hP.ext g, fun x hx => ?_⟩
  · show World.ownsRow _ _ _ _ (.slice p2 ((flatI c.lines).map (toL c)).length k2) ((flatI c.lines).map (toL c)).length _
    rw [hl]; exact r2
  · intro b hb
    have hb : Value.ownBlock (.slice p2 ((flatI c.lines).map (toL c)).length k2) = some b := hb
    rw [hl] at hb
    exact (r2.lt b hb).2
  · obtain ⟨i, hi, _, e⟩ := flatI_mem hx
    have := (hf.1 _ (List.getElem_mem hi)).2
    rw [e] at this
    unfold maxLen; omega
theorem mkE_start {w wc wF : World} {B M P : Nat} {p1 p2 : Option Addr} {k1 k2 : Nat} {c : Cd} {pi : Option Addr} {ci : Nat} {ins : List Int} (ok : (mkE w wF B M P wc.heap.size p1 k1 p2 k2 c).Ok)
    (hb : wF.heap[B]? = some (.cells (cells0 P M (wordsL c.arrays) (.slice pi ins.length ci)).toArray 68 (0, 0))) (hM : NMap wF M 0 (fun _ => none)) (hz : w.heap.size ≤ B) (gw : Below w.heap.size w wF)
    (hin : ∀ i (h : i < ins.length), ∃ a, pi = some a ∧ w.cell? (a.add i) = some (.int .i64 (ins[i]'h))) (hzM : w.heap.size ≤ M) (hci : ins.length ≤ ci ∧ ci ≤ 9223372036854775807) (hi64 : ∀ x ∈ ins, I64 x) :
    MAt (mkE w wF B M P wc.heap.size p1 k1 p2 k2 c) (mac0 ins) pi ci none 0 0 (((wF.setCell ⟨B, 0, none⟩ (.slice p1 (flatI c.lines).length k1)).setCell ⟨B, 1, none⟩ (.slice p2 (flatI c.lines).length k2)).setCell ⟨B, 6, none⟩ (.int .i64 1073741824)) := by
  have hl : ((flatI c.lines).map (toL c)).length = (flatI c.lines).length := List.length_map _
  have hF : wF.heap.size ≤ (((wF.setCell ⟨B, 0, none⟩ (.slice p1 (flatI c.lines).length k1)).setCell ⟨B, 1, none⟩ (.slice p2 (flatI c.lines).length k2)).setCell ⟨B, 6, none⟩ (.int .i64 1073741824)).heap.size := by simp
  refine ⟨?_, ?_, ?_, Nat.le_refl _, Nat.le_refl _, World.ownsRow_nil _ _ _ _, ?_, hci, ext_set (ext_set (ext_set gw (by show w.heap.size ≤ B; exact hz) _) (by show w.heap.size ≤ B; exact hz) _) (by show w.heap.size ≤ B; exact hz) _, mac0_good _ _ hi64⟩
  · refine (heap_setCell_same _ _ 6 _ _ _ ((heap_setCell_same _ _ 1 _ _ _ ((heap_setCell_same _ _ 0 _ _ _ hb))))).trans ?_
    show some (Obj.cells ((((cells0 P M (wordsL c.arrays) (.slice pi ins.length ci)).toArray.setIfInBounds 0 (.slice p1 (flatI c.lines).length k1)).setIfInBounds 1 (.slice p2 (flatI c.lines).length k2)).setIfInBounds 6 (.int .i64 1073741824)) _ _) = some (Obj.cells (cellsM (mkE w wF B M P wc.heap.size p1 k1 p2 k2 c) (.slice pi ins.length ci) (.slice none 0 0) (mac0 ins)).toArray _ _)
    have e : cellsM (mkE w wF B M P wc.heap.size p1 k1 p2 k2 c) (.slice pi ins.length ci) (.slice none 0 0) (mac0 ins) = [.slice p1 (flatI c.lines).length k1, .slice p2 ((flatI c.lines).map (toL c)).length k2, .map (some P), .int .i64 (wordsL c.arrays)] ++ regsV (mac0 ins) ++ [.map (some M), .slice pi ins.length ci, .int .i64 0, .int .i64 0, .int .i64 0, .slice none 0 0, .int .i64 0] := rfl
    rw [e, hl]
    rfl
  · exact ((Fr.refl (Nat.le_refl _)).set (.inl (.inl rfl)) _ |>.set (.inl (.inl rfl)) _).set (.inl (.inl rfl)) _
  · have hMB : M ≠ B := fun k => ok.bm k.symm
    exact hM.same ((heap_setCell_other _ _ _ _ hMB).trans ((heap_setCell_other _ _ _ _ hMB).trans (heap_setCell_other _ _ _ _ hMB)))
  · intro i hi
    obtain ⟨a, ha, hc⟩ := hin i hi
    have hab : a.block < w.heap.size := by
      have := at_lt hc
      unfold Addr.add at this
      split at this
      · exact this
      · exact this
    have hcF : wF.cell? (a.add i) = some (.int .i64 (ins[i]'hi)) := (gw.cell (at_lt hc)).trans hc
    exact ⟨a, ha, Nat.lt_of_lt_of_le hab gw.size, by show a.block ≠ B; omega, by show a.block ≠ M; omega, hcF⟩
end Go.Proofs.YtjimeengkfjihaaGreatDoor
