/- The law's own block of a raw one. -/
import Derived.Test.YtafapkljlajflaaDoorRows
import Derived.WalkKit
import Derived.ProofKit
import Derived.OpenShut
import Derived.WalkLawsBesides
import Derived.WalkSpells
import Derived.Outline
import Derived.Handy
import Derived.Lib.Hide
import Derived.Lib.OthersKept
import Derived.KernelRfl
import Derived.Carry
import Derived.RegionTactic
import Derived.BigRegion
import Derived.Deep.AppendLies
import Derived.Deep.RegionLaw
import Derived.Deep.RegionHeldLaw
import Derived.Deep.RegionHeld3
import Derived.IntWalk
import Derived.Test.YtafapkljlajflaaDoorUg
namespace Go.Proofs.YtafapkljlajflaaDoor
open Go.ChangeShapes Go.WideShapes Go.ChangeAt Go.RowKit
set_option linter.unusedVariables false
theorem five_at {w : World} {b : Nat} {v0 v1 v2 v3 v4 : Value} {t : TypeId} (h : w.heap[b]? = some (.cells #[v0, v1, v2, v3, v4] t (0, 0))) :
    (w.cell? ⟨b, 0, none⟩ = some v0 ∧ w.cell? ⟨b, 1, none⟩ = some v1 ∧ w.cell? ⟨b, 2, none⟩ = some v2 ∧ w.cell? ⟨b, 3, none⟩ = some v3 ∧ w.cell? ⟨b, 4, none⟩ = some v4) ∧
    w.frozen? ⟨b, 0, none⟩ = false ∧ w.frozen? ⟨b, 1, none⟩ = false ∧ w.frozen? ⟨b, 2, none⟩ = false ∧ w.frozen? ⟨b, 3, none⟩ = false ∧ w.frozen? ⟨b, 4, none⟩ = false := by
  simp [World.cell?, World.frozen?, h]
def bkV (b : Bk) (v : Value) : Value := .agg #[v, .int .i64 b.term.kind, .int .i64 b.term.a, .int .i64 b.term.to, .int .i64 b.term.els]
/-- A row of instructions; with no instruction it is nil. -/
def XnsO (A : Nat → Prop) (w : World) (v : Value) (L : List Xn) : Prop := XnsAt A w v L ∧ (L = [] → v = .slice none 0 0)
theorem XnsO.kept {A : Nat → Prop} {w w' : World} {v : Value} {L : List Xn} (h : XnsO A w v L) (g : Kept A w w') : XnsO A w' v L := ⟨xns_kept h.1 g, h.2⟩
theorem XnsO.wide {A B : Nat → Prop} (hAB : ∀ b, A b → B b) {w : World} {v : Value} {L : List Xn} (h : XnsO A w v L) : XnsO B w v L := ⟨xns_wide hAB h.1, h.2⟩
def BkRes (B : Nat) (b : Bk) (e : Ending) (w : World) : Prop := ∃ v, e = .returned (bkV b v) ∧ XnsO (fun k => B ≤ k) w v b.ins
theorem nums_lt {A : Nat → Prop} {w : World} {v : Value} {L : List Int} (h : NumsAt A w v L) : NumsAt (fun k => A k ∧ k < w.heap.size) w v L := by
  obtain ⟨h1, p, cap, e, h3⟩ := h
  refine ⟨h1, p, cap, e, fun i hi => ?_⟩
  obtain ⟨a, ea, ha, c0⟩ := h3 i hi
  have hlt := cell_lt (a := a.add (i * 1)) c0
  rw [add_block] at hlt
  exact ⟨a, ea, ⟨ha, hlt⟩, c0⟩
/-- The loop over a raw block's instructions: boxes, the row that grows. -/
structure BI (w wr : World) (rv : Value) (t : Tm) (P : List (Xn × Value)) (va : Value) : Prop where
  of ::
  bx : wr.heap[w.heap.size]? = some (.cells #[rv, .int .i64 t.kind, .int .i64 t.a, .int .i64 t.to, .int .i64 t.els] 43 (0, 0))
  rs : wr.heap[w.heap.size + 1]? = some (.cells #[.slice none 0 0, .int .i64 0, .int .i64 0, .int .i64 0, .int .i64 0] 43 (0, 0))
  ou : wr.heap[w.heap.size + 2]? = some (.cells #[va, .int .i64 0, .int .i64 0, .int .i64 0, .int .i64 0] 43 (0, 0))
  ow : wr.ownsRow (w.heap.size + 3) 36 8 va P.length (P.flatMap cellsX)
  nu : ∀ c ∈ P, ∃ lo hi, w.heap.size + 3 ≤ lo ∧ hi ≤ wr.heap.size ∧ (∀ g, va.ownBlock = some g → g < lo ∨ hi ≤ g) ∧ NumsAt (fun k => lo ≤ k ∧ k < hi) wr c.2 c.1.args
  bl : Below w.heap.size w wr
  em : P = [] → va = .slice none 0 0
theorem BI.sz {w wr : World} {rv : Value} {t : Tm} {P : List (Xn × Value)} {va : Value} (h : BI w wr rv t P va) : w.heap.size + 3 ≤ wr.heap.size := (Array.getElem?_eq_some_iff.1 h.ou).1
theorem BI.ext {w wr wx : World} {rv : Value} {t : Tm} {P : List (Xn × Value)} {va : Value} (h : BI w wr rv t P va) (g : Below wr.heap.size wr wx) : BI w wx rv t P va :=
  ⟨(g.block _ (by have := h.sz; omega)).trans h.bx, (g.block _ (by have := h.sz; omega)).trans h.rs, (g.block _ (by have := h.sz; omega)).trans h.ou, own_ext h.ow g, fun c hc => by
    obtain ⟨lo, hi, h1, h2, h3, h4⟩ := h.nu c hc
    exact ⟨lo, hi, h1, by have := g.size; omega, h3, nums_kept h4 (kept_below g)⟩, ext_trans h.bl g, h.em⟩
theorem BI.far {w wr wd wx : World} {rv : Value} {t : Tm} {P : List (Xn × Value)} {va : Value} (h : BI w wr rv t P va) (hb : Below wr.heap.size wr wd) (hg : wd.grownBy wx va.ownBlock) : wx.heap[w.heap.size + 2]? = some (.cells #[va, .int .i64 0, .int .i64 0, .int .i64 0, .int .i64 0] 43 (0, 0)) :=
  ((grown_after hg hb).block _ (by have := h.sz; omega) (fun e => own_ne h.ow (b := w.heap.size + 2) (by omega) e.symm)).trans h.ou
theorem BI.fz {w wr wd wx : World} {rv : Value} {t : Tm} {P : List (Xn × Value)} {va : Value} (h : BI w wr rv t P va) (hb : Below wr.heap.size wr wd) (hg : wd.grownBy wx va.ownBlock) : wx.frozen? ⟨w.heap.size + 1 + 1, 0, none⟩ = false := (five_at (h.far hb hg)).2.1
theorem BI.cz {w wr wd wx : World} {rv : Value} {t : Tm} {P : List (Xn × Value)} {va : Value} (h : BI w wr rv t P va) (hb : Below wr.heap.size wr wd) (hg : wd.grownBy wx va.ownBlock) : wx.cell? ⟨w.heap.size + 1 + 1, 0, none⟩ = some va := (five_at (h.far hb hg)).1.1
/-- One instruction more; wo: the world ahead of the call that made it, wr: behind it, wd: where it is appended. -/
theorem BI.next {w wo wr wd wx : World} {rv : Value} {t : Tm} {P : List (Xn × Value)} {va : Value} (h : BI w wr rv t P va) (c : Xn × Value) (hlo : w.heap.size + 3 ≤ wo.heap.size) (how : ∀ g, va.ownBlock = some g → g < wo.heap.size) (hn : NumsAt (fun b => wo.heap.size ≤ b) wr c.2 c.1.args) (hb : Below wr.heap.size wr wd)
    {g' cap' : Nat} (hown : wx.ownsRow (w.heap.size + 3) 36 8 (.slice (some ⟨g', 0, none⟩) (P.length + 1) cap') (P.length + 1) (P.flatMap cellsX ++ cellsX c)) (hg : wd.grownBy wx va.ownBlock) (hat : va.ownBlock = some g' ∨ g' = wd.heap.size) :
    BI w (wx.setCell ⟨w.heap.size + 2, 0, none⟩ (.slice (some ⟨g', 0, none⟩) (P.length + 1) cap')) rv t (P ++ [c]) (.slice (some ⟨g', 0, none⟩) (P.length + 1) cap') := by
  have hz := h.sz
  have hG := grown_after hg hb
  have hwd := hb.size
  have hwx := hg.size
  have n0 := own_ne h.ow (b := w.heap.size) (by omega)
  have n1 := own_ne h.ow (b := w.heap.size + 1) (by omega)
  have n2 := own_ne h.ow (b := w.heap.size + 2) (by omega)
  have x1 := (hG.block _ (by omega) (fun e => n0 e.symm)).trans h.bx
  have x2 := (hG.block _ (by omega) (fun e => n1 e.symm)).trans h.rs
  have x3 := (hG.block _ (by omega) (fun e => n2 e.symm)).trans h.ou
  have hss : (wx.setCell ⟨w.heap.size + 2, 0, none⟩ (.slice (some ⟨g', 0, none⟩) (P.length + 1) cap')).heap.size = wx.heap.size := by simp
  have stay : ∀ (lo hi : Nat) (v : Value) (L : List Int), w.heap.size + 3 ≤ lo → hi ≤ wr.heap.size → (∀ g, va.ownBlock = some g → g < lo ∨ hi ≤ g) → NumsAt (fun k => lo ≤ k ∧ k < hi) wr v L → NumsAt (fun k => lo ≤ k ∧ k < hi) (wx.setCell ⟨w.heap.size + 2, 0, none⟩ (.slice (some ⟨g', 0, none⟩) (P.length + 1) cap')) v L := by
    intro lo hi v L h1 h2 h3 h4
    refine nums_kept h4 (kept_trans (kept_grown hG (fun b hb hA => ?_)) (kept_set (fun hA => ?_)) (by omega))
    · have := h3 b hb; have := hA; omega
    · have := hA.1; simp at this; omega
  have new : ∀ g, (Value.slice (some ⟨g', 0, none⟩) (P.length + 1) cap').ownBlock = some g → va.ownBlock = some g ∨ g = wd.heap.size := by
    intro g hgg
    have e : some g' = some g := hgg
    injection e with e
    subst e
    exact hat
  refine ⟨(heap_setCell_other _ _ _ _ (by simp)).trans x1, (heap_setCell_other _ _ _ _ (by simp)).trans x2, (heap_setCell_same _ _ 0 _ _ _ x3).trans rfl, ?_, fun c' hc => ?_, ext_set (below_grown h.bl hG (by omega) (fun k hk => by have := (h.ow.lt k hk).1; omega)) (p := ⟨w.heap.size + 2, 0, none⟩) (by simp) _, fun e => by simp at e⟩
  · rw [List.flatMap_append, List.length_append]
    exact own_set (by simpa using hown) (by omega)
  · rcases List.mem_append.1 hc with hc | hc
    · obtain ⟨lo, hi, h1, h2, h3, h4⟩ := h.nu c' hc
      refine ⟨lo, hi, h1, by rw [hss]; omega, fun g hgg => ?_, stay lo hi _ _ h1 h2 h3 h4⟩
      rcases new g hgg with k | k
      · exact h3 g k
      · right; omega
    · rw [List.mem_singleton.1 hc]
      refine ⟨wo.heap.size, wr.heap.size, hlo, by rw [hss]; omega, fun g hgg => ?_, stay _ _ _ _ hlo (Nat.le_refl _) (fun g hgg => .inl (how g hgg)) (nums_lt hn)⟩
      rcases new g hgg with k | k
      · exact .inl (how g k)
      · right; omega
theorem BI.xns {w wr : World} {rv : Value} {t : Tm} {P : List (Xn × Value)} {va : Value} (h : BI w wr rv t P va) (hl : P.length ≤ 6) : XnsAt (fun k => w.heap.size + 3 ≤ k) wr va (P.map (·.1)) :=
  row_xns h.ow (by omega) (fun g hg => (h.ow.lt g hg).1) (fun c hc => by
    obtain ⟨lo, hi, h1, _, _, h4⟩ := h.nu c hc
    exact nums_wide (fun b hb => Nat.le_trans h1 hb.1) h4)
theorem BI.xnsO {w wr : World} {rv : Value} {t : Tm} {P : List (Xn × Value)} {va : Value} (h : BI w wr rv t P va) (hl : P.length ≤ 6) : XnsO (fun k => w.heap.size + 3 ≤ k) wr va (P.map (·.1)) :=
  ⟨h.xns hl, fun e => h.em (List.map_eq_nil_iff.1 e)⟩
theorem five_store {w0 w : World} {b : Nat} {v0 v1 v2 v3 v4 : Value} {t : TypeId} (h : w.heap[b]? = some (.cells #[v0, v1, v2, v3, v4] t (0, 0))) (hb : Below w0.heap.size w0 w) (hB : w0.heap.size ≤ b) (u0 u1 u2 u3 u4 : Value) :
    ∃ wf, ((((w.setCell ⟨b, 0, none⟩ u0).setCell ⟨b, 1, none⟩ u1).setCell ⟨b, 2, none⟩ u2).setCell ⟨b, 3, none⟩ u3).setCell ⟨b, 4, none⟩ u4 = wf ∧ wf.heap[b]? = some (.cells #[u0, u1, u2, u3, u4] t (0, 0)) ∧ Below w0.heap.size w0 wf ∧ (∀ k, k ≠ b → wf.heap[k]? = w.heap[k]?) := by
  have h1 := heap_setCell_same _ _ 0 _ _ u0 h
  have h2 := heap_setCell_same _ _ 1 _ _ u1 h1
  have h3 := heap_setCell_same _ _ 2 _ _ u2 h2
  have h4 := heap_setCell_same _ _ 3 _ _ u3 h3
  have h5 := heap_setCell_same _ _ 4 _ _ u4 h4
  refine ⟨_, rfl, by rw [h5]; simp, ext_set (ext_set (ext_set (ext_set (ext_set hb hB _) hB _) hB _) hB _) hB _, fun k hk => ?_⟩
  rw [heap_setCell_other _ _ _ _ hk, heap_setCell_other _ _ _ _ hk, heap_setCell_other _ _ _ _ hk, heap_setCell_other _ _ _ _ hk, heap_setCell_other _ _ _ _ hk]
/-- The end is made: the result's block, the block that is made, the raw end in block T. -/
structure TI (w wr : World) (T : Nat) (va : Value) (L : List Xn) (t : Tm) (k a to els : Int) : Prop where
  of ::
  rs : wr.heap[w.heap.size + 1]? = some (.cells #[.slice none 0 0, .int .i64 0, .int .i64 0, .int .i64 0, .int .i64 0] 43 (0, 0))
  ou : wr.heap[w.heap.size + 2]? = some (.cells #[va, .int .i64 k, .int .i64 a, .int .i64 to, .int .i64 els] 43 (0, 0))
  tt : wr.heap[T]? = some (.cells #[.int .i64 t.kind, .int .i64 t.a, .int .i64 t.to, .int .i64 t.els] 41 (0, 0))
  hT : w.heap.size + 3 ≤ T
  xn : XnsO (fun k => w.heap.size + 3 ≤ k) wr va L
  bl : Below w.heap.size w wr
theorem TI.sz {w wr : World} {T : Nat} {va : Value} {L : List Xn} {t : Tm} {k a to els : Int} (h : TI w wr T va L t k a to els) : w.heap.size + 3 ≤ wr.heap.size := (Array.getElem?_eq_some_iff.1 h.ou).1
theorem TI.start {w wr : World} {rv : Value} {t : Tm} {P : List (Xn × Value)} {va : Value} (h : BI w wr rv t P va) (hl : P.length ≤ 6) {L : List Xn} (hL : P.map (·.1) = L) :
    TI w (wr.alloc (.cells #[.int .i64 t.kind, .int .i64 t.a, .int .i64 t.to, .int .i64 t.els] 41)) wr.heap.size va L t 0 0 0 0 := by
  have hz := h.sz
  subst hL
  have g := ext_alloc (Below.refl wr.heap.size wr) (.cells #[.int .i64 t.kind, .int .i64 t.a, .int .i64 t.to, .int .i64 t.els] 41)
  exact ⟨(g.block _ (by omega)).trans h.rs, (g.block _ (by omega)).trans h.ou, heap_new _ _, hz, (h.xnsO hl).kept (kept_below g), ext_trans h.bl g⟩
theorem TI.set {w wr : World} {T : Nat} {va : Value} {L : List Xn} {t : Tm} {k a to els : Int} (h : TI w wr T va L t k a to els) (o : Nat) (x : Value) {k' a' to' els' : Int} (hc : (#[va, .int .i64 k, .int .i64 a, .int .i64 to, .int .i64 els] : Array Value).setIfInBounds o x = #[va, .int .i64 k', .int .i64 a', .int .i64 to', .int .i64 els']) :
    TI w (wr.setCell ⟨w.heap.size + 1 + 1, o, none⟩ x) T va L t k' a' to' els' := by
  have hz := h.sz
  have hT := h.hT
  refine ⟨(heap_setCell_other _ _ _ _ (by simp)).trans h.rs, (heap_setCell_same _ _ o _ _ x h.ou).trans (by rw [hc]), (heap_setCell_other _ _ _ _ (by simp; omega)).trans h.tt, hT, h.xn.kept (kept_set (by simp)), ext_set h.bl (p := ⟨w.heap.size + 1 + 1, o, none⟩) (by simp; omega) x⟩
theorem TI.four {w wr : World} {T : Nat} {va : Value} {L : List Xn} {t : Tm} {k a to els : Int} (h : TI w wr T va L t k a to els) (k' : Int) :
    TI w ((((wr.setCell ⟨w.heap.size + 1 + 1, 1, none⟩ (.int .i64 k')).setCell ⟨w.heap.size + 1 + 1, 2, none⟩ (.int .i64 0)).setCell ⟨w.heap.size + 1 + 1, 3, none⟩ (.int .i64 0)).setCell ⟨w.heap.size + 1 + 1, 4, none⟩ (.int .i64 0)) T va L t k' 0 0 0 :=
  (((h.set 1 (.int .i64 k') (k' := k') (a' := a) (to' := to) (els' := els) rfl).set 2 (.int .i64 0) (k' := k') (a' := 0) (to' := to) (els' := els) rfl).set 3 (.int .i64 0) (k' := k') (a' := 0) (to' := 0) (els' := els) rfl).set 4 (.int .i64 0) rfl
theorem TI.res {w wr : World} {T : Nat} {va : Value} {L : List Xn} {t : Tm} {k a to els : Int} (h : TI w wr T va L t k a to els) :
    ∃ wf, ((((wr.setCell ⟨w.heap.size + 1, 0, none⟩ va).setCell ⟨w.heap.size + 1, 1, none⟩ (.int .i64 k)).setCell ⟨w.heap.size + 1, 2, none⟩ (.int .i64 a)).setCell ⟨w.heap.size + 1, 3, none⟩ (.int .i64 to)).setCell ⟨w.heap.size + 1, 4, none⟩ (.int .i64 els) = wf ∧ wf.heap[w.heap.size + 1]? = some (.cells #[va, .int .i64 k, .int .i64 a, .int .i64 to, .int .i64 els] 43 (0, 0)) ∧ Below w.heap.size w wf ∧ XnsO (fun k => w.heap.size ≤ k) wf va L := by
  obtain ⟨wf, h1, h2, h3, h4⟩ := five_store h.rs h.bl (by omega) va (.int .i64 k) (.int .i64 a) (.int .i64 to) (.int .i64 els)
  exact ⟨wf, h1, h2, h3, XnsO.wide (fun b hb => by omega) (h.xn.kept (fun b hb _ => h4 b (by omega)))⟩
theorem bk_res {B : Nat} {b : Bk} {w : World} {v : Value} {k a to els : Int} (h : b.term = ⟨k, a, to, els⟩) {L : List Xn} (hL : L = b.ins) (hv : XnsO (fun k => B ≤ k) w v L) : BkRes B b (.returned (.agg #[v, .int .i64 k, .int .i64 a, .int .i64 to, .int .i64 els])) w := by
  subst hL
  refine ⟨v, ?_, hv⟩
  unfold bkV
  rw [h]
end Go.Proofs.YtafapkljlajflaaDoor
