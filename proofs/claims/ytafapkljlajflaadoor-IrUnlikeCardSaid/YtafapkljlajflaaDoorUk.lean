/- The law's own unit of raw blocks: what lies where, as it is made. -/
import Derived.Test.YtafapkljlajflaaDoorUh
import Derived.Test.YtafapkljlajflaaDoorUb
namespace Go.Proofs.YtafapkljlajflaaDoor
open Go.ChangeShapes Go.WideShapes Go.ChangeAt Go.RowKit
set_option linter.unusedVariables false
theorem num_lt {A : Nat → Prop} {w : World} {a : Addr} {x : Xn} (h : XnAt A w a x) : XnAt (fun k => A k ∧ k < w.heap.size) w a x := by
  obtain ⟨h0, h1, h2, h3, h4, h5, h6, v, h7, h8⟩ := h
  exact ⟨h0, h1, h2, h3, h4, h5, h6, v, h7, nums_lt h8⟩
theorem xns_lt {A : Nat → Prop} {w : World} {v : Value} {L : List Xn} (h : XnsAt A w v L) : XnsAt (fun k => A k ∧ k < w.heap.size) w v L := by
  obtain ⟨h1, p, cap, e, h3⟩ := h
  refine ⟨h1, p, cap, e, fun i hi => ?_⟩
  obtain ⟨a, ea, ha, c0⟩ := h3 i hi
  have hlt := cell_lt (a := a.add (i * 8)) c0.1
  rw [add_block] at hlt
  exact ⟨a, ea, ⟨ha, hlt⟩, num_lt c0⟩
theorem bk_lt {A : Nat → Prop} {w : World} {a : Addr} {x : Bk} (h : BkAt A w a x) : BkAt (fun k => A k ∧ k < w.heap.size) w a x := by
  obtain ⟨⟨v, h0, h8⟩, h1, h2, h3, h4⟩ := h
  exact ⟨⟨v, h0, xns_lt h8⟩, h1, h2, h3, h4⟩
theorem bks_lt {A : Nat → Prop} {w : World} {v : Value} {L : List Bk} (h : BksAt A w v L) : BksAt (fun k => A k ∧ k < w.heap.size) w v L := by
  obtain ⟨h1, p, cap, e, h3⟩ := h
  refine ⟨h1, p, cap, e, fun i hi => ?_⟩
  obtain ⟨a, ea, ha, c0⟩ := h3 i hi
  have hlt : (a.add (i * 5)).block < w.heap.size := by obtain ⟨v, h0, _⟩ := c0.1; exact cell_lt h0
  rw [add_block] at hlt
  exact ⟨a, ea, ⟨ha, hlt⟩, bk_lt c0⟩
theorem rawK_next {raw : List Bk} {k j : Nat} {x : Bk} (h : raw[k + 3 * j]? = some x) : rawK raw k (j + 1) = rawK raw k j ++ [x] := by
  simp only [rawK, List.range_succ, List.map_append, List.map_cons, List.map_nil]
  rw [List.getD_eq_getElem?_getD, h]; rfl
theorem cntK_more {n k j : Nat} (h : k + 3 * j < n) (h8 : j < 8) : j + 1 ≤ cntK n k := Nat.le_min.2 ⟨by omega, by omega⟩
theorem cntK_end {n k j : Nat} (h : j ≤ cntK n k) (h' : ¬ (k + 3 * j < n ∧ j < 8)) : j = cntK n k := by
  have h1 : cntK n k ≤ 8 := Nat.min_le_left _ _
  have h2 : cntK n k ≤ (n + 2 - k) / 3 := Nat.min_le_right _ _
  omega
def nmB : Array Value := #[.string (mk mainN), .string (mk [102]), .string (mk [103])]
def arB : Array Value := #[.string (mk [97]), .int .i64 4, .string (mk [98]), .int .i64 10]
theorem own_kept {w w' : World} {base : Nat} {e : TypeId} {k : Nat} {v : Value} {n : Nat} {xs : List Value} (h : w.ownsRow base e k v n xs) (hk : ∀ g, v.ownBlock = some g → g < w.heap.size → w'.heap[g]? = w.heap[g]?) : w'.ownsRow base e k v n xs := by
  refine ⟨h.1, ?_⟩
  rcases h.2 with h | ⟨g0, cap, cur, h1, h2, h3, h4⟩
  · exact .inl h
  · exact .inr ⟨g0, cap, cur, h1, h2, (hk g0 (by rw [h1]; rfl) (Array.getElem?_eq_some_iff.1 h3).1).trans h3, h4⟩
/-- A row of blocks that the call has made, with the instructions' rows. -/
def BRow (lo hi : Nat) (w : World) (v : Value) (L : List Bk) : Prop := ∃ (G n cap : Nat) (M : List (Bk × Value)), v = .slice (some ⟨G, 0, none⟩) n cap ∧ lo ≤ G ∧ G < hi ∧ w.ownsRow lo 43 5 v n (M.flatMap cellsB) ∧ M.map (·.1) = L ∧ ∀ c ∈ M, XnsO (fun b => lo ≤ b ∧ b < hi) w c.2 c.1.ins
theorem BRow.kept {lo hi : Nat} {w w' : World} {v : Value} {L : List Bk} (h : BRow lo hi w v L) (k : Kept (fun b => lo ≤ b ∧ b < hi) w w') : BRow lo hi w' v L := by
  obtain ⟨G, n, cap, M, e, h1, h2, h3, h4, h5⟩ := h
  subst e
  exact ⟨G, n, cap, M, rfl, h1, h2, own_kept h3 (fun g hg hl => k g (by injection hg with hg; have hg : G = g := hg; subst hg; exact ⟨h1, h2⟩) hl), h4, fun c hc => (h5 c hc).kept k⟩
/-- A function's blocks lie in a range of their own, apart from the row of functions. -/
def RG (w : World) (vf : Value) (lo hi : Nat) (c : Fl × Value) : Prop := (∀ g, vf.ownBlock = some g → g < lo ∨ hi ≤ g) ∧ BksAt (fun b => lo ≤ b ∧ b < hi) w c.2 c.1.blocks ∧ BRow lo hi w c.2 c.1.blocks
theorem RG.kept {lo hi : Nat} {w w' : World} {vf : Value} {c : Fl × Value} (h : RG w vf lo hi c) (k : Kept (fun b => lo ≤ b ∧ b < hi) w w') : RG w' vf lo hi c := ⟨h.1, bks_kept h.2.1 k, h.2.2.kept k⟩
/-- The first function's range lies ahead of the others'. -/
def AP (B : Nat) (w : World) (vf : Value) (P : List (Fl × Value)) : Prop := ∀ c rest, P = c :: rest → ∃ lo m, B ≤ lo ∧ lo ≤ m ∧ m ≤ w.heap.size ∧ RG w vf lo m c ∧ ∀ c' ∈ rest, ∃ lo' hi', m ≤ lo' ∧ hi' ≤ w.heap.size ∧ RG w vf lo' hi' c'
theorem AP.kept {B : Nat} {w w' : World} {vf : Value} {P : List (Fl × Value)} (h : AP B w vf P) (k : Kept (fun b => B ≤ b) w w') (hs : w.heap.size ≤ w'.heap.size) : AP B w' vf P := by
  intro c rest e
  obtain ⟨lo, m, h1, h2, h3, h4, h5⟩ := h c rest e
  refine ⟨lo, m, h1, h2, by omega, h4.kept (fun b hb hl => k b (by have := hb.1; omega) hl), fun c' hc => ?_⟩
  obtain ⟨lo', hi', k1, k2, k3⟩ := h5 c' hc
  exact ⟨lo', hi', k1, by omega, k3.kept (fun b hb hl => k b (by have := hb.1; omega) hl)⟩
/-- The loop over functions: result, unit, names, the row of functions. -/
structure UI (w wr : World) (raw : List Bk) (k : Nat) (P : List (Fl × Value)) (vf : Value) : Prop where
  of ::
  rs : wr.heap[w.heap.size]? = some (.cells #[.slice none 0 0, .slice none 0 0] 27 (0, 0))
  ar : wr.heap[w.heap.size + 1]? = some (.cells arB 60 (0, 0))
  un : wr.heap[w.heap.size + 2]? = some (.cells #[.slice (some ⟨w.heap.size + 1, 0, none⟩) 2 2, vf] 27 (0, 0))
  nm : wr.heap[w.heap.size + 3]? = some (.cells nmB 9 (0, 0))
  pf : P.map (·.1) = (List.range k).map (flwF raw)
  ow : wr.ownsRow (w.heap.size + 4) 45 4 vf P.length (P.flatMap cellsF)
  bk : ∀ c ∈ P, ∃ lo hi, w.heap.size + 4 ≤ lo ∧ hi ≤ wr.heap.size ∧ (∀ g, vf.ownBlock = some g → g < lo ∨ hi ≤ g) ∧ BksAt (fun b => lo ≤ b ∧ b < hi) wr c.2 c.1.blocks ∧ BRow lo hi wr c.2 c.1.blocks
  bl : Below w.heap.size w wr
  ap : AP (w.heap.size + 4) wr vf P
theorem UI.sz {w wr : World} {raw : List Bk} {k : Nat} {P : List (Fl × Value)} {vf : Value} (h : UI w wr raw k P vf) : w.heap.size + 4 ≤ wr.heap.size := (Array.getElem?_eq_some_iff.1 h.nm).1
theorem UI.ext {w wr wx : World} {raw : List Bk} {k : Nat} {P : List (Fl × Value)} {vf : Value} (h : UI w wr raw k P vf) (g : Below wr.heap.size wr wx) : UI w wx raw k P vf :=
  ⟨(g.block _ (by have := h.sz; omega)).trans h.rs, (g.block _ (by have := h.sz; omega)).trans h.ar, (g.block _ (by have := h.sz; omega)).trans h.un, (g.block _ (by have := h.sz; omega)).trans h.nm, h.pf, own_ext h.ow g, fun c hc => by
    obtain ⟨lo, hi, h1, h2, h3, h4, h5⟩ := h.bk c hc
    exact ⟨lo, hi, h1, by have := g.size; omega, h3, bks_kept h4 (kept_below g), h5.kept (kept_below g)⟩, ext_trans h.bl g, h.ap.kept (kept_below g) g.size⟩
/-- The first loop of a function: its block F, the row of raw blocks that grows; wo: where the function begins. -/
structure F1 (w wo wr : World) (raw : List Bk) (k : Nat) (P : List (Fl × Value)) (vf : Value) (F : Nat) (Q : List (Bk × Value)) (vb : Value) : Prop where
  of ::
  ui : UI w wo raw k P vf
  bl : Below wo.heap.size wo wr
  hF : wo.heap.size ≤ F
  fl : wr.heap[F]? = some (.cells #[.string (mk (namesL.getD k [])), .int .i64 k, .int .i64 10, vb] 45 (0, 0))
  ow : wr.ownsRow (F + 1) 43 5 vb Q.length (Q.flatMap cellsB)
  raws : ∀ c ∈ Q, XnsAt (fun b => b < w.heap.size) wr c.2 c.1.ins
theorem F1.ext {w wo wr wx : World} {raw : List Bk} {k : Nat} {P : List (Fl × Value)} {vf : Value} {F : Nat} {Q : List (Bk × Value)} {vb : Value} (h : F1 w wo wr raw k P vf F Q vb) (g : Below wr.heap.size wr wx) : F1 w wo wx raw k P vf F Q vb :=
  ⟨h.ui, ext_trans h.bl g, h.hF, (g.block _ (Array.getElem?_eq_some_iff.1 h.fl).1).trans h.fl, own_ext h.ow g, fun c hc => xns_kept (h.raws c hc) (kept_below g)⟩
theorem F1.lt {w wo wr : World} {raw : List Bk} {k : Nat} {P : List (Fl × Value)} {vf : Value} {F : Nat} {Q : List (Bk × Value)} {vb : Value} (h : F1 w wo wr raw k P vf F Q vb) : F < wr.heap.size := (Array.getElem?_eq_some_iff.1 h.fl).1
/-- One raw block more. -/
theorem F1.next {w wo wr wd wx : World} {raw : List Bk} {k : Nat} {P : List (Fl × Value)} {vf : Value} {F : Nat} {Q : List (Bk × Value)} {vb v' : Value} (h : F1 w wo wr raw k P vf F Q vb) (c : Bk × Value) (hb : Below wr.heap.size wr wd) (hc : XnsAt (fun b => b < w.heap.size) wr c.2 c.1.ins)
    {n' : Nat} (hn' : Q.length + 1 = n') (hown : wx.ownsRow (F + 1) 43 5 v' n' (Q.flatMap cellsB ++ cellsB c)) (hg : wd.grownBy wx vb.ownBlock) :
    F1 w wo (wx.setCell ⟨F, 3, none⟩ v') raw k P vf F (Q ++ [c]) v' := by
  subst hn'
  have hz := h.ui.sz
  have hF := h.hF
  have hlt := h.lt
  have hG := grown_after hg hb
  have nF := own_ne h.ow (b := F) (by omega)
  have x1 := (hG.block _ hlt (fun e => nF e.symm)).trans h.fl
  refine ⟨h.ui, ext_set (below_grown h.bl hG (by have := h.bl.size; omega) (fun b hb => by have := (h.ow.lt b hb).1; omega)) (p := ⟨F, 3, none⟩) hF _, hF, (heap_setCell_same _ _ 3 _ _ _ x1).trans rfl, ?_, fun c' hc' => ?_⟩
  · rw [List.flatMap_append, List.length_append]
    exact own_set (by simpa using hown) (by omega)
  · have key : ∀ (v : Value) (L : List Xn), XnsAt (fun b => b < w.heap.size) wr v L → XnsAt (fun b => b < w.heap.size) (wx.setCell ⟨F, 3, none⟩ v') v L := fun v L hv =>
      xns_kept hv (kept_trans (kept_grown hG (fun b hb hA => by have := (h.ow.lt b hb).1; have := hA; omega)) (kept_set (fun hA => by have : F < w.heap.size := hA; omega)) hG.size)
    rcases List.mem_append.1 hc' with hm | hm
    · exact key _ _ (h.raws c' hm)
    · rw [List.mem_singleton.1 hm]; exact key _ _ hc
theorem F1.far {w wo wr wd wx : World} {raw : List Bk} {k : Nat} {P : List (Fl × Value)} {vf : Value} {F : Nat} {Q : List (Bk × Value)} {vb : Value} (h : F1 w wo wr raw k P vf F Q vb) (hb : Below wr.heap.size wr wd) (hg : wd.grownBy wx vb.ownBlock) : wx.heap[F]? = some (.cells #[.string (mk (namesL.getD k [])), .int .i64 k, .int .i64 10, vb] 45 (0, 0)) :=
  ((grown_after hg hb).block _ h.lt (fun e => own_ne h.ow (b := F) (by omega) e.symm)).trans h.fl
theorem F1.fz {w wo wr wd wx : World} {raw : List Bk} {k : Nat} {P : List (Fl × Value)} {vf : Value} {F : Nat} {Q : List (Bk × Value)} {vb : Value} (h : F1 w wo wr raw k P vf F Q vb) (hb : Below wr.heap.size wr wd) (hg : wd.grownBy wx vb.ownBlock) : wx.frozen? ⟨F, 3, none⟩ = false := by simp [World.frozen?, h.far hb hg]
theorem F1.cz {w wo wr wd wx : World} {raw : List Bk} {k : Nat} {P : List (Fl × Value)} {vf : Value} {F : Nat} {Q : List (Bk × Value)} {vb : Value} (h : F1 w wo wr raw k P vf F Q vb) (hb : Below wr.heap.size wr wd) (hg : wd.grownBy wx vb.ownBlock) : wx.cell? ⟨F, 3, none⟩ = some vb := cell_row (h.far hb hg) 3
theorem F1.cell {w wo wr : World} {raw : List Bk} {k : Nat} {P : List (Fl × Value)} {vf : Value} {F : Nat} {Q : List (Bk × Value)} {vb : Value} (h : F1 w wo wr raw k P vf F Q vb) : wr.cell? ⟨F, 3, none⟩ = some vb := cell_row h.fl 3
/-- The second loop: the first i blocks are made anew, behind world ws. -/
structure F2 (w wo ws wr : World) (raw : List Bk) (k : Nat) (P : List (Fl × Value)) (vf : Value) (F G cap : Nat) (n : Nat) (M : List (Bk × Value)) (i : Nat) (R : List Bk) : Prop where
  of ::
  ui : UI w wo raw k P vf
  bl : Below wo.heap.size wo wr
  hF : wo.heap.size ≤ F
  hG : F < G
  hs : G < ws.heap.size
  hr : ws.heap.size ≤ wr.heap.size
  fl : wr.heap[F]? = some (.cells #[.string (mk (namesL.getD k [])), .int .i64 k, .int .i64 10, .slice (some ⟨G, 0, none⟩) n cap] 45 (0, 0))
  ow : wr.ownsRow (F + 1) 43 5 (.slice (some ⟨G, 0, none⟩) n cap) n (M.flatMap cellsB)
  len : M.length = n
  rl : R.length = n
  raws : ∀ j, i ≤ j → ∀ (h : j < M.length) (h' : j < R.length), (M[j]'h).1 = R[j]'h' ∧ XnsAt (fun b => b < w.heap.size) wr (M[j]'h).2 (R[j]'h').ins
  news : ∀ j, j < i → ∀ (h : j < M.length) (h' : j < R.length), (M[j]'h).1 = blkF (R[j]'h') n ∧ XnsO (fun b => ws.heap.size ≤ b) wr (M[j]'h).2 (blkF (R[j]'h') n).ins
theorem set_at (P R : List Value) (k t : Nat) (h : P.length = k) (v : Value) : (P ++ R).set (k + t) v = P ++ R.set t v := by
  subst h
  rw [List.set_append_right _ _ (by omega)]
  congr 2
  omega
theorem grown_trans {a b c : World} {r : Option Nat} (h : a.grownBy b r) (k : b.grownBy c r) : a.grownBy c r :=
  ⟨k.os.trans h.os, k.tape.trans h.tape, k.output.trans h.output, Nat.le_trans h.size k.size, fun i hi hr => (k.block i (Nat.lt_of_lt_of_le hi h.size) hr).trans (h.block i hi hr)⟩
theorem flat_fixB (M : List (Bk × Value)) (j : Nat) (h : j < M.length) (c : Bk × Value) : (((((M.flatMap cellsB).set (j * 5 + 0) c.2).set (j * 5 + 1) (.int .i64 c.1.term.kind)).set (j * 5 + 2) (.int .i64 c.1.term.a)).set (j * 5 + 3) (.int .i64 c.1.term.to)).set (j * 5 + 4) (.int .i64 c.1.term.els) = (M.set j c).flatMap cellsB := by
  obtain ⟨A, l, B, rfl, hA⟩ : ∃ A l B, M = A ++ l :: B ∧ A.length = j := ⟨M.take j, M[j]'h, M.drop (j + 1), by rw [← List.drop_eq_getElem_cons h, List.take_append_drop], by rw [List.length_take]; omega⟩
  have hl : (A.flatMap cellsB).length = j * 5 := by rw [flat_len cellsB 5 lenB, hA]
  have e2 : (A ++ l :: B).set j c = A ++ c :: B := by
    rw [List.set_append_right _ _ (by omega), hA, Nat.sub_self]; rfl
  rw [e2, List.flatMap_append, List.flatMap_append, List.flatMap_cons, List.flatMap_cons]
  rw [set_at _ _ _ 0 hl, set_at _ _ _ 1 hl, set_at _ _ _ 2 hl, set_at _ _ _ 3 hl, set_at _ _ _ 4 hl]
  rfl
def putB (w : World) (g j : Nat) (c : Bk × Value) : World := ((((w.setCell ⟨g, j * 5, none⟩ c.2).setCell ⟨g, j * 5 + 1, none⟩ (.int .i64 c.1.term.kind)).setCell ⟨g, j * 5 + 2, none⟩ (.int .i64 c.1.term.a)).setCell ⟨g, j * 5 + 3, none⟩ (.int .i64 c.1.term.to)).setCell ⟨g, j * 5 + 4, none⟩ (.int .i64 c.1.term.els)
theorem row_fixB {w : World} {base : Nat} {e : TypeId} {g n cap : Nat} {M : List (Bk × Value)} (h : w.ownsRow base e 5 (.slice (some ⟨g, 0, none⟩) n cap) n (M.flatMap cellsB)) (j : Nat) (hj : j < M.length) (c : Bk × Value) :
    (putB w g j c).ownsRow base e 5 (.slice (some ⟨g, 0, none⟩) n cap) n ((M.set j c).flatMap cellsB) ∧ w.grownBy (putB w g j c) (some g) := by
  obtain ⟨h1, g1⟩ := h.stored (j * 5 + 0) c.2
  obtain ⟨h2, g2⟩ := h1.stored (j * 5 + 1) (.int .i64 c.1.term.kind)
  obtain ⟨h3, g3⟩ := h2.stored (j * 5 + 2) (.int .i64 c.1.term.a)
  obtain ⟨h4, g4⟩ := h3.stored (j * 5 + 3) (.int .i64 c.1.term.to)
  obtain ⟨h5, g5⟩ := h4.stored (j * 5 + 4) (.int .i64 c.1.term.els)
  rw [flat_fixB M j hj c] at h5
  exact ⟨h5, grown_trans (grown_trans (grown_trans (grown_trans g1 g2) g3) g4) g5⟩
theorem own_block {w : World} {base : Nat} {e : TypeId} {k : Nat} {v : Value} {n : Nat} {xs : List Value} (h : w.ownsRow base e k v n xs) (hn : 0 < n) : ∃ g cap, v = .slice (some ⟨g, 0, none⟩) n cap ∧ base ≤ g ∧ g < w.heap.size := by
  rcases h.2 with ⟨rfl, hz⟩ | ⟨g, cap, cur, rfl, hb, hg, _⟩
  · omega
  · exact ⟨g, cap, rfl, hb, (Array.getElem?_eq_some_iff.1 hg).1⟩
section
variable {w wo ws wr : World} {raw : List Bk} {k : Nat} {P : List (Fl × Value)} {vf : Value} {F G cap n : Nat}
theorem F1.second {Q : List (Bk × Value)} {vb : Value} (h : F1 w wo wr raw k P vf F Q vb) (hQ : 0 < Q.length) {R : List Bk} (hR : Q.map (·.1) = R) : ∃ G cap, vb = .slice (some ⟨G, 0, none⟩) Q.length cap ∧ F2 w wo wr wr raw k P vf F G cap Q.length Q 0 R := by
  obtain ⟨G, cap, rfl, hb, hg⟩ := own_block h.ow hQ
  subst hR
  refine ⟨G, cap, rfl, h.ui, h.bl, h.hF, by omega, hg, Nat.le_refl _, h.fl, h.ow, rfl, by simp, fun j _ h1 h2 => ?_, fun j hj => by omega⟩
  rw [List.getElem_map]
  exact ⟨rfl, h.raws _ (List.getElem_mem h1)⟩
theorem F1.to2 {Q : List (Bk × Value)} {vb : Value} (h : F1 w wo wr raw k P vf F Q vb) (hR : Q.map (·.1) = bksOf raw k) {nb : Nat} (hnb : (bksOf raw k).length = nb) : ∃ G cap, vb = .slice (some ⟨G, 0, none⟩) nb cap ∧ F2 w wo wr wr raw k P vf F G cap nb Q 0 (bksOf raw k) := by
  have e : Q.length = nb := by rw [← hnb, ← hR, List.length_map]
  subst e
  exact h.second (by have := (bksOf_len raw k).1; omega) hR
theorem F2.cell {M : List (Bk × Value)} {i : Nat} {R : List Bk} (h : F2 w wo ws wr raw k P vf F G cap n M i R) : wr.cell? ⟨F, 3, none⟩ = some (.slice (some ⟨G, 0, none⟩) n cap) := cell_row h.fl 3
theorem F2.row {M : List (Bk × Value)} {i : Nat} {R : List Bk} (h : F2 w wo ws wr raw k P vf F G cap n M i R) (hi : i < R.length) : ∃ v, (wr.cell? ⟨G, i * 5, none⟩ = some v ∧ wr.cell? ⟨G, i * 5 + 1, none⟩ = some (.int .i64 (R[i]'hi).term.kind) ∧ wr.cell? ⟨G, i * 5 + 2, none⟩ = some (.int .i64 (R[i]'hi).term.a) ∧ wr.cell? ⟨G, i * 5 + 3, none⟩ = some (.int .i64 (R[i]'hi).term.to) ∧ wr.cell? ⟨G, i * 5 + 4, none⟩ = some (.int .i64 (R[i]'hi).term.els)) ∧
    (wr.frozen? ⟨G, i * 5, none⟩ = false ∧ wr.frozen? ⟨G, i * 5 + 1, none⟩ = false ∧ wr.frozen? ⟨G, i * 5 + 2, none⟩ = false ∧ wr.frozen? ⟨G, i * 5 + 3, none⟩ = false ∧ wr.frozen? ⟨G, i * 5 + 4, none⟩ = false) ∧ XnsAt (fun _ => True) wr v (R[i]'hi).ins := by
  have hm : i < M.length := by rw [h.len, ← h.rl]; exact hi
  obtain ⟨e, hx⟩ := h.raws i (Nat.le_refl _) hm hi
  obtain ⟨_, p, cap', hq, hcell⟩ := row_get lenB (by decide) h.ow
  obtain ⟨g, hg, _, _, hcg⟩ := hcell i hm
  injection hq with hq1 _ _
  subst hq1
  injection hg with hg
  injection hg with hg _ _
  subst hg
  rw [← e] at hx ⊢
  refine ⟨_, ⟨hcg 0 (by decide), hcg 1 (by decide), hcg 2 (by decide), hcg 3 (by decide), hcg 4 (by decide)⟩, ⟨h.ow.frozenAt _, h.ow.frozenAt _, h.ow.frozenAt _, h.ow.frozenAt _, h.ow.frozenAt _⟩, xns_wide (fun _ _ => trivial) hx⟩
theorem F2.ext {wx : World} {M : List (Bk × Value)} {i : Nat} {R : List Bk} (h : F2 w wo ws wr raw k P vf F G cap n M i R) (g : Below wr.heap.size wr wx) : F2 w wo ws wx raw k P vf F G cap n M i R :=
  ⟨h.ui, ext_trans h.bl g, h.hF, h.hG, h.hs, Nat.le_trans h.hr g.size, (g.block _ (Array.getElem?_eq_some_iff.1 h.fl).1).trans h.fl, own_ext h.ow g, h.len, h.rl,
    fun j hj h1 h2 => ⟨(h.raws j hj h1 h2).1, xns_kept (h.raws j hj h1 h2).2 (kept_below g)⟩, fun j hj h1 h2 => ⟨(h.news j hj h1 h2).1, (h.news j hj h1 h2).2.kept (kept_below g)⟩⟩
theorem F2.next {M : List (Bk × Value)} {i : Nat} {R : List Bk} (h : F2 w wo ws wr raw k P vf F G cap n M i R) (hi : i < R.length) (v : Value) (hv : XnsO (fun b => ws.heap.size ≤ b) wr v (blkF (R[i]'hi) n).ins) : F2 w wo ws (putB wr G i (blkF (R[i]'hi) n, v)) raw k P vf F G cap n (M.set i (blkF (R[i]'hi) n, v)) (i + 1) R := by
  have hz := h.ui.sz
  have h1 := h.hF
  have h2 := h.hG
  have h3 := h.hs
  have h4 := h.hr
  have hm : i < M.length := by rw [h.len, ← h.rl]; exact hi
  obtain ⟨r1, r2⟩ := row_fixB h.ow i hm (blkF (R[i]'hi) n, v)
  have hbs := h.bl.size
  refine ⟨h.ui, below_grown h.bl r2 hbs (fun b hb => by injection hb with hb; omega), h1, h2, h3, Nat.le_trans h4 r2.size, (r2.block F (by omega) (by simp; omega)).trans h.fl, r1, by rw [List.length_set]; exact h.len, h.rl, fun j hj g1 g2 => ?_, fun j hj g1 g2 => ?_⟩
  · rw [List.getElem_set_ne (by omega)]
    have g1' : j < M.length := by simpa using g1
    refine ⟨(h.raws j (by omega) g1' g2).1, xns_kept (h.raws j (by omega) g1' g2).2 (kept_grown r2 (fun b hb hA => ?_))⟩
    injection hb with hb
    have : b < w.heap.size := hA
    omega
  · have g1' : j < M.length := by simpa using g1
    have key : ∀ (v : Value) (L : List Xn), XnsO (fun b => ws.heap.size ≤ b) wr v L → XnsO (fun b => ws.heap.size ≤ b) (putB wr G i (blkF (R[i]'hi) n, _)) v L := fun v' L hv => hv.kept (kept_grown r2 (fun b hb hA => by
      injection hb with hb
      have : ws.heap.size ≤ b := hA
      omega))
    by_cases e : j = i
    · subst e
      rw [List.getElem_set_self]
      exact ⟨rfl, key _ _ hv⟩
    · rw [List.getElem_set_ne (by omega)]
      exact ⟨(h.news j (by omega) g1' g2).1, key _ _ (h.news j (by omega) g1' g2).2⟩
theorem F2.done {M : List (Bk × Value)} {R : List Bk} (h : F2 w wo ws wr raw k P vf F G cap n M n R) (hn : n ≤ 8) : BksAt (fun b => wo.heap.size ≤ b ∧ b < wr.heap.size) wr (.slice (some ⟨G, 0, none⟩) n cap) (R.map fun b => blkF b n) := by
  have e : R.map (fun b => blkF b n) = M.map (·.1) := by
    refine List.ext_getElem (by rw [List.length_map, List.length_map, h.rl, h.len]) (fun j g1 g2 => ?_)
    rw [List.getElem_map, List.getElem_map]
    exact (h.news j (by simp [h.rl] at g1; exact g1) (by simpa using g2) (by simpa using g1)).1.symm
  rw [e]
  refine row_bks h.ow (by rw [h.len]; omega) (fun g hg => ?_) (fun c hc => ?_)
  · injection hg with hg
    have hg : G = g := hg
    have := h.hF; have := h.hG; have := h.hs; have := h.hr
    show wo.heap.size ≤ g ∧ g < wr.heap.size
    omega
  · obtain ⟨j, hj, rfl⟩ := List.getElem_of_mem hc
    have hj' : j < R.length := by rw [h.rl, ← h.len]; exact hj
    obtain ⟨n1, n2⟩ := h.news j (by rw [← h.len]; exact hj) hj hj'
    rw [n1]
    have := h.hF; have := h.hG; have := h.hs
    exact xns_wide (fun b hb => ⟨by have := hb.1; omega, hb.2⟩) (xns_lt n2.1)
theorem F2.fz {M : List (Bk × Value)} {R : List Bk} (h : F2 w wo ws wr raw k P vf F G cap n M n R) : BRow wo.heap.size wr.heap.size wr (.slice (some ⟨G, 0, none⟩) n cap) (R.map fun b => blkF b n) := by
  have e : R.map (fun b => blkF b n) = M.map (·.1) := by
    refine List.ext_getElem (by rw [List.length_map, List.length_map, h.rl, h.len]) (fun j g1 g2 => ?_)
    rw [List.getElem_map, List.getElem_map]
    exact (h.news j (by simp [h.rl] at g1; exact g1) (by simpa using g2) (by simpa using g1)).1.symm
  have := h.hF; have := h.hG; have := h.hs; have := h.hr
  refine ⟨G, n, cap, M, rfl, by omega, by omega, own_base h.ow (by omega), e.symm, fun c hc => ?_⟩
  obtain ⟨j, hj, rfl⟩ := List.getElem_of_mem hc
  have hj' : j < R.length := by rw [h.rl, ← h.len]; exact hj
  obtain ⟨n1, n2⟩ := h.news j (by rw [← h.len]; exact hj) hj hj'
  rw [n1]
  exact ⟨xns_wide (fun b hb => ⟨by have := hb.1; omega, hb.2⟩) (xns_lt n2.1), n2.2⟩
/-- One function more; wd: where it is appended. -/
theorem UI.next {wd wx : World} (h : UI w wo raw k P vf) (hbl : Below wo.heap.size wo wr) {v : Value} (hv : BksAt (fun b => wo.heap.size ≤ b ∧ b < wr.heap.size) wr v (flwF raw k).blocks) (hfz : BRow wo.heap.size wr.heap.size wr v (flwF raw k).blocks) (hb : Below wr.heap.size wr wd)
    {g' cap' : Nat} (hown : wx.ownsRow (w.heap.size + 4) 45 4 (.slice (some ⟨g', 0, none⟩) (P.length + 1) cap') (P.length + 1) (P.flatMap cellsF ++ cellsF (flwF raw k, v))) (hg : wd.grownBy wx vf.ownBlock) (hat : vf.ownBlock = some g' ∨ g' = wd.heap.size) :
    UI w (wx.setCell ⟨w.heap.size + 2, 1, none⟩ (.slice (some ⟨g', 0, none⟩) (P.length + 1) cap')) raw (k + 1) (P ++ [(flwF raw k, v)]) (.slice (some ⟨g', 0, none⟩) (P.length + 1) cap') := by
  have hz := h.sz
  have hr := h.ext hbl
  have hG := grown_after hg hb
  have s1 := hbl.size
  have s2 := hb.size
  have s3 := hg.size
  have hzr := hr.sz
  have n0 := own_ne h.ow (b := w.heap.size) (by omega)
  have n1 := own_ne h.ow (b := w.heap.size + 1) (by omega)
  have n2 := own_ne h.ow (b := w.heap.size + 2) (by omega)
  have n3 := own_ne h.ow (b := w.heap.size + 3) (by omega)
  have x0 := (hG.block _ (by omega) (fun e => n0 e.symm)).trans hr.rs
  have x1 := (hG.block _ (by omega) (fun e => n1 e.symm)).trans hr.ar
  have x2 := (hG.block _ (by omega) (fun e => n2 e.symm)).trans hr.un
  have x3 := (hG.block _ (by omega) (fun e => n3 e.symm)).trans hr.nm
  have hss : (wx.setCell ⟨w.heap.size + 2, 1, none⟩ (.slice (some ⟨g', 0, none⟩) (P.length + 1) cap')).heap.size = wx.heap.size := by simp
  have new : ∀ g, (Value.slice (some ⟨g', 0, none⟩) (P.length + 1) cap').ownBlock = some g → vf.ownBlock = some g ∨ g = wd.heap.size := by
    intro g hgg
    have e : some g' = some g := hgg
    injection e with e
    subst e
    exact hat
  have stay : ∀ (lo hi : Nat) (v : Value) (L : List Bk), w.heap.size + 4 ≤ lo → hi ≤ wr.heap.size → (∀ g, vf.ownBlock = some g → g < lo ∨ hi ≤ g) → BksAt (fun k => lo ≤ k ∧ k < hi) wr v L → BRow lo hi wr v L → BksAt (fun k => lo ≤ k ∧ k < hi) (wx.setCell ⟨w.heap.size + 2, 1, none⟩ (.slice (some ⟨g', 0, none⟩) (P.length + 1) cap')) v L ∧ BRow lo hi (wx.setCell ⟨w.heap.size + 2, 1, none⟩ (.slice (some ⟨g', 0, none⟩) (P.length + 1) cap')) v L := by
    intro lo hi v L h1 h2 h3 h4 h5
    have hkk : Kept (fun k => lo ≤ k ∧ k < hi) wr (wx.setCell ⟨w.heap.size + 2, 1, none⟩ (.slice (some ⟨g', 0, none⟩) (P.length + 1) cap')) := ?_
    · exact ⟨bks_kept h4 hkk, h5.kept hkk⟩
    refine kept_trans (kept_grown hG (fun b hb hA => ?_)) (kept_set (fun hA => ?_)) (by omega)
    · have := h3 b hb; have := hA; omega
    · have := hA.1; simp at this; omega
  have move : ∀ (lo hi : Nat) (c : Fl × Value), w.heap.size + 4 ≤ lo → hi ≤ wo.heap.size → RG wo vf lo hi c → RG (wx.setCell ⟨w.heap.size + 2, 1, none⟩ (.slice (some ⟨g', 0, none⟩) (P.length + 1) cap')) (.slice (some ⟨g', 0, none⟩) (P.length + 1) cap') lo hi c := by
    intro lo hi c h1 h2 h3
    have h4 := h3.kept (kept_below hbl)
    obtain ⟨k1, k2⟩ := stay lo hi _ _ h1 (by omega) h4.1 h4.2.1 h4.2.2
    refine ⟨fun g hgg => ?_, k1, k2⟩
    rcases new g hgg with k | k
    · exact h4.1 g k
    · right; omega
  refine ⟨(heap_setCell_other _ _ _ _ (by simp)).trans x0, (heap_setCell_other _ _ _ _ (by simp)).trans x1, (heap_setCell_same _ _ 1 _ _ _ x2).trans rfl, (heap_setCell_other _ _ _ _ (by simp)).trans x3, ?_, ?_, fun c' hc => ?_, ext_set (below_grown hr.bl hG (by omega) (fun k hk => by have := (h.ow.lt k hk).1; omega)) (p := ⟨w.heap.size + 2, 1, none⟩) (by simp) _, ?_⟩
  · rw [List.map_append, h.pf, List.range_succ, List.map_append]; rfl
  · rw [List.flatMap_append, List.length_append]
    exact own_set (by simpa using hown) (by omega)
  · rcases List.mem_append.1 hc with hc | hc
    · obtain ⟨lo, hi, h1, h2, h3, h4, h5⟩ := hr.bk c' hc
      refine ⟨lo, hi, h1, by rw [hss]; omega, fun g hgg => ?_, stay lo hi _ _ h1 h2 h3 h4 h5⟩
      rcases new g hgg with k | k
      · exact h3 g k
      · right; omega
    · rw [List.mem_singleton.1 hc]
      have hlt : ∀ g, vf.ownBlock = some g → g < wo.heap.size := fun g hg => (h.ow.lt g hg).2
      refine ⟨wo.heap.size, wr.heap.size, by omega, by rw [hss]; omega, fun g hgg => ?_, stay _ _ _ _ (by omega) (Nat.le_refl _) (fun g hgg => .inl (hlt g hgg)) hv hfz⟩
      rcases new g hgg with k | k
      · exact .inl (hlt g k)
      · right; omega
  · intro c rest e
    have hlt : ∀ g, vf.ownBlock = some g → g < wo.heap.size := fun g hg => (h.ow.lt g hg).2
    have hnew : RG (wx.setCell ⟨w.heap.size + 2, 1, none⟩ (.slice (some ⟨g', 0, none⟩) (P.length + 1) cap')) (.slice (some ⟨g', 0, none⟩) (P.length + 1) cap') wo.heap.size wr.heap.size (flwF raw k, v) := by
      obtain ⟨k1, k2⟩ := stay _ _ _ _ (by omega) (Nat.le_refl _) (fun g hgg => .inl (hlt g hgg)) hv hfz
      refine ⟨fun g hgg => ?_, k1, k2⟩
      rcases new g hgg with k | k
      · exact .inl (hlt g k)
      · right; omega
    rcases List.append_eq_cons_iff.1 e with ⟨_, e2⟩ | ⟨r0, e1, e2⟩
    · injection e2 with e3 e4
      subst e3 e4
      exact ⟨wo.heap.size, wr.heap.size, by omega, s1, by rw [hss]; omega, hnew, fun c' hc' => by cases hc'⟩
    · obtain ⟨lo, m, h1, h2, h3, h4, h5⟩ := h.ap c r0 e1
      subst e2
      refine ⟨lo, m, h1, h2, by rw [hss]; omega, move lo m c h1 h3 h4, fun c' hc' => ?_⟩
      rcases List.mem_append.1 hc' with hc' | hc'
      · obtain ⟨lo', hi', k1, k2, k3⟩ := h5 c' hc'
        exact ⟨lo', hi', k1, by rw [hss]; omega, move lo' hi' c' (by omega) k2 k3⟩
      · rw [List.mem_singleton.1 hc']
        exact ⟨wo.heap.size, wr.heap.size, h3, by rw [hss]; omega, hnew⟩
theorem UI.start_ap (B : Nat) (w : World) (vf : Value) : AP B w vf [] := fun c rest e => by cases e
theorem UI.start (w : World) (raw : List Bk) : UI w ((((w.alloc (.cells #[.slice none 0 0, .slice none 0 0] 27)).alloc (.cells arB 60)).alloc (.cells #[.slice (some ⟨w.heap.size + 1, 0, none⟩) 2 2, .slice none 0 0] 27)).alloc (.cells nmB 9)) raw 0 [] (.slice none 0 0) := by
  refine ⟨?_, ?_, ?_, heap_new' _ _ _ (by simp), rfl, World.ownsRow_nil _ _ _ _, fun c hc => (by cases hc), ext_alloc (ext_alloc (ext_alloc (ext_alloc (Below.refl _ _) _) _) _) _, UI.start_ap _ _ _⟩
  · exact (Lib.alloc_old _ _ _ (by simp <;> omega)).trans ((Lib.alloc_old _ _ _ (by simp <;> omega)).trans ((Lib.alloc_old _ _ _ (by simp)).trans (heap_new w _)))
  · exact (Lib.alloc_old _ _ _ (by simp <;> omega)).trans ((Lib.alloc_old _ _ _ (by simp)).trans (heap_new' _ _ _ (by simp)))
  · exact (Lib.alloc_old _ _ _ (by simp)).trans (heap_new' _ _ _ (by simp))
end
/-- One element more behind a row of one's own; where the row lies then. -/
theorem app_at {T E : TypeId} {z : Value} {k sz : Nat} (hT : Tryd.prog.underlying T = some (.slice E)) (hinfo : (Tryd.prog.info? E).map (fun i => (i.zero, i.size, i.bytes)) = some (some z, k, sz)) (hz1 : z.cells.size = k) (hk : 0 < k) (hsz : sz ≤ 128)
    {ops : Array Oper} {rest : List Oper} {o : Oper} {a : Act} {Q : Exit → Act → World → Prop} {w : World} (hgd : o.guard = none) (s x : Operand)
    (ho : o.op = .call { callee := .builtin .append, args := #[s, x], argTypes := #[T, T] })
    (base : Nat) (v : Value) (n : Nat) (xs : List Value) (hs : a.eval s = v) (hown : w.ownsRow base E k v n xs)
    (b cap : Nat) (us : List Value) (hlen : us.length = k) (hx : a.eval x = .slice (some ⟨b, 0, none⟩) 1 cap) (hu : w.heap[b]? = some (.cells us.toArray E (0, 0))) (h1 : ∀ u ∈ us, u.oneCell' = true) (n' : Nat) (hn' : n + 1 = n') (hn : n ≤ 1000000) (hbase : base ≤ w.heap.size)
    (h : ∀ g' cap' w', w'.ownsRow base E k (.slice (some ⟨g', 0, none⟩) n' cap') n' (xs ++ us) → w.grownBy w' v.ownBlock → (v.ownBlock = some g' ∨ g' = w.heap.size) → wpList Tryd.prog ops Q rest (a.put o.dst (.slice (some ⟨g', 0, none⟩) n' cap')) w') : wpList Tryd.prog ops Q (o :: rest) a w := by
  subst hn'
  obtain ⟨i0, hi, iz0, iz1, iz2⟩ := info_parts hinfo
  refine wpList_append_own_at w hgd s x T ho base E i0 z k sz hT hi iz0 iz1 iz2 hz1 hk v n xs hs hown ⟨b, 0, none⟩ 1 cap us hx (by omega) ?_ h1 ?_ ?_ hbase fun v' w' k1 k2 _ k3 => ?_
  · intro j u' hj
    have e : w.cell? ⟨b, j, none⟩ = some u' := by
      rw [cell_row hu]
      simpa using hj
    rw [addr_add, Nat.zero_add]
    exact e
  · unfold maxLen; omega
  · have : (n + 1) * sz ≤ 1000001 * 128 := Nat.mul_le_mul (by omega) hsz
    omega
  · obtain ⟨g', cap', rfl, _, _⟩ := own_block k1 (by omega)
    refine h g' cap' w' k1 k2 ?_
    rcases k3 with k3 | k3
    · exact .inl (k3.symm.trans rfl)
    · injection k3 with k3
      exact .inr k3
section
variable {w wo ws wr : World} {raw : List Bk} {k : Nat} {P : List (Fl × Value)} {vf : Value} {F G cap n : Nat}
theorem bksOf_all {raw : List Bk} (h : ∀ b ∈ raw, AllK b) (k : Nat) : ∀ b ∈ bksOf raw k, AllK b := by
  have z : I64 0 := by unfold I64; omega
  have hz : AllK zeroK := ⟨fun x hx => (by cases hx), z, z, z, z⟩
  intro b hb
  unfold bksOf at hb
  split at hb
  · rw [List.mem_singleton.1 hb]; exact hz
  · obtain ⟨t, _, rfl⟩ := List.mem_map.1 hb
    rw [List.getD_eq_getElem?_getD]
    cases e : raw[k + 3 * t]? with
    | none => exact hz
    | some x => exact h x (List.mem_of_getElem? e)
theorem ars_wide {A B : Nat → Prop} (hAB : ∀ b, A b → B b) {w : World} {v : Value} {L : List Ar} (h : ArsAt A w v L) : ArsAt B w v L := RowAt.wide (P := ArAt) hAB (fun h => h) h
theorem two_store {w0 w : World} {b : Nat} {v0 v1 : Value} {t : TypeId} (h : w.heap[b]? = some (.cells #[v0, v1] t (0, 0))) (hb : Below w0.heap.size w0 w) (hB : w0.heap.size ≤ b) (u0 u1 : Value) :
    ∃ wf, (w.setCell ⟨b, 0, none⟩ u0).setCell ⟨b, 1, none⟩ u1 = wf ∧ wf.heap[b]? = some (.cells #[u0, u1] t (0, 0)) ∧ Below w0.heap.size w0 wf ∧ (∀ k, k ≠ b → wf.heap[k]? = w.heap[k]?) := by
  have h1 := heap_setCell_same _ _ 0 _ _ u0 h
  have h2 := heap_setCell_same _ _ 1 _ _ u1 h1
  refine ⟨_, rfl, by rw [h2]; simp, ext_set (ext_set hb hB _) hB _, fun k hk => ?_⟩
  rw [heap_setCell_other _ _ _ _ hk, heap_setCell_other _ _ _ _ hk]
theorem UI.done (h : UI w wr raw 3 P vf) : ∃ wf, (wr.setCell ⟨w.heap.size, 0, none⟩ (.slice (some ⟨w.heap.size + 1, 0, none⟩) 2 2)).setCell ⟨w.heap.size, 1, none⟩ vf = wf ∧ wf.heap[w.heap.size]? = some (.cells #[.slice (some ⟨w.heap.size + 1, 0, none⟩) 2 2, vf] 27 (0, 0)) ∧ Below w.heap.size w wf ∧ UnAt (fun b => w.heap.size ≤ b) wf (.agg #[.slice (some ⟨w.heap.size + 1, 0, none⟩) 2 2, vf]) (fitU raw) := by
  obtain ⟨wf, h1, h2, h3, h4⟩ := two_store h.rs h.bl (Nat.le_refl _) (.slice (some ⟨w.heap.size + 1, 0, none⟩) 2 2) vf
  refine ⟨wf, h1, h2, h3, ?_⟩
  have kk : Kept (fun b => w.heap.size + 1 ≤ b) wr wf := fun b hb _ => h4 b (by have : w.heap.size + 1 ≤ b := hb; omega)
  have k1 : ArsAt (fun b => w.heap.size + 1 ≤ b) wr (.slice (some ⟨w.heap.size + 1, 0, none⟩) 2 2) arrsAB := by
    refine ⟨by decide, _, _, rfl, fun i hi => ⟨_, rfl, by simp, ?_⟩⟩
    have hi2 : i < 2 := hi
    rw [addr_add, Nat.zero_add]
    rcases (by omega : i = 0 ∨ i = 1) with rfl | rfl
    · exact ⟨cell_row h.ar 0, cell_row h.ar 1⟩
    · exact ⟨cell_row h.ar 2, cell_row h.ar 3⟩
  have k2 : FlsAt (fun b => w.heap.size + 1 ≤ b) wr vf (fitU raw).flows := by
    have hf : (fitU raw).flows = P.map (·.1) := h.pf.symm
    have hl : P.length = 3 := by have := congrArg List.length h.pf; simpa using this
    rw [hf]
    refine row_fls h.ow (by omega) (fun g hg => by have := (h.ow.lt g hg).1; omega) (fun c hc => ?_)
    obtain ⟨lo, hi, h1, _, _, h4, _⟩ := h.bk c hc
    exact bks_wide (fun b hb => by have := hb.1; omega) h4
  exact ⟨_, _, rfl, ars_wide (fun b hb => by omega) (ars_kept k1 kk), fls_wide (fun b hb => by omega) (fls_kept k2 kk)⟩
theorem UI.far {wd wx : World} (h : UI w wr raw k P vf) (hb : Below wr.heap.size wr wd) (hg : wd.grownBy wx vf.ownBlock) : wx.heap[w.heap.size + 2]? = some (.cells #[.slice (some ⟨w.heap.size + 1, 0, none⟩) 2 2, vf] 27 (0, 0)) :=
  ((grown_after hg hb).block _ (by have := h.sz; omega) (fun e => own_ne h.ow (b := w.heap.size + 2) (by omega) e.symm)).trans h.un
theorem UI.fz {wd wx : World} (h : UI w wr raw k P vf) (hb : Below wr.heap.size wr wd) (hg : wd.grownBy wx vf.ownBlock) : wx.frozen? ⟨w.heap.size + 1 + 1, 1, none⟩ = false := (two_frozen (h.far hb hg)).2
theorem UI.cz {wd wx : World} (h : UI w wr raw k P vf) (hb : Below wr.heap.size wr wd) (hg : wd.grownBy wx vf.ownBlock) : wx.cell? ⟨w.heap.size + 1 + 1, 1, none⟩ = some vf := (two_cells (h.far hb hg)).2
def FitAns (B : Nat) (raw : List Bk) (e : Ending) (w : World) : Prop := ∃ v, e = .returned v ∧ UnAt (fun b => B ≤ b) w v (fitU raw)
/-- What the law's Fit hands out: its functions' row is its own, their blocks lie elsewhere. -/
def FitOwn (B : Nat) (raw : List Bk) (v : Value) (w : World) : Prop :=
  ∃ (P : List (Fl × Value)) (pf : Option Addr) (cf : Nat), v = .agg #[.slice (some ⟨B + 1, 0, none⟩) 2 2, .slice pf 3 cf] ∧ w.heap[B + 1]? = some (.cells arB 60 (0, 0)) ∧ P.map (·.1) = (fitU raw).flows ∧
    w.ownsRow (B + 4) 45 4 (.slice pf 3 cf) 3 (P.flatMap cellsF) ∧ ∀ c ∈ P, BksAt (fun b => B + 4 ≤ b ∧ (Value.slice pf 3 cf).ownBlock ≠ some b) w c.2 c.1.blocks
/-- .. and they lie in rows that the call has made. -/
def FitOwn2 (B : Nat) (raw : List Bk) (v : Value) (w : World) : Prop :=
  ∃ (P : List (Fl × Value)) (pf : Option Addr) (cf : Nat), v = .agg #[.slice (some ⟨B + 1, 0, none⟩) 2 2, .slice pf 3 cf] ∧ w.heap[B + 1]? = some (.cells arB 60 (0, 0)) ∧ P.map (·.1) = (fitU raw).flows ∧
    w.ownsRow (B + 4) 45 4 (.slice pf 3 cf) 3 (P.flatMap cellsF) ∧ (∀ c ∈ P, BksAt (fun b => B + 4 ≤ b ∧ (Value.slice pf 3 cf).ownBlock ≠ some b) w c.2 c.1.blocks) ∧
    AP (B + 4) w (.slice pf 3 cf) P
theorem FitOwn2.one {B : Nat} {raw : List Bk} {v : Value} {w : World} (h : FitOwn2 B raw v w) : FitOwn B raw v w := by
  obtain ⟨P, pf, cf, e, har, hP, how, hbk, _⟩ := h
  exact ⟨P, pf, cf, e, har, hP, how, hbk⟩
theorem FitOwn.un {B : Nat} {raw : List Bk} {v : Value} {w : World} (h : FitOwn B raw v w) : UnAt (fun b => B ≤ b) w v (fitU raw) := by
  obtain ⟨P, pf, cf, rfl, har, hP, how, hbk⟩ := h
  refine ⟨_, _, rfl, ?_, ?_⟩
  · show ArsAt (fun b => B ≤ b) w (.slice (some ⟨B + 1, 0, none⟩) 2 2) arrsAB
    refine ⟨by decide, _, _, rfl, fun i hi => ⟨_, rfl, by simp, ?_⟩⟩
    have hi2 : i < 2 := hi
    rw [addr_add, Nat.zero_add]
    rcases (by omega : i = 0 ∨ i = 1) with rfl | rfl
    · exact ⟨cell_row har 0, cell_row har 1⟩
    · exact ⟨cell_row har 2, cell_row har 3⟩
  · have hl : P.length = 3 := by have := congrArg List.length hP; simpa [fitU] using this
    rw [← hP]
    refine row_fls how (by omega) (fun g hg => by have := (how.lt g hg).1; omega) (fun c hc => bks_wide (fun b hb => by have := hb.1; omega) (hbk c hc))
theorem UI.own (h : UI w wr raw 3 P vf) : ∃ wf, (wr.setCell ⟨w.heap.size, 0, none⟩ (.slice (some ⟨w.heap.size + 1, 0, none⟩) 2 2)).setCell ⟨w.heap.size, 1, none⟩ vf = wf ∧ wf.heap[w.heap.size]? = some (.cells #[.slice (some ⟨w.heap.size + 1, 0, none⟩) 2 2, vf] 27 (0, 0)) ∧ Below w.heap.size w wf ∧ FitOwn2 w.heap.size raw (.agg #[.slice (some ⟨w.heap.size + 1, 0, none⟩) 2 2, vf]) wf := by
  obtain ⟨wf, h1, h2, h3, h4⟩ := two_store h.rs h.bl (Nat.le_refl _) (.slice (some ⟨w.heap.size + 1, 0, none⟩) 2 2) vf
  refine ⟨wf, h1, h2, h3, ?_⟩
  have hl : P.length = 3 := by have := congrArg List.length h.pf; simpa using this
  have how : wf.ownsRow (w.heap.size + 4) 45 4 vf P.length (P.flatMap cellsF) := by rw [← h1]; exact own_set (own_set h.ow (by omega)) (by omega)
  have hbk : ∀ c ∈ P, BksAt (fun b => w.heap.size + 4 ≤ b ∧ vf.ownBlock ≠ some b) wf c.2 c.1.blocks := fun c hc => by
    obtain ⟨lo, hi, k1, _, k3, k4, _⟩ := h.bk c hc
    have k5 : BksAt (fun b => w.heap.size + 4 ≤ b ∧ vf.ownBlock ≠ some b) wr c.2 c.1.blocks := bks_wide (fun b hb => ⟨by have := hb.1; omega, fun e => by have := k3 b e; have := hb.1; have := hb.2; omega⟩) k4
    exact bks_kept k5 (fun b hb _ => h4 b (by have := hb.1; omega))
  have hfz : AP (w.heap.size + 4) wf vf P := h.ap.kept (fun b hb _ => h4 b (by have : w.heap.size + 4 ≤ b := hb; omega)) (by rw [← h1]; simp)
  have har : wf.heap[w.heap.size + 1]? = some (.cells arB 60 (0, 0)) := (h4 _ (by omega)).trans h.ar
  obtain ⟨pf, cf, hvf⟩ := own_slice how
  subst hvf
  rw [hl] at how hbk hfz ⊢
  exact ⟨P, pf, cf, rfl, har, h.pf, how, hbk, hfz⟩
end
end Go.Proofs.YtafapkljlajflaaDoor
