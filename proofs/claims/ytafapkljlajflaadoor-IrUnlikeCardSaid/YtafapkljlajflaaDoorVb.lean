/- The law's awake. -/
import Derived.Test.YtafapkljlajflaaDoorRows
import Derived.WalkKit
import Derived.ProofKit
import Derived.OpenShut
import Derived.WalkLawsBesides
import Derived.WalkSpells
import Derived.Outline
import Derived.Handy
import Derived.Lib.Hide
import Derived.Lib.OthersKept
import Derived.KernelRfl
import Derived.Carry
import Derived.RegionTactic
import Derived.BigRegion
import Derived.OwnWalk
import Derived.Deep.Cut
import Derived.IntWalk
import Derived.Deep.QuietTactic
import Derived.BigQuiet
import Derived.Deep.RegionHeld3
import Derived.Test.YtafapkljlajflaaDoorVa
import Derived.Test.YtafapkljlajflaaDoorUy
namespace Go.Proofs.YtafapkljlajflaaDoor
open Go.ChangeShapes Go.WideShapes Go.ChangeAt Go.RowKit
set_option linter.unusedVariables false
set_option maxRecDepth 100000 in
set_option maxHeartbeats 4000000 in
theorem uses_4 (x : Xn) (va : Value) (hk : x.kind = 4) (w : World) : Calls Tryd.prog 14 #[xnV x va] w fun e w' => NumRes w.heap.size [x.a, x.b] e w' ∧ Below w.heap.size w w' := by
  obtain ⟨k, d, a, b, op, n, name, args⟩ := x
  simp only at hk
  subst hk
  have HK : Hid (∀ w, Calls Tryd.prog 28 #[.int .i64 4] w fun e w' => e = .returned (.int .i64 39) ∧ w = w') := Lib.hid (fun w => has_any 4 w)
  have b1 : bits BinOp.and IntKind.i64 39 2 = 2 := by kernel_rfl
  have b2 : bits BinOp.and IntKind.i64 39 4 = 4 := by kernel_rfl
  have b3 : bits BinOp.and IntKind.i64 39 128 = 0 := by kernel_rfl
  obtain ⟨w0, hw0⟩ : ∃ w0, w.alloc (.cells #[.int .i64 4, .int .i64 d, .int .i64 a, .int .i64 b, .int .i64 op, .int .i64 n, .string (mk name), va] 36) = w0 := ⟨_, rfl⟩
  have HX : Hid (w0.heap[w.heap.size]? = some (.cells #[.int .i64 4, .int .i64 d, .int .i64 a, .int .i64 b, .int .i64 op, .int .i64 n, .string (mk name), va] 36 (0, 0))) := Lib.hid (by rw [← hw0]; exact heap_new _ _)
  have HB0 : Hid (Below w.heap.size w w0) := Lib.hid (by rw [← hw0]; exact ext_alloc (Below.refl _ _) _)
  unfold xnV
  go_enter Tryd.func14, Tryd.ntmps14
  go_upto_region 1 with (fail)
  try rw [hw0]
  clear hw0
  obtain ⟨c0, c1, c2, c3, c4, c5, c6, c7⟩ := eight_cells' HX.out
  have hz : w.heap.size < w0.heap.size := (Array.getElem?_eq_some_iff.1 HX.out).1
  go_wp2_with fail
  refine (HK.out _).mono ?_; rintro e w1 ⟨rfl, rfl⟩
  go_upto_region 6 with (at_builtin; refine app_at Tryd.underlying34 infoN rfl (by decide) (by decide) rfl _ _ rfl w0.heap.size _ 0 [] rfl (World.ownsRow_nil _ _ _ _) w0.heap.size 1 (cellsN a) rfl rfl (heap_new _ _) (oneN _) 1 rfl (by omega) (by simp) ?_; intro g1 p1 w2 hown2 hg2 hat2; have HO2 := Lib.hid hown2; have HB2 : Hid (Below w0.heap.size w0 w2) := Lib.hid (below_grown (ext_alloc (Below.refl _ _) _) hg2 (by simp) (fun k hk => by cases hk)); clear hown2 hg2 hat2; have c3 := (HB2.out.cell (cell_lt c3)).trans c3; have c7 := (HB2.out.cell (cell_lt c7)).trans c7; have hz2 : w.heap.size < w2.heap.size := by have := HB2.out.size; omega)
  go_wp2_with (at_builtin; (refine app_at Tryd.underlying34 infoN rfl (by decide) (by decide) rfl _ _ rfl w0.heap.size _ 1 ([] ++ cellsN a) rfl (own_ext HO2.out (ext_alloc (Below.refl _ _) _)) w2.heap.size 1 (cellsN b) rfl rfl (heap_new _ _) (oneN _) 2 rfl (by omega) (by have := HB2.out.size; simp; omega) ?_; intro g3 p3 w3 hown3 hg3 hat3))
  have HB3 : Hid (Below w0.heap.size w0 w3) := Lib.hid (below_grown (ext_alloc HB2.out _) hg3 (by have := HB2.out.size; simp; omega) (fun k hk => (HO2.out.lt k hk).1))
  have HN3 : Hid (NumsAt (fun b => w.heap.size ≤ b) w3 (.slice (some ⟨g3, 0, none⟩) 2 p3) [a, b]) := Lib.hid (row_nums (L := [a, b]) (n := 2) hown3 (by simp) (fun g hg => by have := (hown3.lt g hg).1; omega))
  have c7 := c7
  clear hown3 hg3 hat3
  go_wp2_with fail
  go_ret
  exact ⟨⟨_, rfl, HN3.out⟩, ext_trans HB0.out HB3.out⟩
def X0 : Xn := ⟨4, 2, 0, 1, 1, 0, [], []⟩
def U0 : Un := ⟨[], [⟨mainN, 0, 3, [⟨[X0], ⟨3, 2, 0, 0⟩⟩]⟩]⟩
def TX0 : List UInt8 := [102, 117, 110, 99, 32, 109, 97, 105, 110, 32, 48, 32, 51, 10, 98, 48, 58, 10, 9, 118, 50, 32, 61, 32, 118, 48, 32, 43, 32, 118, 49, 10, 9, 114, 101, 116, 117, 114, 110, 32, 118, 50, 10]
theorem u0_ok : wrongU U0 = (0, 0, 0) := by kernel_rfl
theorem u0_txt : unT U0 = TX0 := by kernel_rfl
theorem u1_wrong : wrongU ⟨[], []⟩ = (1, 0, 0) := by kernel_rfl
theorem i64s (v : Int) (h0 : -100 ≤ v) (h1 : v ≤ 100) : I64 v := ⟨by omega, by omega⟩
theorem u0_fit : UnFit U0 := by
  refine ⟨⟨by decide, by decide, fun a ha => (by cases ha), fun f hf => ?_⟩, fun f hf => ?_, fun f hf b hb x hx => ?_⟩
  · obtain rfl : f = ⟨mainN, 0, 3, [⟨[X0], ⟨3, 2, 0, 0⟩⟩]⟩ := by simpa [U0] using hf
    decide
  · obtain rfl : f = ⟨mainN, 0, 3, [⟨[X0], ⟨3, 2, 0, 0⟩⟩]⟩ := by simpa [U0] using hf
    decide
  · obtain rfl : f = ⟨mainN, 0, 3, [⟨[X0], ⟨3, 2, 0, 0⟩⟩]⟩ := by simpa [U0] using hf
    obtain rfl : b = ⟨[X0], ⟨3, 2, 0, 0⟩⟩ := by simpa using hb
    obtain rfl : x = X0 := by simpa using hx
    decide
theorem u0_pr : PrOk U0 := by
  refine ⟨rfl, fun f hf => ?_, fun f hf b hb => ?_, fun f hf => ?_, by rw [u0_txt]; decide⟩
  · obtain rfl : f = ⟨mainN, 0, 3, [⟨[X0], ⟨3, 2, 0, 0⟩⟩]⟩ := by simpa [U0] using hf
    exact ⟨i64s 0 (by decide) (by decide), i64s 3 (by decide) (by decide), by decide⟩
  · obtain rfl : f = ⟨mainN, 0, 3, [⟨[X0], ⟨3, 2, 0, 0⟩⟩]⟩ := by simpa [U0] using hf
    obtain rfl : b = ⟨[X0], ⟨3, 2, 0, 0⟩⟩ := by simpa using hb
    refine ⟨fun x hx => ?_, rfl, i64s 2 (by decide) (by decide)⟩
    obtain rfl : x = X0 := by simpa using hx
    exact ⟨rfl, i64s 2 (by decide) (by decide), i64s 0 (by decide) (by decide), i64s 1 (by decide) (by decide), i64s 0 (by decide) (by decide)⟩
  · obtain rfl : f = ⟨mainN, 0, 3, [⟨[X0], ⟨3, 2, 0, 0⟩⟩]⟩ := by simpa [U0] using hf
    decide
theorem u1_fit : UnFit ⟨[], []⟩ := ⟨⟨by decide, by decide, fun a ha => (by cases ha), fun f hf => (by cases hf)⟩, fun f hf => (by cases hf), fun f hf => (by cases hf)⟩
theorem one_row {α : Type} {k : Nat} {P : (Nat → Prop) → World → Addr → α → Prop} {A : Nat → Prop} {w : World} {g : Nat} {x : α} (hg : A g) (h : P A w ⟨g, 0, none⟩ x) : RowAt k P A w (.slice (some ⟨g, 0, none⟩) 1 1) [x] :=
  ⟨by simp, _, _, rfl, fun i hi => ⟨_, rfl, hg, by
    have : i = 0 := by have : i < 1 := hi; omega
    subst this
    rw [addr_add, Nat.zero_mul]
    exact h⟩⟩
def cX0 : Array Value := #[.int .i64 4, .int .i64 2, .int .i64 0, .int .i64 1, .int .i64 1, .int .i64 0, .string ⟨#[]⟩, .slice none 0 0]
structure AW (w wr : World) : Prop where
  of ::
  x : wr.heap[w.heap.size]? = some (.cells cX0 36 (0, 0))
  xs : wr.heap[w.heap.size + 1]? = some (.cells cX0 36 (0, 0))
  bs : wr.heap[w.heap.size + 2]? = some (.cells #[.slice (some ⟨w.heap.size + 1, 0, none⟩) 1 1, .int .i64 3, .int .i64 2, .int .i64 0, .int .i64 0] 43 (0, 0))
  fs : wr.heap[w.heap.size + 3]? = some (.cells #[.string (mk mainN), .int .i64 0, .int .i64 3, .slice (some ⟨w.heap.size + 2, 0, none⟩) 1 1] 45 (0, 0))
  u : wr.heap[w.heap.size + 4]? = some (.cells #[.slice none 0 0, .slice (some ⟨w.heap.size + 3, 0, none⟩) 1 1] 27 (0, 0))
  bl : Below w.heap.size w wr
theorem AW.sz {w wr : World} (h : AW w wr) : w.heap.size + 4 < wr.heap.size := (Array.getElem?_eq_some_iff.1 h.u).1
theorem AW.ext {w wr wx : World} (h : AW w wr) (g : Below wr.heap.size wr wx) : AW w wx := by
  have hz := h.sz
  exact ⟨(g.block _ (by omega)).trans h.x, (g.block _ (by omega)).trans h.xs, (g.block _ (by omega)).trans h.bs, (g.block _ (by omega)).trans h.fs, (g.block _ (by omega)).trans h.u, ext_trans h.bl g⟩
theorem AW.un {w wr : World} (h : AW w wr) : UnAt (fun k => k < wr.heap.size) wr (.agg #[.slice none 0 0, .slice (some ⟨w.heap.size + 3, 0, none⟩) 1 1]) U0 := by
  have hz := h.sz
  refine ⟨_, _, rfl, RowAt.nil, one_row (by omega) ?_⟩
  refine ⟨cell_row h.fs 0, cell_row h.fs 1, cell_row h.fs 2, _, cell_row h.fs 3, one_row (by omega) ?_⟩
  refine ⟨⟨_, cell_row h.bs 0, one_row (by omega) ?_⟩, cell_row h.bs 1, cell_row h.bs 2, cell_row h.bs 3, cell_row h.bs 4⟩
  exact ⟨cell_row h.xs 0, cell_row h.xs 1, cell_row h.xs 2, cell_row h.xs 3, cell_row h.xs 4, cell_row h.xs 5, cell_row h.xs 6, _, cell_row h.xs 7, RowAt.nil⟩
theorem AW.start (w : World) : AW w (((((w.alloc (.cells cX0 36)).alloc (.cells cX0 36)).alloc (.cells #[.slice (some ⟨w.heap.size + 1, 0, none⟩) 1 1, .int .i64 3, .int .i64 2, .int .i64 0, .int .i64 0] 43)).alloc (.cells #[.string (mk mainN), .int .i64 0, .int .i64 3, .slice (some ⟨w.heap.size + 2, 0, none⟩) 1 1] 45)).alloc (.cells #[.slice none 0 0, .slice (some ⟨w.heap.size + 3, 0, none⟩) 1 1] 27)) := by
  refine ⟨?_, ?_, ?_, ?_, heap_new' _ _ _ (by simp), ext_alloc (ext_alloc (ext_alloc (ext_alloc (ext_alloc (Below.refl _ _) _) _) _) _) _⟩
  · exact (Lib.alloc_old _ _ _ (by simp <;> omega)).trans ((Lib.alloc_old _ _ _ (by simp <;> omega)).trans ((Lib.alloc_old _ _ _ (by simp <;> omega)).trans ((Lib.alloc_old _ _ _ (by simp <;> omega)).trans (heap_new _ _))))
  · exact (Lib.alloc_old _ _ _ (by simp <;> omega)).trans ((Lib.alloc_old _ _ _ (by simp <;> omega)).trans ((Lib.alloc_old _ _ _ (by simp <;> omega)).trans (heap_new' _ _ _ (by simp))))
  · exact (Lib.alloc_old _ _ _ (by simp <;> omega)).trans ((Lib.alloc_old _ _ _ (by simp <;> omega)).trans (heap_new' _ _ _ (by simp)))
  · exact (Lib.alloc_old _ _ _ (by simp <;> omega)).trans (heap_new' _ _ _ (by simp))
theorem wp_gen {P : World → Prop} {c : Code} {Q : Exit → Act → World → Prop} {a : Act} {W : World} (h : P W) (k : ∀ W, P W → c.wp Tryd.prog Q a W) : c.wp Tryd.prog Q a W := k W h
structure AV (w wr w' : World) : Prop where
  of ::
  a : AW w w'
  v : Env w'
  b : Below wr.heap.size wr w'
theorem AV.next {w wr w' wx : World} (h : AW w wr) (hv : Env wr) (g : Below wr.heap.size wr w') : AV w wr w' := ⟨h.ext g, hv.ext g, g⟩
theorem a_print {w wr : World} (h : AW w wr) (hv : Env wr) : Calls Tryd.prog 10 #[.agg #[.slice none 0 0, .slice (some ⟨w.heap.size + 1 + 1 + 1, 0, none⟩) 1 1]] wr fun e w' => e = .returned (.tuple #[.string ⟨#[102, 117, 110, 99, 32, 109, 97, 105, 110, 32, 48, 32, 51, 10, 98, 48, 58, 10, 9, 118, 50, 32, 61, 32, 118, 48, 32, 43, 32, 118, 49, 10, 9, 114, 101, 116, 117, 114, 110, 32, 118, 50, 10]⟩, .int .i64 0]) ∧ AV w wr w' := by
  refine (print_yes _ U0 wr h.un u0_fit u0_ok u0_pr hv).mono ?_
  rintro e w' ⟨rfl, g⟩
  rw [u0_txt]
  exact ⟨rfl, AV.next (wx := w) h hv g⟩
theorem a_check {w wr : World} (h : AW w wr) (hv : Env wr) : Calls Tryd.prog 17 #[.agg #[.slice none 0 0, .slice none 0 0]] wr fun e w' => e = .returned (.tuple #[.int .i64 1, .agg #[.int .i64 0, .int .i64 0]]) ∧ AV w wr w' := by
  refine (check_any _ ⟨[], []⟩ wr ⟨_, _, rfl, RowAt.nil, RowAt.nil⟩ u1_fit).mono ?_
  rintro e w' ⟨h1, g⟩
  unfold CkRes at h1
  rw [u1_wrong] at h1
  exact ⟨h1, AV.next (wx := w) h hv g⟩
theorem a_uses {w wr : World} (h : AW w wr) (hv : Env wr) : Calls Tryd.prog 14 #[.agg #[.int .i64 4, .int .i64 2, .int .i64 0, .int .i64 1, .int .i64 1, .int .i64 0, .string ⟨#[]⟩, .slice none 0 0]] wr fun e w' => (∃ p cap, e = .returned (.slice p 2 cap)) ∧ AV w wr w' := by
  refine (uses_4 X0 (.slice none 0 0) rfl wr).mono ?_
  rintro e w' ⟨⟨v, rfl, hn⟩, g⟩
  obtain ⟨p, cap, rfl⟩ := row_slice hn
  exact ⟨⟨_, _, rfl⟩, AV.next (wx := w) h hv g⟩
theorem a_next {w wr : World} (h : AW w wr) (hv : Env wr) : Calls Tryd.prog 19 #[.agg #[.int .i64 2, .int .i64 0, .int .i64 1, .int .i64 2]] wr fun e w' => (∃ p cap, e = .returned (.slice p 2 cap)) ∧ AV w wr w' := by
  refine (next_any ⟨2, 0, 1, 2⟩ wr).mono ?_
  rintro e w' ⟨⟨v, rfl, hn⟩, g⟩
  obtain ⟨p, cap, rfl⟩ := row_slice hn
  exact ⟨⟨_, _, rfl⟩, AV.next (wx := w) h hv g⟩
theorem a_sets {w wr : World} (h : AW w wr) (hv : Env wr) : Calls Tryd.prog 13 #[.agg #[.int .i64 4, .int .i64 2, .int .i64 0, .int .i64 1, .int .i64 1, .int .i64 0, .string ⟨#[]⟩, .slice none 0 0]] wr fun e w' => e = .returned (.int .i64 2) ∧ AV w wr w' := by
  refine (sets_any X0 (.slice none 0 0) wr).mono ?_
  rintro e w' ⟨rfl, g⟩
  exact ⟨rfl, AV.next (wx := w) h hv g⟩
theorem AW.unT {w wr : World} (h : AW w wr) : UnAt (fun _ => True) wr (.agg #[.slice none 0 0, .slice (some ⟨w.heap.size + 1 + 1 + 1, 0, none⟩) 1 1]) U0 := by
  obtain ⟨va, vf, e, h1, h2⟩ := h.un
  exact ⟨va, vf, e, ars_wideU (fun _ _ => trivial) h1, fls_wide (fun _ _ => trivial) h2⟩
theorem a_main {w wr : World} (h : AW w wr) (hv : Env wr) : Calls Tryd.prog 18 #[.agg #[.slice none 0 0, .slice (some ⟨w.heap.size + 1 + 1 + 1, 0, none⟩) 1 1], .string ⟨#[109, 97, 105, 110]⟩] wr fun e w' => e = .returned (.int .i64 0) ∧ AV w wr w' := by
  refine (plac_any _ U0 mainN wr h.unT).mono ?_
  rintro e w' ⟨rfl, g⟩
  exact ⟨rfl, AV.next (wx := w) h hv g⟩
theorem a_f {w wr : World} (h : AW w wr) (hv : Env wr) : Calls Tryd.prog 18 #[.agg #[.slice none 0 0, .slice (some ⟨w.heap.size + 1 + 1 + 1, 0, none⟩) 1 1], .string ⟨#[102]⟩] wr fun e w' => e = .returned (.int .i64 (-1)) ∧ AV w wr w' := by
  refine (plac_any _ U0 [102] wr h.unT).mono ?_
  rintro e w' ⟨rfl, g⟩
  exact ⟨rfl, AV.next (wx := w) h hv g⟩
theorem AW.cu {w wr : World} (h : AW w wr) : wr.cell? ⟨w.heap.size + 1 + 1 + 1 + 1, 0, none⟩ = some (.slice none 0 0) ∧ wr.cell? ⟨w.heap.size + 1 + 1 + 1 + 1, 1, none⟩ = some (.slice (some ⟨w.heap.size + 1 + 1 + 1, 0, none⟩) 1 1) := ⟨cell_row h.u 0, cell_row h.u 1⟩
theorem AW.cx {w wr : World} (h : AW w wr) : wr.cell? ⟨w.heap.size, 0, none⟩ = some (.int .i64 4) ∧ wr.cell? ⟨w.heap.size, 1, none⟩ = some (.int .i64 2) ∧ wr.cell? ⟨w.heap.size, 2, none⟩ = some (.int .i64 0) ∧ wr.cell? ⟨w.heap.size, 3, none⟩ = some (.int .i64 1) ∧ wr.cell? ⟨w.heap.size, 4, none⟩ = some (.int .i64 1) ∧ wr.cell? ⟨w.heap.size, 5, none⟩ = some (.int .i64 0) ∧ wr.cell? ⟨w.heap.size, 6, none⟩ = some (.string ⟨#[]⟩) ∧ wr.cell? ⟨w.heap.size, 7, none⟩ = some (.slice none 0 0) := eight_cells' h.x
set_option maxRecDepth 100000 in
set_option maxHeartbeats 4000000 in
theorem awake_any (w : World) (hv : Env w) : Calls Tryd.prog 8 #[] w fun e w' => e = .returned (.bool true) ∧ Below w.heap.size w w' := by
  have H0 : Hid _ := Lib.hid (⟨AW.start w, hv.ext (AW.start w).bl⟩ : _ ∧ _)
  clear hv
  go_enter Tryd.func8, Tryd.ntmps8
  go_upto_region 3 with (fail)
  refine wp_gen (P := fun W => AW w W ∧ Env W) H0.out ?_
  clear H0
  rintro W0 ⟨h0, v0⟩
  obtain ⟨c0, c1⟩ := h0.cu
  have H0 := Lib.hid h0
  have V0 := Lib.hid v0
  clear h0 v0
  go_wp2_with fail
  refine (a_print H0.out V0.out).mono ?_; rintro e W1 ⟨rfl, g⟩
  have H1 := Lib.hid g; clear g c0 c1 H0 V0
  go_wp2_with fail
  refine (a_check H1.out.a H1.out.v).mono ?_; rintro e W2 ⟨rfl, g⟩
  have H2 := Lib.hid g; clear g H1
  go_upto_region 5 with (fail)
  refine wp_gen (P := fun W => AW w W ∧ Env W) ⟨H2.out.a.ext (ext_alloc (Below.refl _ _) _), H2.out.v.ext (ext_alloc (Below.refl _ _) _)⟩ ?_
  clear H2
  rintro W3 ⟨h3, v3⟩
  obtain ⟨d0, d1, d2, d3, d4, d5, d6, d7⟩ := h3.cx
  have H3 := Lib.hid h3
  have V3 := Lib.hid v3
  clear h3 v3
  go_wp2_with fail
  refine (a_uses H3.out V3.out).mono ?_; rintro e W4 ⟨⟨p4, q4, rfl⟩, g⟩
  have H4 := Lib.hid g; clear g H3 V3 d0 d1 d2 d3 d4 d5 d6 d7
  go_wp2_with fail
  refine (a_next H4.out.a H4.out.v).mono ?_; rintro e W5 ⟨⟨p5, q5, rfl⟩, g⟩
  obtain ⟨d0, d1, d2, d3, d4, d5, d6, d7⟩ := g.a.cx
  have H5 := Lib.hid g; clear g H4
  go_wp2_with fail
  refine (a_sets H5.out.a H5.out.v).mono ?_; rintro e W6 ⟨rfl, g⟩
  obtain ⟨c0, c1⟩ := g.a.cu
  have H6 := Lib.hid g; clear g H5 d0 d1 d2 d3 d4 d5 d6 d7
  go_wp2_with fail
  refine (a_main H6.out.a H6.out.v).mono ?_; rintro e W7 ⟨rfl, g⟩
  obtain ⟨d0, d1⟩ := g.a.cu
  have H7 := Lib.hid g; clear g H6 c0 c1
  go_wp2_with fail
  refine (a_f H7.out.a H7.out.v).mono ?_; rintro e W8 ⟨rfl, g⟩
  have H8 := Lib.hid g; clear g H7
  go_wp2_with fail
  go_ret
  exact ⟨rfl, H8.out.a.bl⟩
end Go.Proofs.YtafapkljlajflaaDoor
