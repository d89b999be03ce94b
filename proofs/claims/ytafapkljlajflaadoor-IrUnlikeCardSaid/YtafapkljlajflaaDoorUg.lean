/- The law's own instruction of a raw one: a call; all kinds. -/
import Derived.Test.YtafapkljlajflaaDoorRows
import Derived.WalkKit
import Derived.ProofKit
import Derived.OpenShut
import Derived.WalkLawsBesides
import Derived.WalkSpells
import Derived.Outline
import Derived.Handy
import Derived.Lib.Hide
import Derived.Lib.OthersKept
import Derived.KernelRfl
import Derived.Carry
import Derived.RegionTactic
import Derived.BigRegion
import Derived.Deep.AppendLies
import Derived.Deep.RegionHeldLaw
import Derived.Deep.RegionLaw
import Derived.Deep.RegionHeld3
import Derived.IntWalk
import Derived.Test.YtafapkljlajflaaDoorUf
import Derived.Test.YtafapkljlajflaaDoorUb
namespace Go.Proofs.YtafapkljlajflaaDoor
open Go.ChangeShapes Go.WideShapes Go.ChangeAt Go.RowKit
set_option linter.unusedVariables false
theorem eight_at {w : World} {b : Nat} {v0 v1 v2 v3 v4 v5 v6 v7 : Value} {t : TypeId} (h : w.heap[b]? = some (.cells #[v0, v1, v2, v3, v4, v5, v6, v7] t (0, 0))) :
    (w.cell? ⟨b, 0, none⟩ = some v0 ∧ w.cell? ⟨b, 1, none⟩ = some v1 ∧ w.cell? ⟨b, 2, none⟩ = some v2 ∧ w.cell? ⟨b, 3, none⟩ = some v3 ∧ w.cell? ⟨b, 4, none⟩ = some v4 ∧ w.cell? ⟨b, 5, none⟩ = some v5 ∧ w.cell? ⟨b, 6, none⟩ = some v6 ∧ w.cell? ⟨b, 7, none⟩ = some v7) ∧
    w.frozen? ⟨b, 0, none⟩ = false ∧ w.frozen? ⟨b, 1, none⟩ = false ∧ w.frozen? ⟨b, 2, none⟩ = false ∧ w.frozen? ⟨b, 3, none⟩ = false ∧ w.frozen? ⟨b, 4, none⟩ = false ∧ w.frozen? ⟨b, 5, none⟩ = false ∧ w.frozen? ⟨b, 6, none⟩ = false ∧ w.frozen? ⟨b, 7, none⟩ = false := by
  simp [World.cell?, World.frozen?, h]
theorem eight_store {w0 w : World} {b : Nat} {v0 v1 v2 v3 v4 v5 v6 v7 : Value} {t : TypeId} (h : w.heap[b]? = some (.cells #[v0, v1, v2, v3, v4, v5, v6, v7] t (0, 0))) (hb : Below w0.heap.size w0 w) (hB : w0.heap.size ≤ b) (u0 u1 u2 u3 u4 u5 u6 u7 : Value) :
    ∃ wf, (((((((w.setCell ⟨b, 0, none⟩ u0).setCell ⟨b, 1, none⟩ u1).setCell ⟨b, 2, none⟩ u2).setCell ⟨b, 3, none⟩ u3).setCell ⟨b, 4, none⟩ u4).setCell ⟨b, 5, none⟩ u5).setCell ⟨b, 6, none⟩ u6).setCell ⟨b, 7, none⟩ u7 = wf ∧ wf.heap[b]? = some (.cells #[u0, u1, u2, u3, u4, u5, u6, u7] t (0, 0)) ∧ Below w0.heap.size w0 wf ∧ (∀ k, k ≠ b → wf.heap[k]? = w.heap[k]?) := by
  have h1 := heap_setCell_same _ _ 0 _ _ u0 h
  have h2 := heap_setCell_same _ _ 1 _ _ u1 h1
  have h3 := heap_setCell_same _ _ 2 _ _ u2 h2
  have h4 := heap_setCell_same _ _ 3 _ _ u3 h3
  have h5 := heap_setCell_same _ _ 4 _ _ u4 h4
  have h6 := heap_setCell_same _ _ 5 _ _ u5 h5
  have h7 := heap_setCell_same _ _ 6 _ _ u6 h6
  have h8 := heap_setCell_same _ _ 7 _ _ u7 h7
  refine ⟨_, rfl, by rw [h8]; simp, ext_set (ext_set (ext_set (ext_set (ext_set (ext_set (ext_set (ext_set hb hB _) hB _) hB _) hB _) hB _) hB _) hB _) hB _, fun k hk => ?_⟩
  rw [heap_setCell_other _ _ _ _ hk, heap_setCell_other _ _ _ _ hk, heap_setCell_other _ _ _ _ hk, heap_setCell_other _ _ _ _ hk, heap_setCell_other _ _ _ _ hk, heap_setCell_other _ _ _ _ hk, heap_setCell_other _ _ _ _ hk, heap_setCell_other _ _ _ _ hk]
theorem bodyPost_world {P : Program} {f : Func} {Q : Ending → World → Prop} {ex : Exit} {a : Act} {w w' : World} (h : w = w') (k : bodyPost P f Q ex a w') : bodyPost P f Q ex a w := by rw [h]; exact k
theorem argsOf_next (j : Nat) (a b : Int) : argsOf (j + 1) a b = argsOf j a b ++ [pickN (wrap64 (a + wrap64 ((j : Int) * b))) 10] := by
  simp only [argsOf, List.range_succ, List.map_append, List.map_cons, List.map_nil]
theorem i64_w (x : Int) : IntKind.i64.wrap x = wrap64 x := by
  have h1 := Int.emod_nonneg x (show (18446744073709551616 : Int) ≠ 0 by decide)
  have h2 := Int.emod_lt_of_pos x (show (0 : Int) < 18446744073709551616 by decide)
  simp only [IntKind.wrap, wrap64, IntKind.signed, IntKind.bits]
  simp
  omega
theorem wrap_i64 (x : Int) : I64 (wrap64 x) := by
  have h1 := Int.emod_nonneg (x + 9223372036854775808) (show (18446744073709551616 : Int) ≠ 0 by decide)
  have h2 := Int.emod_lt_of_pos (x + 9223372036854775808) (show (0 : Int) < 18446744073709551616 by decide)
  unfold I64 wrap64
  generalize (x + 9223372036854775808) % 18446744073709551616 = m at *
  omega
/-- The loop that makes a call's places. -/
structure LI (w wr : World) (box : Array Value) (d : Int) (nm : List UInt8) (a b : Int) (j : Nat) (va : Value) : Prop where
  of ::
  bx : wr.heap[w.heap.size]? = some (.cells box 36 (0, 0))
  rs : wr.heap[w.heap.size + 1]? = some (.cells #[.int .i64 0, .int .i64 0, .int .i64 0, .int .i64 0, .int .i64 0, .int .i64 0, .string ⟨#[]⟩, .slice none 0 0] 36 (0, 0))
  xx : wr.heap[w.heap.size + 2]? = some (.cells #[.int .i64 9, .int .i64 d, .int .i64 0, .int .i64 0, .int .i64 0, .int .i64 0, .string (mk nm), va] 36 (0, 0))
  ow : wr.ownsRow (w.heap.size + 3) 3 1 va j ((argsOf j a b).flatMap cellsN)
  bl : Below w.heap.size w wr
theorem LI.sz {w wr : World} {box : Array Value} {d : Int} {nm : List UInt8} {a b : Int} {j : Nat} {va : Value} (h : LI w wr box d nm a b j va) : w.heap.size + 3 ≤ wr.heap.size := (Array.getElem?_eq_some_iff.1 h.xx).1
theorem LI.ext {w wr wx : World} {box : Array Value} {d : Int} {nm : List UInt8} {a b : Int} {j : Nat} {va : Value} (h : LI w wr box d nm a b j va) (g : Below wr.heap.size wr wx) : LI w wx box d nm a b j va :=
  ⟨(g.block _ (by have := h.sz; omega)).trans h.bx, (g.block _ (by have := h.sz; omega)).trans h.rs, (g.block _ (by have := h.sz; omega)).trans h.xx, own_ext h.ow g, ext_trans h.bl g⟩
theorem LI.next {w wr wx : World} {box : Array Value} {d : Int} {nm : List UInt8} {a b : Int} {j : Nat} {va v' : Value} (h : LI w wr box d nm a b j va) {q : Int} (hq : pickN (wrap64 (a + wrap64 ((j : Int) * b))) 10 = q) (hown : wx.ownsRow (w.heap.size + 3) 3 1 v' (j + 1) ((argsOf j a b).flatMap cellsN ++ cellsN q)) (hg : wr.grownBy wx va.ownBlock) :
    LI w (wx.setCell ⟨w.heap.size + 2, 7, none⟩ v') box d nm a b (j + 1) v' := by
  subst hq
  have hz := h.sz
  have n0 := own_ne h.ow (b := w.heap.size) (by omega)
  have n1 := own_ne h.ow (b := w.heap.size + 1) (by omega)
  have n2 := own_ne h.ow (b := w.heap.size + 2) (by omega)
  have x1 := (hg.block _ (by omega) (fun e => n0 e.symm)).trans h.bx
  have x2 := (hg.block _ (by omega) (fun e => n1 e.symm)).trans h.rs
  have x3 := (hg.block _ (by omega) (fun e => n2 e.symm)).trans h.xx
  refine ⟨(heap_setCell_other _ _ _ _ (by simp)).trans x1, (heap_setCell_other _ _ _ _ (by simp)).trans x2, (heap_setCell_same _ _ 7 _ _ v' x3).trans rfl, ?_, ext_set (below_grown h.bl hg (by omega) (fun k hk => by have := (h.ow.lt k hk).1; omega)) (p := ⟨w.heap.size + 2, 7, none⟩) (by simp) v'⟩
  rw [argsOf_next, List.flatMap_append]
  exact own_set (by simpa using hown) (by omega)
theorem LI.far {w wr wd wx : World} {box : Array Value} {d : Int} {nm : List UInt8} {a b : Int} {j : Nat} {va : Value} (h : LI w wr box d nm a b j va) (hb : Below wr.heap.size wr wd) (hg : wd.grownBy wx va.ownBlock) : wx.heap[w.heap.size + 2]? = some (.cells #[.int .i64 9, .int .i64 d, .int .i64 0, .int .i64 0, .int .i64 0, .int .i64 0, .string (mk nm), va] 36 (0, 0)) :=
  ((grown_after hg hb).block _ (by have := h.sz; omega) (fun e => own_ne h.ow (b := w.heap.size + 2) (by omega) e.symm)).trans h.xx
theorem LI.fz {w wr wd wx : World} {box : Array Value} {d : Int} {nm : List UInt8} {a b : Int} {j : Nat} {va : Value} (h : LI w wr box d nm a b j va) (hb : Below wr.heap.size wr wd) (hg : wd.grownBy wx va.ownBlock) : wx.frozen? ⟨w.heap.size + 1 + 1, 7, none⟩ = false := (eight_at (h.far hb hg)).2.2.2.2.2.2.2.2
theorem LI.cz {w wr wd wx : World} {box : Array Value} {d : Int} {nm : List UInt8} {a b : Int} {j : Nat} {va : Value} (h : LI w wr box d nm a b j va) (hb : Below wr.heap.size wr wd) (hg : wd.grownBy wx va.ownBlock) : wx.cell? ⟨w.heap.size + 1 + 1, 7, none⟩ = some va := (eight_at (h.far hb hg)).1.2.2.2.2.2.2.2
set_option maxRecDepth 100000 in
set_option maxHeartbeats 4000000 in
theorem lins_9 (r : Xn) (hr : AllX r) (va : Value) (g : Nat) (w : World) (hg : NmsAt w g) (hk : pickN r.kind 9 = 8) (k : Nat) (hk3 : k < 3) (hn : pickN r.n 3 = (k : Int)) (nm : List UInt8) (hnm : namesL.getD k [] = nm) (hnc : w.cell? ⟨g, k, none⟩ = some (.string (mk nm))) :
    Calls Tryd.prog 12 #[rawV r va, .slice (some ⟨g, 0, none⟩) 3 3] w fun e w' => XnRes w.heap.size (insF r) e w' ∧ Below w.heap.size w w' := by
  obtain ⟨h1, h2, h3, h4, h5, h6⟩ := hr
  have pk := Lib.hid (pick_eq r.kind 9 8 hk h1 (by decide))
  have pd := Lib.hid (pick_eq r.d 10 _ rfl h2 (by decide))
  have p3 := Lib.hid (pick_eq r.n 3 k hn h6 (by decide))
  have HV : Hid (insF r = ⟨9, pickN r.d 10, 0, 0, 0, 0, nm, argsOf k r.a r.b⟩) := Lib.hid (by simp only [insF, hk, hn]; rw [← hnm]; rfl)
  have hgl : g < w.heap.size := cell_lt hnc
  clear hk h1 h2 h3 h4 h5 h6 hn hnm hg
  unfold rawV
  generalize insF r = X at *
  generalize pickN r.d 10 = d at *
  obtain ⟨rk, rd, ra, rb, ro, rn, rm, rl⟩ := r
  simp only at pk pd p3 HV
  go_enter Tryd.func12, Tryd.ntmps12
  go_wp2_with fail
  refine (pk.out _).mono ?_; rintro e w1 ⟨rfl, rfl⟩
  go_wp2_with fail
  refine (pd.out _).mono ?_; rintro e w1 ⟨rfl, rfl⟩
  go_wp2_with fail
  refine (p3.out _).mono ?_; rintro e w1 ⟨rfl, rfl⟩
  have hnc3 := cell_alloc (cell_alloc (cell_alloc hnc (.cells #[.int .i64 rk, .int .i64 rd, .int .i64 ra, .int .i64 rb, .int .i64 ro, .int .i64 rn, .string (mk rm), va] 36)) (.cells #[.int .i64 0, .int .i64 0, .int .i64 0, .int .i64 0, .int .i64 0, .int .i64 0, .string ⟨#[]⟩, .slice none 0 0] 36)) (.cells #[.int .i64 9, .int .i64 d, .int .i64 0, .int .i64 0, .int .i64 0, .int .i64 0, .string ⟨#[]⟩, .slice none 0 0] 36)
  clear hnc
  go_wp2_with fail
  go_loopw [7] (fun iv wr => ∃ (j : Nat) (va' : Value), iv = .int .i64 j ∧ j ≤ k ∧ LI w wr #[.int .i64 rk, .int .i64 rd, .int .i64 ra, .int .i64 rb, .int .i64 ro, .int .i64 rn, .string (mk rm), va] d nm ra rb j va') (fun iv wr => k - slotN iv)
  case atStart =>
    refine ⟨0, _, rfl, Nat.zero_le _, ?_, ?_, ?_, World.ownsRow_nil _ _ _ _, ext_alloc (ext_alloc (ext_alloc (Below.refl _ _) _) _) _⟩
    · exact (Lib.alloc_old _ _ _ (by simp; omega)).trans ((Lib.alloc_old _ _ _ (by simp)).trans (heap_new w _))
    · exact (Lib.alloc_old _ _ _ (by simp)).trans (heap_new' _ _ _ (by simp))
    · exact heap_new' _ _ _ (by simp)
  case round =>
    obtain ⟨j, va', rfl, hj, hI⟩ := hrel
    have hsz := hI.sz
    obtain ⟨pv, capv, hvv⟩ := own_slice hI.ow
    subst hvv
    have HI := Lib.hid hI
    obtain ⟨⟨c0, c1, c2, c3, c4, c5, c6, c7⟩, f0, f1, f2, f3, f4, f5, f6, f7⟩ := eight_at hI.xx
    obtain ⟨⟨b0, b1, b2, b3, b4, b5, b6, b7⟩, _⟩ := eight_at hI.bx
    clear hI
    by_cases h : j < k
    · have hji : (j : Int) < k := by omega
      obtain ⟨q, hq⟩ : ∃ q, pickN (wrap64 (ra + wrap64 ((j : Int) * rb))) 10 = q := ⟨_, rfl⟩
      have HPK : Hid (∀ w, Calls Tryd.prog 16 #[.int .i64 (IntKind.i64.wrap (ra + IntKind.i64.wrap ((j : Int) * rb))), .int .i64 10] w fun e w' => e = .returned (.int .i64 q) ∧ w = w') := Lib.hid (fun w => by rw [i64_w, i64_w]; exact pick_eq _ 10 q hq (wrap_i64 _) (by decide) w)
      have HQ := Lib.hid hq
      clear hq
      obtain ⟨i0, hi0, hz0, hz1, hz2⟩ := info_parts infoN
      have hl0 : w.heap.size < wr.heap.size := by omega
      have hl2 : w.heap.size + 1 + 1 < wr.heap.size := by omega
      clear c0 c1 c2 c3 c4 c5 c6 b0 b1 b4 b5 b6 b7 f0 f1 f2 f3 f4 f5 f6
      go_wp2_with fail
      go_region_law ((first
        | (go_simp; go_at_call 16; refine (HPK.out _).mono ?_; rintro e w5 ⟨rfl, rfl⟩)
        | go_loud (refine step_append_lies _ (by rfl) _ _ _ (by rfl) (w.heap.size + 3) 3 i0 _ 1 8 Tryd.underlying34 hi0 hz0 hz1 hz2 rfl (by omega) _ j ((argsOf j ra rb).flatMap cellsN) (by rfl) (own_ext HI.out.ow (ext_alloc (ext_drew (Below.refl _ _)) _)) ⟨wr.heap.size, 0, none⟩ 1 1 (cellsN q) (by rfl) (by rfl) (World.news_of_block (cs := #[.int .i64 q]) (t := 3) (fr := (0, 0)) (heap_new' _ _ _ (by simp))) (oneN _) (by omega) (by unfold maxLen; omega) (by omega) (by simp; omega) (wr.heap.size + 1) (by simp) ?_; intro gg cap6 w6 hown6 hg6 hat6 hlt6; have HI6 := Lib.hid (HI.out.next HQ.out hown6 (grown_after hg6 (ext_alloc (ext_drew (Below.refl _ _)) _))); have f7 := HI.out.fz (ext_alloc (ext_drew (Below.refl _ _)) _) hg6; have c7 := HI.out.cz (ext_alloc (ext_drew (Below.refl _ _)) _) hg6)))
      all_goals
        go_wp2_with fail
        go_roundw
        case rel => exact ⟨j + 1, _, by go_num, by omega, HI6.out⟩
        case measure => simp [slotN]; omega
    · obtain rfl : j = k := by omega
      obtain ⟨wf, hwf, hhf, hbf, hoth⟩ := eight_store HI.out.rs HI.out.bl (by omega) (.int .i64 9) (.int .i64 d) (.int .i64 0) (.int .i64 0) (.int .i64 0) (.int .i64 0) (.string (mk nm)) (.slice pv j capv)
      have hnum : NumsAt (fun b => w.heap.size ≤ b) wf (.slice pv j capv) (argsOf j ra rb) :=
        nums_wide (A := fun b => w.heap.size + 3 ≤ b) (fun b hb => by omega) (nums_kept (w := wr) (row_nums HI.out.ow (by rw [argsOf_len]; omega) (fun g hg => (HI.out.ow.lt g hg).1)) (fun b hb _ => hoth b (by omega)))
      have HNU := Lib.hid hnum
      have HWF := Lib.hid hwf
      have HHF := Lib.hid hhf
      have HBF := Lib.hid hbf
      clear hwf hhf hbf hoth hnum b0 b1 b2 b3 b4 b5 b6 b7
      have hl0 : w.heap.size < wr.heap.size := by omega
      have hl1 : w.heap.size + 1 < wr.heap.size := by omega
      obtain ⟨⟨d0, d1, d2, d3, d4, d5, d6, d7⟩, g0, g1, g2, g3, g4, g5, g6, g7⟩ := eight_at HI.out.rs
      go_wp2_with fail
      refine bodyPost_world HWF.out ?_
      clear c0 c1 c2 c3 c4 c5 c6 c7 f0 f1 f2 f3 f4 f5 f6 f7 d0 d1 d2 d3 d4 d5 d6 d7 g0 g1 g2 g3 g4 g5 g6 g7
      obtain ⟨⟨c0, c1, c2, c3, c4, c5, c6, c7⟩, _⟩ := eight_at HHF.out
      exact bodyPost_ret (v := .agg #[.int .i64 9, .int .i64 d, .int .i64 0, .int .i64 0, .int .i64 0, .int .i64 0, .string (mk nm), .slice pv j capv]) (by simp [results, Tryd.results12, go_sem, c0, c1, c2, c3, c4, c5, c6, c7]) rfl ⟨xn_res (y := ⟨9, d, 0, 0, 0, 0, nm, argsOf j ra rb⟩) HV.out HNU.out, HBF.out⟩
theorem nms_cell {w : World} {g k : Nat} (h : NmsAt w g) (hk : k < 3) : w.cell? ⟨g, k, none⟩ = some (.string (mk (namesL.getD k []))) := by
  have h' := cell_row h k
  rcases (by omega : k = 0 ∨ k = 1 ∨ k = 2) with rfl | rfl | rfl <;> exact h'
theorem lins_any (r : Xn) (hr : AllX r) (va : Value) (g : Nat) (w : World) (hg : NmsAt w g) :
    Calls Tryd.prog 12 #[rawV r va, .slice (some ⟨g, 0, none⟩) 3 3] w fun e w' => XnRes w.heap.size (insF r) e w' ∧ Below w.heap.size w w' := by
  have k0 := pickN_lo r.kind 9 (by decide)
  have k1 := pickN_hi r.kind 9 (by decide)
  have m0 := pickN_lo r.n 2 (by decide)
  have m1 := pickN_hi r.n 2 (by decide)
  have c0 := pickN_lo r.n 3 (by decide)
  have c1 := pickN_hi r.n 3 (by decide)
  rcases (by omega : pickN r.n 2 = 0 ∨ pickN r.n 2 = 1) with hn | hn
  all_goals
    rcases (by omega : pickN r.kind 9 = 0 ∨ pickN r.kind 9 = 1 ∨ pickN r.kind 9 = 2 ∨ pickN r.kind 9 = 3 ∨ pickN r.kind 9 = 4 ∨ pickN r.kind 9 = 5 ∨ pickN r.kind 9 = 6 ∨ pickN r.kind 9 = 7 ∨ pickN r.kind 9 = 8) with h | h | h | h | h | h | h | h | h
    all_goals first
      | exact lins_1 r hr va _ w h
      | exact lins_2 r hr va _ w h
      | exact lins_3 r hr va _ w h
      | exact lins_4 r hr va _ w h
      | exact lins_5a r hr va _ w h hn
      | exact lins_5b r hr va _ w h hn
      | exact lins_6a r hr va _ w h hn
      | exact lins_6b r hr va _ w h hn
      | exact lins_7 r hr va _ w h
      | exact lins_8 r hr va _ w h
      | exact lins_9 r hr va g w hg h (pickN r.n 3).toNat (by omega) (by omega) _ rfl (nms_cell hg (by omega))
end Go.Proofs.YtafapkljlajflaaDoor
