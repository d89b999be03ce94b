/- ir: what is asked of an instruction. -/
import Derived.Test.YtafapkljlajflaaDoorRows
import Derived.WalkKit
import Derived.ProofKit
import Derived.OpenShut
import Derived.WalkLawsBesides
import Derived.WalkSpells
import Derived.Outline
import Derived.Handy
import Derived.Lib.Hide
import Derived.Lib.OthersKept
import Derived.KernelRfl
import Derived.Carry
import Derived.RegionTactic
import Derived.BigRegion
import Derived.OwnWalk
import Derived.Deep.Cut
import Derived.IntWalk
import Derived.Deep.QuietTactic
import Derived.BigQuiet
import Derived.Deep.RegionHeld3
import Derived.Test.YtafapkljlajflaaDoorUq
namespace Go.Proofs.YtafapkljlajflaaDoor
open Go.ChangeShapes Go.WideShapes Go.ChangeAt Go.RowKit
set_option linter.unusedVariables false
theorem has_bits {k : Int} (h1 : 1 ≤ k) (h2 : k ≤ 9) : (hasK k == 0) = false ∧ (bits BinOp.and IntKind.i64 (hasK k) 1 != 0) = hD k ∧ (bits BinOp.and IntKind.i64 (hasK k) 2 != 0) = hA k ∧ (bits BinOp.and IntKind.i64 (hasK k) 4 != 0) = hB k ∧ (bits BinOp.and IntKind.i64 (hasK k) 8 != 0) = decide (k = 1) := by
  rcases nine h1 h2 with rfl | rfl | rfl | rfl | rfl | rfl | rfl | rfl | rfl <;> exact ⟨by kernel_rfl, by kernel_rfl, by kernel_rfl, by kernel_rfl, by kernel_rfl⟩
def insM (u : Un) (FA FF : List UInt8 → Option Int) (vals : Int) (x : Xn) : Bool :=
  decide (1 ≤ x.kind ∧ x.kind ≤ 9) && fitB vals (hD x.kind) x.d && fitB vals (hA x.kind) x.a && fitB vals (hB x.kind) x.b && (decide (x.kind = 1) || decide (x.n = 0)) && opB x.kind x.op && namM FA FF x.kind x.name && argM u FF vals x
structure BX (w wr : World) (F X : Array Value) : Prop where
  of ::
  fb : wr.heap[w.heap.size]? = some (.cells F 45 (0, 0))
  xb : wr.heap[w.heap.size + 1]? = some (.cells X 36 (0, 0))
  bl : Below w.heap.size w wr
theorem BX.ext {w wr wx : World} {F X : Array Value} (h : BX w wr F X) (g : Below wr.heap.size wr wx) : BX w wx F X :=
  ⟨(g.block _ (Array.getElem?_eq_some_iff.1 h.fb).1).trans h.fb, (g.block _ (Array.getElem?_eq_some_iff.1 h.xb).1).trans h.xb, ext_trans h.bl g⟩
theorem BX.start (w : World) (F X : Array Value) : BX w ((w.alloc (.cells F 45)).alloc (.cells X 36)) F X :=
  ⟨(Lib.alloc_old _ _ _ (by simp)).trans (heap_new w _), heap_new' _ _ _ (by simp), ext_alloc (ext_alloc (Below.refl _ _) _) _⟩
theorem eight_cells {w : World} {b : Nat} {v0 v1 v2 v3 v4 v5 v6 v7 : Value} {t : TypeId} (h : w.heap[b]? = some (.cells #[v0, v1, v2, v3, v4, v5, v6, v7] t (0, 0))) :
    w.cell? ⟨b, 0, none⟩ = some v0 ∧ w.cell? ⟨b, 1, none⟩ = some v1 ∧ w.cell? ⟨b, 2, none⟩ = some v2 ∧ w.cell? ⟨b, 3, none⟩ = some v3 ∧ w.cell? ⟨b, 4, none⟩ = some v4 ∧ w.cell? ⟨b, 5, none⟩ = some v5 ∧ w.cell? ⟨b, 6, none⟩ = some v6 ∧ w.cell? ⟨b, 7, none⟩ = some v7 := by
  simp [World.cell?, h]
set_option maxRecDepth 100000 in
set_option maxHeartbeats 8000000 in
theorem rins_any {w : World} {b : Nat} {u : Un} {va vf : Value} {ba na bf nf : Nat} {FA FF : List UInt8 → Option Int} (h : NI w b u va vf ba na bf nf FA FF) (nm : List UInt8) (p vals : Int) (vb : Value) (x : Xn) (vx : Value) (hx : NumsAt (fun _ => True) w vx x.args) (hl : x.name.length ≤ 140737488355328) (hP : x.kind = 9 → (FF x.name).isSome = true → ∃ i : Nat, FF x.name = some (i : Int) ∧ i < u.flows.length) :
    Calls Tryd.prog 40 #[.pointer (some ⟨b, 0, none⟩), flV nm p vals vb, xnV x vx] w fun e w' => e = .returned (.bool (insM u FA FF vals x)) ∧ Below w.heap.size w w' := by
  obtain ⟨k, d, a, bb, op, n, name, args⟩ := x
  simp only at hl hP hx
  have HK := Lib.hid (fun w => has_any k w)
  have HB0 := Lib.hid (BX.start w #[.string (mk nm), .int .i64 p, .int .i64 vals, vb] #[.int .i64 k, .int .i64 d, .int .i64 a, .int .i64 bb, .int .i64 op, .int .i64 n, .string (mk name), vx])
  by_cases hk : 1 ≤ k ∧ k ≤ 9
  case neg =>
    have E : Hid (insM u FA FF vals ⟨k, d, a, bb, op, n, name, args⟩ = false) := Lib.hid (by unfold insM; simp only; rw [decide_eq_false hk]; rfl)
    rw [hasK_no (by omega)] at HK
    clear hk h hx hP
    unfold flV xnV
    go_enter Tryd.func40, Tryd.ntmps40
    go_wp2_with fail
    refine (HK.out _).mono ?_; rintro e w1 ⟨rfl, rfl⟩
    go_wp2_with fail
    go_ret
    exact ⟨by rw [E.out]; rfl, HB0.out.bl⟩
  case pos =>
    obtain ⟨t0, t1, t2, t3, t4⟩ := has_bits hk.1 hk.2
    have HNM := Lib.hid (fun (w' : World) (g : Below w.heap.size w w') => rname_any (h.ext g) k name hl)
    have HFD := Lib.hid (fun w => fits_any nm p vals vb (hD k) d w)
    have HFA := Lib.hid (fun w => fits_any nm p vals vb (hA k) a w)
    have HFB := Lib.hid (fun w => fits_any nm p vals vb (hB k) bb w)
    have HOP := Lib.hid (fun w => rop_any k op w)
    have HRA := Lib.hid (fun (w' : World) (g : Below w.heap.size w w') (hs : namM FA FF k name = true) => rargs_any (h.ext g) nm p vals vb ⟨k, d, a, bb, op, n, name, args⟩ vx (nums_kept hx (kept_below g)) hl (fun h9 => hP h9 (by
      have h9' : k = 9 := h9
      rw [h9'] at hs
      exact hs)))
    have E : Hid (insM u FA FF vals ⟨k, d, a, bb, op, n, name, args⟩ = (fitB vals (hD k) d && fitB vals (hA k) a && fitB vals (hB k) bb && (decide (k = 1) || (n == 0)) && opB k op && namM FA FF k name && argM u FF vals ⟨k, d, a, bb, op, n, name, args⟩)) := Lib.hid (by
      have hn : decide (n = 0) = (n == 0) := by by_cases h : n = 0 <;> simp [h]
      unfold insM
      simp only
      rw [decide_eq_true hk, hn]; rfl)
    have r0 : (bits BinOp.and IntKind.i64 (hasK k) 1 == 0) = !hD k := by rw [← t1]; simp [bne]
    have r1 : (bits BinOp.and IntKind.i64 (hasK k) 2 == 0) = !hA k := by rw [← t2]; simp [bne]
    have r2 : (bits BinOp.and IntKind.i64 (hasK k) 4 == 0) = !hB k := by rw [← t3]; simp [bne]
    have r3 : (bits BinOp.and IntKind.i64 (hasK k) 8 == 0) = !decide (k = 1) := by rw [← t4]; simp [bne]
    unfold flV xnV
    unfold flV at HFD HFA HFB
    unfold flV xnV at HRA
    clear hk h hx hP
    generalize insM u FA FF vals ⟨k, d, a, bb, op, n, name, args⟩ = R at *
    generalize hasK k = hk at *
    generalize fitB vals (hD k) d = x1 at *
    generalize fitB vals (hA k) a = x2 at *
    generalize fitB vals (hB k) bb = x3 at *
    generalize hD k = dB at *
    generalize hA k = aB at *
    generalize hB k = bB at *
    generalize opB k op = x5 at *
    generalize namM FA FF k name = x6 at *
    generalize argM u FF vals ⟨k, d, a, bb, op, n, name, args⟩ = x7 at *
    generalize decide (k = 1) = nB at *
    generalize hn0 : (n == 0) = n0 at *
    have hn1 := hn0
    clear hn0
    cases x1
    case false =>
      go_enter Tryd.func40, Tryd.ntmps40
      go_wp2_with fail
      refine (HK.out _).mono ?_; rintro e w1 ⟨rfl, rfl⟩
      go_wp2_with fail
      refine (HFD.out _).mono ?_; rintro e w1 ⟨rfl, g⟩
      have HB1 := Lib.hid (HB0.out.ext g)
      clear g
      obtain ⟨f0, f1, f2, f3⟩ := four_at' HB1.out.fb
      have hz : w.heap.size + 1 < w1.heap.size := (Array.getElem?_eq_some_iff.1 HB1.out.xb).1
      have hz0 : w.heap.size < w1.heap.size := by omega
      obtain ⟨c0, c1, c2, c3, c4, c5, c6, c7⟩ := eight_cells HB1.out.xb
      go_wp2_with fail
      go_ret
      exact ⟨by rw [E.out]; rfl, HB1.out.bl⟩
    cases x2
    case false =>
      go_enter Tryd.func40, Tryd.ntmps40
      go_wp2_with fail
      refine (HK.out _).mono ?_; rintro e w1 ⟨rfl, rfl⟩
      go_wp2_with fail
      refine (HFD.out _).mono ?_; rintro e w1 ⟨rfl, g⟩
      have HB1 := Lib.hid (HB0.out.ext g)
      clear g
      obtain ⟨f0, f1, f2, f3⟩ := four_at' HB1.out.fb
      have hz : w.heap.size + 1 < w1.heap.size := (Array.getElem?_eq_some_iff.1 HB1.out.xb).1
      have hz0 : w.heap.size < w1.heap.size := by omega
      obtain ⟨c0, c1, c2, c3, c4, c5, c6, c7⟩ := eight_cells HB1.out.xb
      go_wp2_with fail
      refine (HFA.out _).mono ?_; rintro e w2 ⟨rfl, g⟩
      have HB2 := Lib.hid (HB1.out.ext g)
      clear g
      clear f0 f1 f2 f3 c0 c1 c2 c3 c4 c5 c6 c7 hz hz0
      obtain ⟨f0, f1, f2, f3⟩ := four_at' HB2.out.fb
      have hz : w.heap.size + 1 < w2.heap.size := (Array.getElem?_eq_some_iff.1 HB2.out.xb).1
      have hz0 : w.heap.size < w2.heap.size := by omega
      obtain ⟨c0, c1, c2, c3, c4, c5, c6, c7⟩ := eight_cells HB2.out.xb
      go_wp2_with fail
      go_ret
      exact ⟨by rw [E.out]; rfl, HB2.out.bl⟩
    cases x3
    case false =>
      go_enter Tryd.func40, Tryd.ntmps40
      go_wp2_with fail
      refine (HK.out _).mono ?_; rintro e w1 ⟨rfl, rfl⟩
      go_wp2_with fail
      refine (HFD.out _).mono ?_; rintro e w1 ⟨rfl, g⟩
      have HB1 := Lib.hid (HB0.out.ext g)
      clear g
      obtain ⟨f0, f1, f2, f3⟩ := four_at' HB1.out.fb
      have hz : w.heap.size + 1 < w1.heap.size := (Array.getElem?_eq_some_iff.1 HB1.out.xb).1
      have hz0 : w.heap.size < w1.heap.size := by omega
      obtain ⟨c0, c1, c2, c3, c4, c5, c6, c7⟩ := eight_cells HB1.out.xb
      go_wp2_with fail
      refine (HFA.out _).mono ?_; rintro e w2 ⟨rfl, g⟩
      have HB2 := Lib.hid (HB1.out.ext g)
      clear g
      clear f0 f1 f2 f3 c0 c1 c2 c3 c4 c5 c6 c7 hz hz0
      obtain ⟨f0, f1, f2, f3⟩ := four_at' HB2.out.fb
      have hz : w.heap.size + 1 < w2.heap.size := (Array.getElem?_eq_some_iff.1 HB2.out.xb).1
      have hz0 : w.heap.size < w2.heap.size := by omega
      obtain ⟨c0, c1, c2, c3, c4, c5, c6, c7⟩ := eight_cells HB2.out.xb
      go_wp2_with fail
      refine (HFB.out _).mono ?_; rintro e w3 ⟨rfl, g⟩
      have HB3 := Lib.hid (HB2.out.ext g)
      clear g
      clear f0 f1 f2 f3 c0 c1 c2 c3 c4 c5 c6 c7 hz hz0
      obtain ⟨f0, f1, f2, f3⟩ := four_at' HB3.out.fb
      have hz : w.heap.size + 1 < w3.heap.size := (Array.getElem?_eq_some_iff.1 HB3.out.xb).1
      have hz0 : w.heap.size < w3.heap.size := by omega
      obtain ⟨c0, c1, c2, c3, c4, c5, c6, c7⟩ := eight_cells HB3.out.xb
      go_wp2_with fail
      go_ret
      exact ⟨by rw [E.out]; rfl, HB3.out.bl⟩
    cases nB
    case false =>
      cases n0
      case false =>
        go_enter Tryd.func40, Tryd.ntmps40
        go_wp2_with fail
        refine (HK.out _).mono ?_; rintro e w1 ⟨rfl, rfl⟩
        go_wp2_with fail
        refine (HFD.out _).mono ?_; rintro e w1 ⟨rfl, g⟩
        have HB1 := Lib.hid (HB0.out.ext g)
        clear g
        obtain ⟨f0, f1, f2, f3⟩ := four_at' HB1.out.fb
        have hz : w.heap.size + 1 < w1.heap.size := (Array.getElem?_eq_some_iff.1 HB1.out.xb).1
        have hz0 : w.heap.size < w1.heap.size := by omega
        obtain ⟨c0, c1, c2, c3, c4, c5, c6, c7⟩ := eight_cells HB1.out.xb
        go_wp2_with fail
        refine (HFA.out _).mono ?_; rintro e w2 ⟨rfl, g⟩
        have HB2 := Lib.hid (HB1.out.ext g)
        clear g
        clear f0 f1 f2 f3 c0 c1 c2 c3 c4 c5 c6 c7 hz hz0
        obtain ⟨f0, f1, f2, f3⟩ := four_at' HB2.out.fb
        have hz : w.heap.size + 1 < w2.heap.size := (Array.getElem?_eq_some_iff.1 HB2.out.xb).1
        have hz0 : w.heap.size < w2.heap.size := by omega
        obtain ⟨c0, c1, c2, c3, c4, c5, c6, c7⟩ := eight_cells HB2.out.xb
        go_wp2_with fail
        refine (HFB.out _).mono ?_; rintro e w3 ⟨rfl, g⟩
        have HB3 := Lib.hid (HB2.out.ext g)
        clear g
        clear f0 f1 f2 f3 c0 c1 c2 c3 c4 c5 c6 c7 hz hz0
        obtain ⟨f0, f1, f2, f3⟩ := four_at' HB3.out.fb
        have hz : w.heap.size + 1 < w3.heap.size := (Array.getElem?_eq_some_iff.1 HB3.out.xb).1
        have hz0 : w.heap.size < w3.heap.size := by omega
        obtain ⟨c0, c1, c2, c3, c4, c5, c6, c7⟩ := eight_cells HB3.out.xb
        go_wp2_with fail
        go_ret
        exact ⟨by rw [E.out]; rfl, HB3.out.bl⟩
      cases x5
      case false =>
        go_enter Tryd.func40, Tryd.ntmps40
        go_wp2_with fail
        refine (HK.out _).mono ?_; rintro e w1 ⟨rfl, rfl⟩
        go_wp2_with fail
        refine (HFD.out _).mono ?_; rintro e w1 ⟨rfl, g⟩
        have HB1 := Lib.hid (HB0.out.ext g)
        clear g
        obtain ⟨f0, f1, f2, f3⟩ := four_at' HB1.out.fb
        have hz : w.heap.size + 1 < w1.heap.size := (Array.getElem?_eq_some_iff.1 HB1.out.xb).1
        have hz0 : w.heap.size < w1.heap.size := by omega
        obtain ⟨c0, c1, c2, c3, c4, c5, c6, c7⟩ := eight_cells HB1.out.xb
        go_wp2_with fail
        refine (HFA.out _).mono ?_; rintro e w2 ⟨rfl, g⟩
        have HB2 := Lib.hid (HB1.out.ext g)
        clear g
        clear f0 f1 f2 f3 c0 c1 c2 c3 c4 c5 c6 c7 hz hz0
        obtain ⟨f0, f1, f2, f3⟩ := four_at' HB2.out.fb
        have hz : w.heap.size + 1 < w2.heap.size := (Array.getElem?_eq_some_iff.1 HB2.out.xb).1
        have hz0 : w.heap.size < w2.heap.size := by omega
        obtain ⟨c0, c1, c2, c3, c4, c5, c6, c7⟩ := eight_cells HB2.out.xb
        go_wp2_with fail
        refine (HFB.out _).mono ?_; rintro e w3 ⟨rfl, g⟩
        have HB3 := Lib.hid (HB2.out.ext g)
        clear g
        clear f0 f1 f2 f3 c0 c1 c2 c3 c4 c5 c6 c7 hz hz0
        obtain ⟨f0, f1, f2, f3⟩ := four_at' HB3.out.fb
        have hz : w.heap.size + 1 < w3.heap.size := (Array.getElem?_eq_some_iff.1 HB3.out.xb).1
        have hz0 : w.heap.size < w3.heap.size := by omega
        obtain ⟨c0, c1, c2, c3, c4, c5, c6, c7⟩ := eight_cells HB3.out.xb
        go_wp2_with fail
        refine (HOP.out _).mono ?_; rintro e w4 ⟨rfl, g⟩
        have HB4 := Lib.hid (HB3.out.ext g)
        clear g
        clear f0 f1 f2 f3 c0 c1 c2 c3 c4 c5 c6 c7 hz hz0
        obtain ⟨f0, f1, f2, f3⟩ := four_at' HB4.out.fb
        have hz : w.heap.size + 1 < w4.heap.size := (Array.getElem?_eq_some_iff.1 HB4.out.xb).1
        have hz0 : w.heap.size < w4.heap.size := by omega
        obtain ⟨c0, c1, c2, c3, c4, c5, c6, c7⟩ := eight_cells HB4.out.xb
        go_wp2_with fail
        go_ret
        exact ⟨by rw [E.out]; rfl, HB4.out.bl⟩
      cases x6
      case false =>
        go_enter Tryd.func40, Tryd.ntmps40
        go_wp2_with fail
        refine (HK.out _).mono ?_; rintro e w1 ⟨rfl, rfl⟩
        go_wp2_with fail
        refine (HFD.out _).mono ?_; rintro e w1 ⟨rfl, g⟩
        have HB1 := Lib.hid (HB0.out.ext g)
        clear g
        obtain ⟨f0, f1, f2, f3⟩ := four_at' HB1.out.fb
        have hz : w.heap.size + 1 < w1.heap.size := (Array.getElem?_eq_some_iff.1 HB1.out.xb).1
        have hz0 : w.heap.size < w1.heap.size := by omega
        obtain ⟨c0, c1, c2, c3, c4, c5, c6, c7⟩ := eight_cells HB1.out.xb
        go_wp2_with fail
        refine (HFA.out _).mono ?_; rintro e w2 ⟨rfl, g⟩
        have HB2 := Lib.hid (HB1.out.ext g)
        clear g
        clear f0 f1 f2 f3 c0 c1 c2 c3 c4 c5 c6 c7 hz hz0
        obtain ⟨f0, f1, f2, f3⟩ := four_at' HB2.out.fb
        have hz : w.heap.size + 1 < w2.heap.size := (Array.getElem?_eq_some_iff.1 HB2.out.xb).1
        have hz0 : w.heap.size < w2.heap.size := by omega
        obtain ⟨c0, c1, c2, c3, c4, c5, c6, c7⟩ := eight_cells HB2.out.xb
        go_wp2_with fail
        refine (HFB.out _).mono ?_; rintro e w3 ⟨rfl, g⟩
        have HB3 := Lib.hid (HB2.out.ext g)
        clear g
        clear f0 f1 f2 f3 c0 c1 c2 c3 c4 c5 c6 c7 hz hz0
        obtain ⟨f0, f1, f2, f3⟩ := four_at' HB3.out.fb
        have hz : w.heap.size + 1 < w3.heap.size := (Array.getElem?_eq_some_iff.1 HB3.out.xb).1
        have hz0 : w.heap.size < w3.heap.size := by omega
        obtain ⟨c0, c1, c2, c3, c4, c5, c6, c7⟩ := eight_cells HB3.out.xb
        go_wp2_with fail
        refine (HOP.out _).mono ?_; rintro e w4 ⟨rfl, g⟩
        have HB4 := Lib.hid (HB3.out.ext g)
        clear g
        clear f0 f1 f2 f3 c0 c1 c2 c3 c4 c5 c6 c7 hz hz0
        obtain ⟨f0, f1, f2, f3⟩ := four_at' HB4.out.fb
        have hz : w.heap.size + 1 < w4.heap.size := (Array.getElem?_eq_some_iff.1 HB4.out.xb).1
        have hz0 : w.heap.size < w4.heap.size := by omega
        obtain ⟨c0, c1, c2, c3, c4, c5, c6, c7⟩ := eight_cells HB4.out.xb
        go_wp2_with fail
        refine (HNM.out _ HB4.out.bl).mono ?_; rintro e w5 ⟨rfl, rfl⟩
        go_wp2_with fail
        go_ret
        exact ⟨by rw [E.out]; rfl, HB4.out.bl⟩
      cases x7
      all_goals
        go_enter Tryd.func40, Tryd.ntmps40
        go_wp2_with fail
        refine (HK.out _).mono ?_; rintro e w1 ⟨rfl, rfl⟩
        go_wp2_with fail
        refine (HFD.out _).mono ?_; rintro e w1 ⟨rfl, g⟩
        have HB1 := Lib.hid (HB0.out.ext g)
        clear g
        obtain ⟨f0, f1, f2, f3⟩ := four_at' HB1.out.fb
        have hz : w.heap.size + 1 < w1.heap.size := (Array.getElem?_eq_some_iff.1 HB1.out.xb).1
        have hz0 : w.heap.size < w1.heap.size := by omega
        obtain ⟨c0, c1, c2, c3, c4, c5, c6, c7⟩ := eight_cells HB1.out.xb
        go_wp2_with fail
        refine (HFA.out _).mono ?_; rintro e w2 ⟨rfl, g⟩
        have HB2 := Lib.hid (HB1.out.ext g)
        clear g
        clear f0 f1 f2 f3 c0 c1 c2 c3 c4 c5 c6 c7 hz hz0
        obtain ⟨f0, f1, f2, f3⟩ := four_at' HB2.out.fb
        have hz : w.heap.size + 1 < w2.heap.size := (Array.getElem?_eq_some_iff.1 HB2.out.xb).1
        have hz0 : w.heap.size < w2.heap.size := by omega
        obtain ⟨c0, c1, c2, c3, c4, c5, c6, c7⟩ := eight_cells HB2.out.xb
        go_wp2_with fail
        refine (HFB.out _).mono ?_; rintro e w3 ⟨rfl, g⟩
        have HB3 := Lib.hid (HB2.out.ext g)
        clear g
        clear f0 f1 f2 f3 c0 c1 c2 c3 c4 c5 c6 c7 hz hz0
        obtain ⟨f0, f1, f2, f3⟩ := four_at' HB3.out.fb
        have hz : w.heap.size + 1 < w3.heap.size := (Array.getElem?_eq_some_iff.1 HB3.out.xb).1
        have hz0 : w.heap.size < w3.heap.size := by omega
        obtain ⟨c0, c1, c2, c3, c4, c5, c6, c7⟩ := eight_cells HB3.out.xb
        go_wp2_with fail
        refine (HOP.out _).mono ?_; rintro e w4 ⟨rfl, g⟩
        have HB4 := Lib.hid (HB3.out.ext g)
        clear g
        clear f0 f1 f2 f3 c0 c1 c2 c3 c4 c5 c6 c7 hz hz0
        obtain ⟨f0, f1, f2, f3⟩ := four_at' HB4.out.fb
        have hz : w.heap.size + 1 < w4.heap.size := (Array.getElem?_eq_some_iff.1 HB4.out.xb).1
        have hz0 : w.heap.size < w4.heap.size := by omega
        obtain ⟨c0, c1, c2, c3, c4, c5, c6, c7⟩ := eight_cells HB4.out.xb
        go_wp2_with fail
        refine (HNM.out _ HB4.out.bl).mono ?_; rintro e w5 ⟨rfl, rfl⟩
        go_wp2_with fail
        refine (HRA.out _ HB4.out.bl (by first | rfl | trivial)).mono ?_; rintro e w6 ⟨rfl, g⟩
        have HB6 := Lib.hid (HB4.out.ext g)
        clear g
        go_wp2_with fail
        go_ret
        exact ⟨by rw [E.out]; rfl, HB6.out.bl⟩
    cases x5
    case false =>
      go_enter Tryd.func40, Tryd.ntmps40
      go_wp2_with fail
      refine (HK.out _).mono ?_; rintro e w1 ⟨rfl, rfl⟩
      go_wp2_with fail
      refine (HFD.out _).mono ?_; rintro e w1 ⟨rfl, g⟩
      have HB1 := Lib.hid (HB0.out.ext g)
      clear g
      obtain ⟨f0, f1, f2, f3⟩ := four_at' HB1.out.fb
      have hz : w.heap.size + 1 < w1.heap.size := (Array.getElem?_eq_some_iff.1 HB1.out.xb).1
      have hz0 : w.heap.size < w1.heap.size := by omega
      obtain ⟨c0, c1, c2, c3, c4, c5, c6, c7⟩ := eight_cells HB1.out.xb
      go_wp2_with fail
      refine (HFA.out _).mono ?_; rintro e w2 ⟨rfl, g⟩
      have HB2 := Lib.hid (HB1.out.ext g)
      clear g
      clear f0 f1 f2 f3 c0 c1 c2 c3 c4 c5 c6 c7 hz hz0
      obtain ⟨f0, f1, f2, f3⟩ := four_at' HB2.out.fb
      have hz : w.heap.size + 1 < w2.heap.size := (Array.getElem?_eq_some_iff.1 HB2.out.xb).1
      have hz0 : w.heap.size < w2.heap.size := by omega
      obtain ⟨c0, c1, c2, c3, c4, c5, c6, c7⟩ := eight_cells HB2.out.xb
      go_wp2_with fail
      refine (HFB.out _).mono ?_; rintro e w3 ⟨rfl, g⟩
      have HB3 := Lib.hid (HB2.out.ext g)
      clear g
      clear f0 f1 f2 f3 c0 c1 c2 c3 c4 c5 c6 c7 hz hz0
      obtain ⟨f0, f1, f2, f3⟩ := four_at' HB3.out.fb
      have hz : w.heap.size + 1 < w3.heap.size := (Array.getElem?_eq_some_iff.1 HB3.out.xb).1
      have hz0 : w.heap.size < w3.heap.size := by omega
      obtain ⟨c0, c1, c2, c3, c4, c5, c6, c7⟩ := eight_cells HB3.out.xb
      go_wp2_with fail
      refine (HOP.out _).mono ?_; rintro e w4 ⟨rfl, g⟩
      have HB4 := Lib.hid (HB3.out.ext g)
      clear g
      clear f0 f1 f2 f3 c0 c1 c2 c3 c4 c5 c6 c7 hz hz0
      obtain ⟨f0, f1, f2, f3⟩ := four_at' HB4.out.fb
      have hz : w.heap.size + 1 < w4.heap.size := (Array.getElem?_eq_some_iff.1 HB4.out.xb).1
      have hz0 : w.heap.size < w4.heap.size := by omega
      obtain ⟨c0, c1, c2, c3, c4, c5, c6, c7⟩ := eight_cells HB4.out.xb
      go_wp2_with fail
      go_ret
      exact ⟨by rw [E.out]; rfl, HB4.out.bl⟩
    cases x6
    case false =>
      go_enter Tryd.func40, Tryd.ntmps40
      go_wp2_with fail
      refine (HK.out _).mono ?_; rintro e w1 ⟨rfl, rfl⟩
      go_wp2_with fail
      refine (HFD.out _).mono ?_; rintro e w1 ⟨rfl, g⟩
      have HB1 := Lib.hid (HB0.out.ext g)
      clear g
      obtain ⟨f0, f1, f2, f3⟩ := four_at' HB1.out.fb
      have hz : w.heap.size + 1 < w1.heap.size := (Array.getElem?_eq_some_iff.1 HB1.out.xb).1
      have hz0 : w.heap.size < w1.heap.size := by omega
      obtain ⟨c0, c1, c2, c3, c4, c5, c6, c7⟩ := eight_cells HB1.out.xb
      go_wp2_with fail
      refine (HFA.out _).mono ?_; rintro e w2 ⟨rfl, g⟩
      have HB2 := Lib.hid (HB1.out.ext g)
      clear g
      clear f0 f1 f2 f3 c0 c1 c2 c3 c4 c5 c6 c7 hz hz0
      obtain ⟨f0, f1, f2, f3⟩ := four_at' HB2.out.fb
      have hz : w.heap.size + 1 < w2.heap.size := (Array.getElem?_eq_some_iff.1 HB2.out.xb).1
      have hz0 : w.heap.size < w2.heap.size := by omega
      obtain ⟨c0, c1, c2, c3, c4, c5, c6, c7⟩ := eight_cells HB2.out.xb
      go_wp2_with fail
      refine (HFB.out _).mono ?_; rintro e w3 ⟨rfl, g⟩
      have HB3 := Lib.hid (HB2.out.ext g)
      clear g
      clear f0 f1 f2 f3 c0 c1 c2 c3 c4 c5 c6 c7 hz hz0
      obtain ⟨f0, f1, f2, f3⟩ := four_at' HB3.out.fb
      have hz : w.heap.size + 1 < w3.heap.size := (Array.getElem?_eq_some_iff.1 HB3.out.xb).1
      have hz0 : w.heap.size < w3.heap.size := by omega
      obtain ⟨c0, c1, c2, c3, c4, c5, c6, c7⟩ := eight_cells HB3.out.xb
      go_wp2_with fail
      refine (HOP.out _).mono ?_; rintro e w4 ⟨rfl, g⟩
      have HB4 := Lib.hid (HB3.out.ext g)
      clear g
      clear f0 f1 f2 f3 c0 c1 c2 c3 c4 c5 c6 c7 hz hz0
      obtain ⟨f0, f1, f2, f3⟩ := four_at' HB4.out.fb
      have hz : w.heap.size + 1 < w4.heap.size := (Array.getElem?_eq_some_iff.1 HB4.out.xb).1
      have hz0 : w.heap.size < w4.heap.size := by omega
      obtain ⟨c0, c1, c2, c3, c4, c5, c6, c7⟩ := eight_cells HB4.out.xb
      go_wp2_with fail
      refine (HNM.out _ HB4.out.bl).mono ?_; rintro e w5 ⟨rfl, rfl⟩
      go_wp2_with fail
      go_ret
      exact ⟨by rw [E.out]; rfl, HB4.out.bl⟩
    cases x7
    all_goals
      go_enter Tryd.func40, Tryd.ntmps40
      go_wp2_with fail
      refine (HK.out _).mono ?_; rintro e w1 ⟨rfl, rfl⟩
      go_wp2_with fail
      refine (HFD.out _).mono ?_; rintro e w1 ⟨rfl, g⟩
      have HB1 := Lib.hid (HB0.out.ext g)
      clear g
      obtain ⟨f0, f1, f2, f3⟩ := four_at' HB1.out.fb
      have hz : w.heap.size + 1 < w1.heap.size := (Array.getElem?_eq_some_iff.1 HB1.out.xb).1
      have hz0 : w.heap.size < w1.heap.size := by omega
      obtain ⟨c0, c1, c2, c3, c4, c5, c6, c7⟩ := eight_cells HB1.out.xb
      go_wp2_with fail
      refine (HFA.out _).mono ?_; rintro e w2 ⟨rfl, g⟩
      have HB2 := Lib.hid (HB1.out.ext g)
      clear g
      clear f0 f1 f2 f3 c0 c1 c2 c3 c4 c5 c6 c7 hz hz0
      obtain ⟨f0, f1, f2, f3⟩ := four_at' HB2.out.fb
      have hz : w.heap.size + 1 < w2.heap.size := (Array.getElem?_eq_some_iff.1 HB2.out.xb).1
      have hz0 : w.heap.size < w2.heap.size := by omega
      obtain ⟨c0, c1, c2, c3, c4, c5, c6, c7⟩ := eight_cells HB2.out.xb
      go_wp2_with fail
      refine (HFB.out _).mono ?_; rintro e w3 ⟨rfl, g⟩
      have HB3 := Lib.hid (HB2.out.ext g)
      clear g
      clear f0 f1 f2 f3 c0 c1 c2 c3 c4 c5 c6 c7 hz hz0
      obtain ⟨f0, f1, f2, f3⟩ := four_at' HB3.out.fb
      have hz : w.heap.size + 1 < w3.heap.size := (Array.getElem?_eq_some_iff.1 HB3.out.xb).1
      have hz0 : w.heap.size < w3.heap.size := by omega
      obtain ⟨c0, c1, c2, c3, c4, c5, c6, c7⟩ := eight_cells HB3.out.xb
      go_wp2_with fail
      refine (HOP.out _).mono ?_; rintro e w4 ⟨rfl, g⟩
      have HB4 := Lib.hid (HB3.out.ext g)
      clear g
      clear f0 f1 f2 f3 c0 c1 c2 c3 c4 c5 c6 c7 hz hz0
      obtain ⟨f0, f1, f2, f3⟩ := four_at' HB4.out.fb
      have hz : w.heap.size + 1 < w4.heap.size := (Array.getElem?_eq_some_iff.1 HB4.out.xb).1
      have hz0 : w.heap.size < w4.heap.size := by omega
      obtain ⟨c0, c1, c2, c3, c4, c5, c6, c7⟩ := eight_cells HB4.out.xb
      go_wp2_with fail
      refine (HNM.out _ HB4.out.bl).mono ?_; rintro e w5 ⟨rfl, rfl⟩
      go_wp2_with fail
      refine (HRA.out _ HB4.out.bl (by first | rfl | trivial)).mono ?_; rintro e w6 ⟨rfl, g⟩
      have HB6 := Lib.hid (HB4.out.ext g)
      clear g
      go_wp2_with fail
      go_ret
      exact ⟨by rw [E.out]; rfl, HB6.out.bl⟩
end Go.Proofs.YtafapkljlajflaaDoor
