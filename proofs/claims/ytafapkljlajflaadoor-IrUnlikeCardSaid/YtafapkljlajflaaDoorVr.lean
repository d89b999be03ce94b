/- The document's own Same, of instructions and of units. -/
import Derived.Test.YtafapkljlajflaaDoorRows
import Derived.WalkKit
import Derived.ProofKit
import Derived.OpenShut
import Derived.WalkLawsBesides
import Derived.WalkSpells
import Derived.Outline
import Derived.Handy
import Derived.Lib.Hide
import Derived.Lib.OthersKept
import Derived.KernelRfl
import Derived.Carry
import Derived.RegionTactic
import Derived.BigRegion
import Derived.OwnWalk
import Derived.Deep.Cut
import Derived.Deep.CutRange
import Derived.Deep.CutBlock
import Derived.IntWalk
import Derived.Deep.QuietTactic
import Derived.BigQuiet
import Derived.Deep.RegionHeld3
import Derived.Test.YtafapkljlajflaaDoorVb
import Derived.Test.YtafapkljlajflaaDoorUk
namespace Go.Proofs.YtafapkljlajflaaDoor
open Go.ChangeShapes Go.WideShapes Go.ChangeAt Go.RowKit
set_option linter.unusedVariables false
set_option maxRecDepth 100000 in
set_option maxHeartbeats 8000000 in
theorem same_ins (x y : Xn) (vx vy : Value) (w : World) (hx : NumsAt (fun b => b < w.heap.size) w vx x.args) (hy : NumsAt (fun b => b < w.heap.size) w vy y.args) :
    Calls Tryd.prog 27 #[xnV x vx, xnV y vy] w fun e w' => e = .returned (.bool (decide (x = y))) ∧ Below w.heap.size w w' := by
  obtain ⟨k, d, a, b, op, n, name, args⟩ := x
  obtain ⟨k', d', a', b', op', n', name', args'⟩ := y
  simp only at hx hy
  obtain ⟨_, pa, ca, rfl, hca⟩ := hx
  obtain ⟨_, pb, cb, rfl, hcb⟩ := hy
  have HX := Lib.hid hca
  have HY := Lib.hid hcb
  clear hca hcb
  have HT := Lib.hid (mk_tl name)
  have HT' := Lib.hid (mk_tl name')
  unfold xnV
  simp only
  have HG : Hid (∀ X Y, Below w.heap.size w ((w.alloc X).alloc Y)) := Lib.hid (fun X Y => ext_alloc (ext_alloc (Below.refl _ _) _) _)
  by_cases e : k = k'
  rotate_left
  · have hne : ¬ ((⟨k, d, a, b, op, n, name, args⟩ : Xn) = ⟨k', d', a', b', op', n', name', args'⟩) := fun h => e (congrArg Xn.kind h)
    rw [decide_eq_false hne]
    clear hne
    go_enter Tryd.func27, Tryd.ntmps27
    go_wp2_with fail
    go_ret
    exact ⟨rfl, HG.out _ _⟩
  subst e
  by_cases e : d = d'
  rotate_left
  · have hne : ¬ ((⟨k, d, a, b, op, n, name, args⟩ : Xn) = ⟨k, d', a', b', op', n', name', args'⟩) := fun h => e (congrArg Xn.d h)
    rw [decide_eq_false hne]
    clear hne
    go_enter Tryd.func27, Tryd.ntmps27
    go_wp2_with fail
    go_ret
    exact ⟨rfl, HG.out _ _⟩
  subst e
  by_cases e : a = a'
  rotate_left
  · have hne : ¬ ((⟨k, d, a, b, op, n, name, args⟩ : Xn) = ⟨k, d, a', b', op', n', name', args'⟩) := fun h => e (congrArg Xn.a h)
    rw [decide_eq_false hne]
    clear hne
    go_enter Tryd.func27, Tryd.ntmps27
    go_wp2_with fail
    go_ret
    exact ⟨rfl, HG.out _ _⟩
  subst e
  by_cases e : b = b'
  rotate_left
  · have hne : ¬ ((⟨k, d, a, b, op, n, name, args⟩ : Xn) = ⟨k, d, a, b', op', n', name', args'⟩) := fun h => e (congrArg Xn.b h)
    rw [decide_eq_false hne]
    clear hne
    go_enter Tryd.func27, Tryd.ntmps27
    go_wp2_with fail
    go_ret
    exact ⟨rfl, HG.out _ _⟩
  subst e
  by_cases e : op = op'
  rotate_left
  · have hne : ¬ ((⟨k, d, a, b, op, n, name, args⟩ : Xn) = ⟨k, d, a, b, op', n', name', args'⟩) := fun h => e (congrArg Xn.op h)
    rw [decide_eq_false hne]
    clear hne
    go_enter Tryd.func27, Tryd.ntmps27
    go_wp2_with fail
    go_ret
    exact ⟨rfl, HG.out _ _⟩
  subst e
  by_cases e : n = n'
  rotate_left
  · have hne : ¬ ((⟨k, d, a, b, op, n, name, args⟩ : Xn) = ⟨k, d, a, b, op, n', name', args'⟩) := fun h => e (congrArg Xn.n h)
    rw [decide_eq_false hne]
    clear hne
    go_enter Tryd.func27, Tryd.ntmps27
    go_wp2_with fail
    go_ret
    exact ⟨rfl, HG.out _ _⟩
  subst e
  by_cases e : name = name'
  rotate_left
  · have hne : ¬ ((⟨k, d, a, b, op, n, name, args⟩ : Xn) = ⟨k, d, a, b, op, n, name', args'⟩) := fun h => e (congrArg Xn.name h)
    rw [decide_eq_false hne]
    clear hne
    have hnm : ¬ (mk name).toList = (mk name').toList := by rw [HT.out, HT'.out]; exact e
    go_enter Tryd.func27, Tryd.ntmps27
    go_wp2_with fail
    go_ret
    exact ⟨rfl, HG.out _ _⟩
  subst e
  obtain ⟨res, hres⟩ : ∃ r : Bool, r = decide ((⟨k, d, a, b, op, n, name, args⟩ : Xn) = ⟨k, d, a, b, op, n, name, args'⟩) := ⟨_, rfl⟩
  have HR1 : Hid (args = args' → res = true) := Lib.hid (fun h => by rw [hres, h]; simp)
  have HR2 : Hid (args ≠ args' → res = false) := Lib.hid (fun h => by rw [hres]; exact decide_eq_false (fun q => h (congrArg Xn.args q)))
  rw [← hres]
  clear hres
  by_cases e : args.length = args'.length
  rotate_left
  · have hr : res = false := HR2.out (fun h => e (by rw [h]))
    subst hr
    have e' : ¬ ((args.length : Int) = args'.length) := by omega
    go_enter Tryd.func27, Tryd.ntmps27
    go_wp2_with fail
    go_ret
    exact ⟨rfl, HG.out _ _⟩
  have HE := Lib.hid e
  obtain ⟨m, hm⟩ : ∃ m, args.length = m := ⟨_, rfl⟩
  have hm' : args'.length = m := by rw [← e]; exact hm
  have HM := Lib.hid hm
  have HM' := Lib.hid hm'
  rw [hm, hm']
  clear hm hm' e
  have HB1 : Hid (((w.alloc (.cells #[.int .i64 k, .int .i64 d, .int .i64 a, .int .i64 b, .int .i64 op, .int .i64 n, .string (mk name), .slice pa m ca] 36)).alloc (.cells #[.int .i64 k, .int .i64 d, .int .i64 a, .int .i64 b, .int .i64 op, .int .i64 n, .string (mk name), .slice pb m cb] 36)).heap[w.heap.size]? = some (.cells #[.int .i64 k, .int .i64 d, .int .i64 a, .int .i64 b, .int .i64 op, .int .i64 n, .string (mk name), .slice pa m ca] 36 (0, 0))) := Lib.hid ((Lib.alloc_old _ _ _ (by simp)).trans (heap_new w _))
  have HB2 : Hid (((w.alloc (.cells #[.int .i64 k, .int .i64 d, .int .i64 a, .int .i64 b, .int .i64 op, .int .i64 n, .string (mk name), .slice pa m ca] 36)).alloc (.cells #[.int .i64 k, .int .i64 d, .int .i64 a, .int .i64 b, .int .i64 op, .int .i64 n, .string (mk name), .slice pb m cb] 36)).heap[w.heap.size + 1]? = some (.cells #[.int .i64 k, .int .i64 d, .int .i64 a, .int .i64 b, .int .i64 op, .int .i64 n, .string (mk name), .slice pb m cb] 36 (0, 0))) := Lib.hid (heap_new' _ _ _ (by simp))
  have HG2 := Lib.hid (HG.out (.cells #[.int .i64 k, .int .i64 d, .int .i64 a, .int .i64 b, .int .i64 op, .int .i64 n, .string (mk name), .slice pa m ca] 36) (.cells #[.int .i64 k, .int .i64 d, .int .i64 a, .int .i64 b, .int .i64 op, .int .i64 n, .string (mk name), .slice pb m cb] 36))
  go_enter Tryd.func27, Tryd.ntmps27
  go_wp2_with fail
  go_loopw [5] (fun iv wr => ∃ i : Nat, iv = .int .i64 i ∧ i ≤ m ∧ args.take i = args'.take i ∧ wr.heap[w.heap.size]? = some (.cells #[.int .i64 k, .int .i64 d, .int .i64 a, .int .i64 b, .int .i64 op, .int .i64 n, .string (mk name), .slice pa m ca] 36 (0, 0)) ∧ wr.heap[w.heap.size + 1]? = some (.cells #[.int .i64 k, .int .i64 d, .int .i64 a, .int .i64 b, .int .i64 op, .int .i64 n, .string (mk name), .slice pb m cb] 36 (0, 0)) ∧ Below w.heap.size w wr) (fun iv wr => m - slotN iv)
  case atStart => exact ⟨0, rfl, Nat.zero_le _, rfl, HB1.out, HB2.out, HG2.out⟩
  case round =>
    obtain ⟨i, rfl, hi, htk, hb1, hb2, hbw⟩ := hrel
    have HTK := Lib.hid htk
    have HW := Lib.hid hbw
    have HC1 := Lib.hid hb1
    have HC2 := Lib.hid hb2
    obtain ⟨x0, x1, x2, x3, x4, x5, x6, x7⟩ := eight_cells' hb1
    obtain ⟨y0, y1, y2, y3, y4, y5, y6, y7⟩ := eight_cells' hb2
    have hz : w.heap.size + 1 < wr.heap.size := (Array.getElem?_eq_some_iff.1 hb2).1
    clear htk hbw hb1 hb2
    by_cases h : i < m
    · have hia : i < args.length := by rw [HM.out]; exact h
      have hib : i < args'.length := by rw [HM'.out]; exact h
      obtain ⟨aa, rfl, hab, ka⟩ := HX.out i hia
      obtain ⟨bb, rfl, hbb, kb⟩ := HY.out i hib
      rw [Nat.mul_one] at ka kb
      have q1 : wr.cell? (aa.add i) = some (.int .i64 (args[i]'hia)) := (HW.out.cell (by rw [add_block]; exact hab)).trans ka
      have q2 : wr.cell? (bb.add i) = some (.int .i64 (args'[i]'hib)) := (HW.out.cell (by rw [add_block]; exact hbb)).trans kb
      have hij : (i : Int) < m := by omega
      have HS1 := Lib.hid (List.take_succ_eq_append_getElem hia)
      have HS2 := Lib.hid (List.take_succ_eq_append_getElem hib)
      have hne : args[i]'hia ≠ args'[i]'hib → args ≠ args' := fun h e => h (by simp [e])
      have HNE := Lib.hid hne
      have hl1 : (aa.add i).block < wr.heap.size := cell_lt q1
      have hl2 : (bb.add i).block < wr.heap.size := cell_lt q2
      generalize args[i]'hia = u at *
      generalize args'[i]'hib = v at *
      clear ka kb hne
      by_cases huv : u = v
      · subst huv
        go_upto_region 6 with (fail)
        go_quiet (fail)
        go_wp2_with fail
        go_roundw
        case rel => exact ⟨i + 1, by go_num, by omega, by rw [HS1.out, HS2.out, HTK.out], HC1.out, HC2.out, ext_drewN HW.out _⟩
        case measure => simp [slotN]; omega
      · have hr : res = false := HR2.out (HNE.out huv)
        subst hr
        go_upto_region 6 with (fail)
        go_quiet (fail)
        go_wp2_with fail
        go_ret
        exact ⟨rfl, ext_drewN HW.out _⟩
    · obtain rfl : i = m := by omega
      have hr : res = true := HR1.out (by
        have h := HTK.out
        rwa [List.take_of_length_le (by rw [HM.out]; exact Nat.le_refl _), List.take_of_length_le (by rw [HM'.out]; exact Nat.le_refl _)] at h)
      subst hr
      go_wp2_with fail
      go_ret
      exact ⟨rfl, HW.out⟩
end Go.Proofs.YtafapkljlajflaaDoor
