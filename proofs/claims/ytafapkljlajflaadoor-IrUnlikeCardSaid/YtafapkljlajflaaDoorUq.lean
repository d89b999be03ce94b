/- ir's names: what is asked of instructions and ends, further. -/
import Derived.Test.YtafapkljlajflaaDoorRows
import Derived.WalkKit
import Derived.ProofKit
import Derived.OpenShut
import Derived.WalkLawsBesides
import Derived.WalkSpells
import Derived.Outline
import Derived.Handy
import Derived.Lib.Hide
import Derived.Lib.OthersKept
import Derived.KernelRfl
import Derived.Carry
import Derived.RegionTactic
import Derived.BigRegion
import Derived.OwnWalk
import Derived.Deep.Cut
import Derived.IntWalk
import Derived.Deep.QuietTactic
import Derived.BigQuiet
import Derived.Deep.RegionHeld3
import Derived.Test.YtafapkljlajflaaDoorUp
namespace Go.Proofs.YtafapkljlajflaaDoor
open Go.ChangeShapes Go.WideShapes Go.ChangeAt Go.RowKit
set_option linter.unusedVariables false
def argM (u : Un) (FF : List UInt8 → Option Int) (vals : Int) (x : Xn) : Bool := if x.kind = 9 then x.args.all (plcB vals) && decide ((x.args.length : Int) = ((u.flows[((FF x.name).getD 0).toNat]?).map (·.params)).getD 0) else decide (x.args = [])
theorem all_step (p : Int → Bool) (l : List Int) (j : Nat) (h : j < l.length) (ha : (l.take j).all p = true) : (p (l[j]'h) = true → (l.take (j + 1)).all p = true) ∧ (p (l[j]'h) = false → l.all p = false) := by
  constructor
  · intro hp
    rw [List.take_succ_eq_append_getElem h, List.all_append, ha]
    simp [hp]
  · intro hp
    cases hall : l.all p with
    | false => rfl
    | true =>
      have := (List.all_eq_true.1 hall) _ (List.getElem_mem h)
      rw [hp] at this; cases this
set_option maxRecDepth 100000 in
set_option maxHeartbeats 4000000 in
theorem rargs_any {w : World} {b : Nat} {u : Un} {va vf : Value} {ba na bf nf : Nat} {FA FF : List UInt8 → Option Int} (h : NI w b u va vf ba na bf nf FA FF) (nm : List UInt8) (p vals : Int) (vb : Value) (x : Xn) (vx : Value) (hx : NumsAt (fun _ => True) w vx x.args) (hl : x.name.length ≤ 140737488355328) (hP : x.kind = 9 → ∃ i : Nat, FF x.name = some (i : Int) ∧ i < u.flows.length) :
    Calls Tryd.prog 51 #[.pointer (some ⟨b, 0, none⟩), flV nm p vals vb, .int .i64 (hasK x.kind), xnV x vx] w fun e w' => e = .returned (.bool (argM u FF vals x)) ∧ Below w.heap.size w w' := by
  have HN := Lib.hid h
  have HX := Lib.hid hx
  have HPL := Lib.hid (fun v w => place_any nm p vals vb v w)
  obtain ⟨hlen, px, capx, rfl, hxc⟩ := hx
  have HXC := Lib.hid hxc
  obtain ⟨k, d, a, bb, op, n, name, args⟩ := x
  simp only at hlen hl hP HX HXC
  have hlm : name.length ≤ maxLen := by unfold maxLen; omega
  have E : Hid (argM u FF vals ⟨k, d, a, bb, op, n, name, args⟩ = if k = 9 then args.all (plcB vals) && decide ((args.length : Int) = ((u.flows[((FF name).getD 0).toNat]?).map (·.params)).getD 0) else decide (args = [])) := Lib.hid rfl
  obtain ⟨s0, s1, s2, s3⟩ := four_at' h.bx
  have hbl := h.lt
  have HAL : Hid (decide (args = []) = decide ((args.length : Int) = 0)) := Lib.hid (by cases args with
    | nil => rfl
    | cons z t => rw [decide_eq_false (by simp), decide_eq_false (by simp; omega)])
  clear h hxc
  unfold flV xnV
  by_cases h9 : k = 9
  · subst h9
    obtain ⟨i, hi, hil⟩ := hP rfl
    obtain ⟨_, pf, capf, hvf, hfl⟩ := HN.out.fl
    obtain ⟨af, rfl, _, kf⟩ := hfl i hil
    obtain ⟨f0, f1, f2, vbf, f3, _⟩ := kf
    have haf : (af.add (i * 4)).block < w.heap.size := cell_lt f0
    have E2 : Hid (argM u FF vals ⟨9, d, a, bb, op, n, name, args⟩ = (args.all (plcB vals) && decide ((args.length : Int) = (u.flows[i]'hil).params))) := Lib.hid (by rw [E.out, if_pos rfl, hi]; simp [List.getElem?_eq_getElem hil])
    have HLK := Lib.hid (fun (w' : World) (g : Below w.heap.size w w') => (by have := imap_look (HN.out.ext g).mf name hlm; rw [hi] at this; exact this : (Instr.lookup 76 (.map (some bf)) (.string (mk name)) false).run Tryd.prog w' = .ok (.int .i64 (i : Int)) w'))
    have hk9 : hasK 9 = 129 := rfl
    rw [hk9]
    subst hvf
    clear hk9 E f0 f2 f3 hP
    generalize (u.flows[i]'hil).params = q at *
    clear hfl
    have hbt : bits BinOp.and IntKind.i64 129 128 = 128 := by kernel_rfl
    go_enter Tryd.func51, Tryd.ntmps51
    go_wp2_with fail
    go_loopw [21] (fun iv wr => ∃ j : Nat, iv = .int .i64 j ∧ j ≤ args.length ∧ Below w.heap.size w wr ∧ wr.heap[w.heap.size + 1]? = some (.cells #[.int .i64 9, .int .i64 d, .int .i64 a, .int .i64 bb, .int .i64 op, .int .i64 n, .string (mk name), .slice px args.length capx] 36 (0, 0)) ∧ wr.heap[w.heap.size]? = some (.cells #[.string (mk nm), .int .i64 p, .int .i64 vals, vb] 45 (0, 0)) ∧ Hid ((args.take j).all (plcB vals) = true)) (fun iv wr => args.length - slotN iv)
    case atStart => exact ⟨0, rfl, Nat.zero_le _, ext_alloc (ext_alloc (Below.refl _ _) _) _, heap_new' _ _ _ (by simp), (Lib.alloc_old _ _ _ (by simp)).trans (heap_new w _), Lib.hid rfl⟩
    case round =>
      obtain ⟨j, rfl, hj, hbw, hx1, hx0, HALL⟩ := hrel
      have HB := Lib.hid hbw
      have hz : w.heap.size + 1 < wr.heap.size := (Array.getElem?_eq_some_iff.1 hx1).1
      have hz0 : w.heap.size < wr.heap.size := by omega
      have HX1 := Lib.hid hx1
      have HX0 := Lib.hid hx0
      have y6 := cell_row hx1 6
      have y7 := cell_row hx1 7
      obtain ⟨t0, t1, t2, t3⟩ := four_at' hx0
      clear hbw hx1 hx0
      by_cases hjl : j < args.length
      · obtain ⟨ax, rfl, _, kx⟩ := HXC.out j hjl
        have kx0 := HB.out.cell (p := ax.add (j * 1)) (cell_lt kx)
        have kx1 : wr.cell? (ax.add j) = some (.int .i64 (args[j]'hjl)) := by
          have := kx0.trans kx
          rw [Nat.mul_one] at this
          exact this
        have HST := Lib.hid (all_step (plcB vals) args j hjl HALL.out)
        unfold flV at HPL
        clear kx kx0 s0 s1 s2 s3 f1
        generalize args[j]'hjl = v at *
        cases hpl : plcB vals v
        · have E3 := Lib.hid (HST.out.2 hpl)
          have HP2 := Lib.hid (fun w => HPL.out v w)
          rw [hpl] at HP2
          clear hpl
          go_wp2_with fail
          refine (HP2.out _).mono ?_; rintro e w1 ⟨rfl, g1⟩
          have G := Lib.hid (ext_trans HB.out g1)
          clear g1
          go_wp2_with fail
          go_ret
          exact ⟨by rw [E2.out, E3.out]; rfl, G.out⟩
        · have E3 := Lib.hid (HST.out.1 hpl)
          have HP2 := Lib.hid (fun w => HPL.out v w)
          rw [hpl] at HP2
          clear hpl
          go_wp2_with fail
          refine (HP2.out _).mono ?_; rintro e w1 ⟨rfl, g1⟩
          have HG := Lib.hid g1
          clear g1
          go_wp2_with fail
          go_roundw
          case rel => exact ⟨j + 1, by go_num, by omega, ext_trans HB.out HG.out, (HG.out.block _ hz).trans HX1.out, (HG.out.block _ hz0).trans HX0.out, E3⟩
          case measure => simp [slotN]; omega
      · obtain rfl : j = args.length := by omega
        have E3 : Hid (argM u FF vals ⟨9, d, a, bb, op, n, name, args⟩ = decide ((args.length : Int) = q)) := Lib.hid (by
          have := HALL.out
          rw [List.take_length] at this
          rw [E2.out, this]; rfl)
        have hlk := HLK.out wr.drew (ext_drew HB.out)
        have hbb : b < wr.heap.size := by have := HB.out.size; omega
        have haf2 : (af.add (i * 4)).block < wr.heap.size := by have := HB.out.size; omega
        have s0 := cell_ext s0 HB.out
        have s1 := cell_ext s1 HB.out
        have s3 := cell_ext s3 HB.out
        have f1 := cell_ext f1 HB.out
        clear s2 t0 t1 t2 t3
        have hii : (0 : Int) ≤ (i : Int) := by omega
        go_wp2_with fail
        go_region
        go_wp2_with fail
        go_ret
        exact ⟨by rw [E3.out]; rfl, ext_drew HB.out⟩
  · have E2 : Hid (argM u FF vals ⟨k, d, a, bb, op, n, name, args⟩ = decide ((args.length : Int) = 0)) := Lib.hid (by rw [E.out, if_neg h9, HAL.out])
    clear E s0 s1 s2 s3
    rcases hasK_all k with h | h | h | h | h | h | h | h | h | h
    · rw [hasK_no h]
      clear h h9
      go_enter Tryd.func51, Tryd.ntmps51
      go_wp2_with fail
      go_ret
      exact ⟨by rw [E2.out]; rfl, ext_alloc (ext_alloc (Below.refl _ _) _) _⟩
    all_goals first | exact absurd h h9 | skip
    all_goals
      subst h
      unfold hasK
      clear h9
      go_enter Tryd.func51, Tryd.ntmps51
      go_wp2_with fail
      go_ret
      exact ⟨by rw [E2.out]; rfl, ext_alloc (ext_alloc (Below.refl _ _) _) _⟩
end Go.Proofs.YtafapkljlajflaaDoor
