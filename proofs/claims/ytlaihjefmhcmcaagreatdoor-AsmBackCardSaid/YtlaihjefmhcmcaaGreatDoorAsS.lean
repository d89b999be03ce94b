/- Rows of lines compared. -/
import Derived.Test.YtlaihjefmhcmcaaGreatDoorRows
import Derived.WalkKit
import Derived.ProofKit
import Derived.OpenShut
import Derived.WalkLawsBesides
import Derived.WalkSpells
import Derived.Outline
import Derived.Handy
import Derived.Lib.Hide
import Derived.Lib.OthersKept
import Derived.KernelRfl
import Derived.RegionTactic
import Derived.BigRegion
import Derived.BigQuiet
import Derived.Deep.RegionHeld3
import Derived.Carry
import Derived.Test.YtlaihjefmhcmcaaGreatDoorAs0
namespace Go.Proofs.YtlaihjefmhcmcaaGreatDoor
open Go.ChangeShapes Go.WideShapes Go.ChangeAt Go.RowKit
set_option linter.unusedVariables false
def slotN (v : Value) : Nat := match v with | .int _ x => x.toNat | _ => 0
theorem slotN_int (k : Nat) : slotN (.int .i64 (k : Int)) = k := by simp [slotN]
theorem list_diff {α : Type} {L M : List α} (hl : L.length = M.length) (hn : L ≠ M) (j : Nat) (hj : j ≤ L.length) (h : L.drop j = M.drop j → False) : j < L.length := by
  rcases Nat.lt_or_ge j L.length with k | k
  · exact k
  · exact absurd (by rw [List.drop_eq_nil_of_le k, List.drop_eq_nil_of_le (by omega)]) h
set_option maxRecDepth 100000 in
set_option maxHeartbeats 2000000 in
theorem eq_lines (L M : List Ln) (a b : Addr) (c1 c2 : Nat) (w : World) (hl : L.length = M.length) (hb : L.length ≤ 140737488355328) (h1 : ∀ i (h : i < L.length), LnAt w (a.add (i * 7)) (L[i]'h)) (h2 : ∀ i (h : i < M.length), LnAt w (b.add (i * 7)) (M[i]'h)) :
    Calls Tryz.prog 25 #[.slice (some a) L.length c1, .slice (some b) M.length c2] w fun e w' => e = .returned (.bool (decide (L = M))) ∧ Below w.heap.size w w' := by
  have H1 := Lib.hid h1
  have H2 := Lib.hid h2
  rw [← hl]
  have HL := Lib.hid hl
  clear h1 h2 hl
  go_enter Tryz.func25, Tryz.ntmps25
  go_wp2_with fail
  go_loopw [13] (fun iv wr => ∃ j : Nat, iv = .int .i64 j ∧ j ≤ L.length ∧ Below w.heap.size w wr ∧ decide (L = M) = decide (L.drop j = M.drop j)) (fun iv wr => L.length - slotN iv)
  case atStart => exact ⟨0, rfl, Nat.zero_le _, Below.refl _ _, rfl⟩
  case round =>
    obtain ⟨j, rfl, hj, hbl, hd⟩ := hrel
    have HBL := Lib.hid hbl
    have HD := Lib.hid hd
    clear hd
    by_cases h : j < L.length
    · have hM : j < M.length := by have := HL.out; omega
      obtain ⟨k0, k1, k2, k3, k4, k5, k6⟩ := (H1.out j h).ext hbl
      obtain ⟨m0, m1, m2, m3, m4, m5, m6⟩ := (H2.out j hM).ext hbl
      have HS : Hid (decide (L.drop j = M.drop j) = (decide ((L[j]'h) = (M[j]'hM)) && decide (L.drop (j + 1) = M.drop (j + 1)))) := Lib.hid (by
        rw [List.drop_eq_getElem_cons h, List.drop_eq_getElem_cons hM, ← Bool.decide_and]
        simp only [List.cons.injEq])
      generalize L[j]'h = x at *
      generalize M[j]'hM = y at *
      obtain ⟨xl, ⟨xo, xd, xa, xb, xn, xm⟩⟩ := x
      obtain ⟨yl, ⟨yo, yd, ya, yb, yn, ym⟩⟩ := y
      have q0 : wr.cell? (a.add (j * 7)) = some (.string (mk xl)) := k0
      have p0 : wr.cell? (b.add (j * 7)) = some (.string (mk yl)) := m0
      have q1 : wr.cell? ⟨(a.add (j * 7)).block, (a.add (j * 7)).off + 1, none⟩ = some (.int .i64 xo) := k1
      have p1 : wr.cell? ⟨(b.add (j * 7)).block, (b.add (j * 7)).off + 1, none⟩ = some (.int .i64 yo) := m1
      have q2 : wr.cell? ⟨(a.add (j * 7)).block, (a.add (j * 7)).off + 2, none⟩ = some (.int .i64 xd) := k2
      have p2 : wr.cell? ⟨(b.add (j * 7)).block, (b.add (j * 7)).off + 2, none⟩ = some (.int .i64 yd) := m2
      have q3 : wr.cell? ⟨(a.add (j * 7)).block, (a.add (j * 7)).off + 3, none⟩ = some (.int .i64 xa) := k3
      have p3 : wr.cell? ⟨(b.add (j * 7)).block, (b.add (j * 7)).off + 3, none⟩ = some (.int .i64 ya) := m3
      have q4 : wr.cell? ⟨(a.add (j * 7)).block, (a.add (j * 7)).off + 4, none⟩ = some (.int .i64 xb) := k4
      have p4 : wr.cell? ⟨(b.add (j * 7)).block, (b.add (j * 7)).off + 4, none⟩ = some (.int .i64 yb) := m4
      have q5 : wr.cell? ⟨(a.add (j * 7)).block, (a.add (j * 7)).off + 5, none⟩ = some (.int .i64 xn) := k5
      have p5 : wr.cell? ⟨(b.add (j * 7)).block, (b.add (j * 7)).off + 5, none⟩ = some (.int .i64 yn) := m5
      have q6 : wr.cell? ⟨(a.add (j * 7)).block, (a.add (j * 7)).off + 6, none⟩ = some (.string (mk xm)) := k6
      have p6 : wr.cell? ⟨(b.add (j * 7)).block, (b.add (j * 7)).off + 6, none⟩ = some (.string (mk ym)) := m6
      clear k0 k1 k2 k3 k4 k5 k6 m0 m1 m2 m3 m4 m5 m6 hbl
      have t_xl : (mk xl).toList = xl := mk_tl _
      have t_xm : (mk xm).toList = xm := mk_tl _
      have t_yl : (mk yl).toList = yl := mk_tl _
      have t_ym : (mk ym).toList = ym := mk_tl _
      by_cases e0 : xl = yl
      case neg =>
        have HF : Hid (decide (L = M) = false) := Lib.hid (by rw [HD.out, HS.out, decide_eq_false (by intro h; injection h; simp_all)]; rfl)
        have b1 : (xl == yl) = false := beq_eq_false_iff_ne.2 e0
        have b2 : (xl != yl) = true := bne_iff_ne.2 e0
        clear e0
        go_wp2_with fail
        go_region_held3 (fun w' => w'.cell? (a.add (j * 7)) = some (.string (mk xl)) ∧ w'.cell? ⟨(a.add (j * 7)).block, (a.add (j * 7)).off + 1, none⟩ = some (.int .i64 xo) ∧ w'.cell? ⟨(a.add (j * 7)).block, (a.add (j * 7)).off + 2, none⟩ = some (.int .i64 xd) ∧ w'.cell? ⟨(a.add (j * 7)).block, (a.add (j * 7)).off + 3, none⟩ = some (.int .i64 xa) ∧ w'.cell? ⟨(a.add (j * 7)).block, (a.add (j * 7)).off + 4, none⟩ = some (.int .i64 xb) ∧ w'.cell? ⟨(a.add (j * 7)).block, (a.add (j * 7)).off + 5, none⟩ = some (.int .i64 xn) ∧ w'.cell? ⟨(a.add (j * 7)).block, (a.add (j * 7)).off + 6, none⟩ = some (.string (mk xm)) ∧ w'.cell? (b.add (j * 7)) = some (.string (mk yl)) ∧ w'.cell? ⟨(b.add (j * 7)).block, (b.add (j * 7)).off + 1, none⟩ = some (.int .i64 yo) ∧ w'.cell? ⟨(b.add (j * 7)).block, (b.add (j * 7)).off + 2, none⟩ = some (.int .i64 yd) ∧ w'.cell? ⟨(b.add (j * 7)).block, (b.add (j * 7)).off + 3, none⟩ = some (.int .i64 ya) ∧ w'.cell? ⟨(b.add (j * 7)).block, (b.add (j * 7)).off + 4, none⟩ = some (.int .i64 yb) ∧ w'.cell? ⟨(b.add (j * 7)).block, (b.add (j * 7)).off + 5, none⟩ = some (.int .i64 yn) ∧ w'.cell? ⟨(b.add (j * 7)).block, (b.add (j * 7)).off + 6, none⟩ = some (.string (mk ym))) (exact ⟨q0, q1, q2, q3, q4, q5, q6, p0, p1, p2, p3, p4, p5, p6⟩) ((fail))
        all_goals
          go_wp2_with fail
          go_ret
          exact ⟨by rw [HF.out]; rfl, ext_drew HBL.out⟩
      subst e0
      by_cases e1 : xo = yo
      case neg =>
        have HF : Hid (decide (L = M) = false) := Lib.hid (by rw [HD.out, HS.out, decide_eq_false (by intro h; injection h; simp_all)]; rfl)
        have b1 : (xo == yo) = false := beq_eq_false_iff_ne.2 e1
        have b2 : (xo != yo) = true := bne_iff_ne.2 e1
        clear e1
        go_wp2_with fail
        go_region_held3 (fun w' => w'.cell? (a.add (j * 7)) = some (.string (mk xl)) ∧ w'.cell? ⟨(a.add (j * 7)).block, (a.add (j * 7)).off + 1, none⟩ = some (.int .i64 xo) ∧ w'.cell? ⟨(a.add (j * 7)).block, (a.add (j * 7)).off + 2, none⟩ = some (.int .i64 xd) ∧ w'.cell? ⟨(a.add (j * 7)).block, (a.add (j * 7)).off + 3, none⟩ = some (.int .i64 xa) ∧ w'.cell? ⟨(a.add (j * 7)).block, (a.add (j * 7)).off + 4, none⟩ = some (.int .i64 xb) ∧ w'.cell? ⟨(a.add (j * 7)).block, (a.add (j * 7)).off + 5, none⟩ = some (.int .i64 xn) ∧ w'.cell? ⟨(a.add (j * 7)).block, (a.add (j * 7)).off + 6, none⟩ = some (.string (mk xm)) ∧ w'.cell? (b.add (j * 7)) = some (.string (mk xl)) ∧ w'.cell? ⟨(b.add (j * 7)).block, (b.add (j * 7)).off + 1, none⟩ = some (.int .i64 yo) ∧ w'.cell? ⟨(b.add (j * 7)).block, (b.add (j * 7)).off + 2, none⟩ = some (.int .i64 yd) ∧ w'.cell? ⟨(b.add (j * 7)).block, (b.add (j * 7)).off + 3, none⟩ = some (.int .i64 ya) ∧ w'.cell? ⟨(b.add (j * 7)).block, (b.add (j * 7)).off + 4, none⟩ = some (.int .i64 yb) ∧ w'.cell? ⟨(b.add (j * 7)).block, (b.add (j * 7)).off + 5, none⟩ = some (.int .i64 yn) ∧ w'.cell? ⟨(b.add (j * 7)).block, (b.add (j * 7)).off + 6, none⟩ = some (.string (mk ym))) (exact ⟨q0, q1, q2, q3, q4, q5, q6, p0, p1, p2, p3, p4, p5, p6⟩) ((fail))
        all_goals
          go_wp2_with fail
          go_ret
          exact ⟨by rw [HF.out]; rfl, ext_drew HBL.out⟩
      subst e1
      by_cases e2 : xd = yd
      case neg =>
        have HF : Hid (decide (L = M) = false) := Lib.hid (by rw [HD.out, HS.out, decide_eq_false (by intro h; injection h; simp_all)]; rfl)
        have b1 : (xd == yd) = false := beq_eq_false_iff_ne.2 e2
        have b2 : (xd != yd) = true := bne_iff_ne.2 e2
        clear e2
        go_wp2_with fail
        go_region_held3 (fun w' => w'.cell? (a.add (j * 7)) = some (.string (mk xl)) ∧ w'.cell? ⟨(a.add (j * 7)).block, (a.add (j * 7)).off + 1, none⟩ = some (.int .i64 xo) ∧ w'.cell? ⟨(a.add (j * 7)).block, (a.add (j * 7)).off + 2, none⟩ = some (.int .i64 xd) ∧ w'.cell? ⟨(a.add (j * 7)).block, (a.add (j * 7)).off + 3, none⟩ = some (.int .i64 xa) ∧ w'.cell? ⟨(a.add (j * 7)).block, (a.add (j * 7)).off + 4, none⟩ = some (.int .i64 xb) ∧ w'.cell? ⟨(a.add (j * 7)).block, (a.add (j * 7)).off + 5, none⟩ = some (.int .i64 xn) ∧ w'.cell? ⟨(a.add (j * 7)).block, (a.add (j * 7)).off + 6, none⟩ = some (.string (mk xm)) ∧ w'.cell? (b.add (j * 7)) = some (.string (mk xl)) ∧ w'.cell? ⟨(b.add (j * 7)).block, (b.add (j * 7)).off + 1, none⟩ = some (.int .i64 xo) ∧ w'.cell? ⟨(b.add (j * 7)).block, (b.add (j * 7)).off + 2, none⟩ = some (.int .i64 yd) ∧ w'.cell? ⟨(b.add (j * 7)).block, (b.add (j * 7)).off + 3, none⟩ = some (.int .i64 ya) ∧ w'.cell? ⟨(b.add (j * 7)).block, (b.add (j * 7)).off + 4, none⟩ = some (.int .i64 yb) ∧ w'.cell? ⟨(b.add (j * 7)).block, (b.add (j * 7)).off + 5, none⟩ = some (.int .i64 yn) ∧ w'.cell? ⟨(b.add (j * 7)).block, (b.add (j * 7)).off + 6, none⟩ = some (.string (mk ym))) (exact ⟨q0, q1, q2, q3, q4, q5, q6, p0, p1, p2, p3, p4, p5, p6⟩) ((fail))
        all_goals
          go_wp2_with fail
          go_ret
          exact ⟨by rw [HF.out]; rfl, ext_drew HBL.out⟩
      subst e2
      by_cases e3 : xa = ya
      case neg =>
        have HF : Hid (decide (L = M) = false) := Lib.hid (by rw [HD.out, HS.out, decide_eq_false (by intro h; injection h; simp_all)]; rfl)
        have b1 : (xa == ya) = false := beq_eq_false_iff_ne.2 e3
        have b2 : (xa != ya) = true := bne_iff_ne.2 e3
        clear e3
        go_wp2_with fail
        go_region_held3 (fun w' => w'.cell? (a.add (j * 7)) = some (.string (mk xl)) ∧ w'.cell? ⟨(a.add (j * 7)).block, (a.add (j * 7)).off + 1, none⟩ = some (.int .i64 xo) ∧ w'.cell? ⟨(a.add (j * 7)).block, (a.add (j * 7)).off + 2, none⟩ = some (.int .i64 xd) ∧ w'.cell? ⟨(a.add (j * 7)).block, (a.add (j * 7)).off + 3, none⟩ = some (.int .i64 xa) ∧ w'.cell? ⟨(a.add (j * 7)).block, (a.add (j * 7)).off + 4, none⟩ = some (.int .i64 xb) ∧ w'.cell? ⟨(a.add (j * 7)).block, (a.add (j * 7)).off + 5, none⟩ = some (.int .i64 xn) ∧ w'.cell? ⟨(a.add (j * 7)).block, (a.add (j * 7)).off + 6, none⟩ = some (.string (mk xm)) ∧ w'.cell? (b.add (j * 7)) = some (.string (mk xl)) ∧ w'.cell? ⟨(b.add (j * 7)).block, (b.add (j * 7)).off + 1, none⟩ = some (.int .i64 xo) ∧ w'.cell? ⟨(b.add (j * 7)).block, (b.add (j * 7)).off + 2, none⟩ = some (.int .i64 xd) ∧ w'.cell? ⟨(b.add (j * 7)).block, (b.add (j * 7)).off + 3, none⟩ = some (.int .i64 ya) ∧ w'.cell? ⟨(b.add (j * 7)).block, (b.add (j * 7)).off + 4, none⟩ = some (.int .i64 yb) ∧ w'.cell? ⟨(b.add (j * 7)).block, (b.add (j * 7)).off + 5, none⟩ = some (.int .i64 yn) ∧ w'.cell? ⟨(b.add (j * 7)).block, (b.add (j * 7)).off + 6, none⟩ = some (.string (mk ym))) (exact ⟨q0, q1, q2, q3, q4, q5, q6, p0, p1, p2, p3, p4, p5, p6⟩) ((fail))
        all_goals
          go_wp2_with fail
          go_ret
          exact ⟨by rw [HF.out]; rfl, ext_drew HBL.out⟩
      subst e3
      by_cases e4 : xb = yb
      case neg =>
        have HF : Hid (decide (L = M) = false) := Lib.hid (by rw [HD.out, HS.out, decide_eq_false (by intro h; injection h; simp_all)]; rfl)
        have b1 : (xb == yb) = false := beq_eq_false_iff_ne.2 e4
        have b2 : (xb != yb) = true := bne_iff_ne.2 e4
        clear e4
        go_wp2_with fail
        go_region_held3 (fun w' => w'.cell? (a.add (j * 7)) = some (.string (mk xl)) ∧ w'.cell? ⟨(a.add (j * 7)).block, (a.add (j * 7)).off + 1, none⟩ = some (.int .i64 xo) ∧ w'.cell? ⟨(a.add (j * 7)).block, (a.add (j * 7)).off + 2, none⟩ = some (.int .i64 xd) ∧ w'.cell? ⟨(a.add (j * 7)).block, (a.add (j * 7)).off + 3, none⟩ = some (.int .i64 xa) ∧ w'.cell? ⟨(a.add (j * 7)).block, (a.add (j * 7)).off + 4, none⟩ = some (.int .i64 xb) ∧ w'.cell? ⟨(a.add (j * 7)).block, (a.add (j * 7)).off + 5, none⟩ = some (.int .i64 xn) ∧ w'.cell? ⟨(a.add (j * 7)).block, (a.add (j * 7)).off + 6, none⟩ = some (.string (mk xm)) ∧ w'.cell? (b.add (j * 7)) = some (.string (mk xl)) ∧ w'.cell? ⟨(b.add (j * 7)).block, (b.add (j * 7)).off + 1, none⟩ = some (.int .i64 xo) ∧ w'.cell? ⟨(b.add (j * 7)).block, (b.add (j * 7)).off + 2, none⟩ = some (.int .i64 xd) ∧ w'.cell? ⟨(b.add (j * 7)).block, (b.add (j * 7)).off + 3, none⟩ = some (.int .i64 xa) ∧ w'.cell? ⟨(b.add (j * 7)).block, (b.add (j * 7)).off + 4, none⟩ = some (.int .i64 yb) ∧ w'.cell? ⟨(b.add (j * 7)).block, (b.add (j * 7)).off + 5, none⟩ = some (.int .i64 yn) ∧ w'.cell? ⟨(b.add (j * 7)).block, (b.add (j * 7)).off + 6, none⟩ = some (.string (mk ym))) (exact ⟨q0, q1, q2, q3, q4, q5, q6, p0, p1, p2, p3, p4, p5, p6⟩) ((fail))
        all_goals
          go_wp2_with fail
          go_ret
          exact ⟨by rw [HF.out]; rfl, ext_drew HBL.out⟩
      subst e4
      by_cases e5 : xn = yn
      case neg =>
        have HF : Hid (decide (L = M) = false) := Lib.hid (by rw [HD.out, HS.out, decide_eq_false (by intro h; injection h; simp_all)]; rfl)
        have b1 : (xn == yn) = false := beq_eq_false_iff_ne.2 e5
        have b2 : (xn != yn) = true := bne_iff_ne.2 e5
        clear e5
        go_wp2_with fail
        go_region_held3 (fun w' => w'.cell? (a.add (j * 7)) = some (.string (mk xl)) ∧ w'.cell? ⟨(a.add (j * 7)).block, (a.add (j * 7)).off + 1, none⟩ = some (.int .i64 xo) ∧ w'.cell? ⟨(a.add (j * 7)).block, (a.add (j * 7)).off + 2, none⟩ = some (.int .i64 xd) ∧ w'.cell? ⟨(a.add (j * 7)).block, (a.add (j * 7)).off + 3, none⟩ = some (.int .i64 xa) ∧ w'.cell? ⟨(a.add (j * 7)).block, (a.add (j * 7)).off + 4, none⟩ = some (.int .i64 xb) ∧ w'.cell? ⟨(a.add (j * 7)).block, (a.add (j * 7)).off + 5, none⟩ = some (.int .i64 xn) ∧ w'.cell? ⟨(a.add (j * 7)).block, (a.add (j * 7)).off + 6, none⟩ = some (.string (mk xm)) ∧ w'.cell? (b.add (j * 7)) = some (.string (mk xl)) ∧ w'.cell? ⟨(b.add (j * 7)).block, (b.add (j * 7)).off + 1, none⟩ = some (.int .i64 xo) ∧ w'.cell? ⟨(b.add (j * 7)).block, (b.add (j * 7)).off + 2, none⟩ = some (.int .i64 xd) ∧ w'.cell? ⟨(b.add (j * 7)).block, (b.add (j * 7)).off + 3, none⟩ = some (.int .i64 xa) ∧ w'.cell? ⟨(b.add (j * 7)).block, (b.add (j * 7)).off + 4, none⟩ = some (.int .i64 xb) ∧ w'.cell? ⟨(b.add (j * 7)).block, (b.add (j * 7)).off + 5, none⟩ = some (.int .i64 yn) ∧ w'.cell? ⟨(b.add (j * 7)).block, (b.add (j * 7)).off + 6, none⟩ = some (.string (mk ym))) (exact ⟨q0, q1, q2, q3, q4, q5, q6, p0, p1, p2, p3, p4, p5, p6⟩) ((fail))
        all_goals
          go_wp2_with fail
          go_ret
          exact ⟨by rw [HF.out]; rfl, ext_drew HBL.out⟩
      subst e5
      by_cases e6 : xm = ym
      case neg =>
        have HF : Hid (decide (L = M) = false) := Lib.hid (by rw [HD.out, HS.out, decide_eq_false (by intro h; injection h; simp_all)]; rfl)
        have b1 : (xm == ym) = false := beq_eq_false_iff_ne.2 e6
        have b2 : (xm != ym) = true := bne_iff_ne.2 e6
        clear e6
        go_wp2_with fail
        go_region_held3 (fun w' => w'.cell? (a.add (j * 7)) = some (.string (mk xl)) ∧ w'.cell? ⟨(a.add (j * 7)).block, (a.add (j * 7)).off + 1, none⟩ = some (.int .i64 xo) ∧ w'.cell? ⟨(a.add (j * 7)).block, (a.add (j * 7)).off + 2, none⟩ = some (.int .i64 xd) ∧ w'.cell? ⟨(a.add (j * 7)).block, (a.add (j * 7)).off + 3, none⟩ = some (.int .i64 xa) ∧ w'.cell? ⟨(a.add (j * 7)).block, (a.add (j * 7)).off + 4, none⟩ = some (.int .i64 xb) ∧ w'.cell? ⟨(a.add (j * 7)).block, (a.add (j * 7)).off + 5, none⟩ = some (.int .i64 xn) ∧ w'.cell? ⟨(a.add (j * 7)).block, (a.add (j * 7)).off + 6, none⟩ = some (.string (mk xm)) ∧ w'.cell? (b.add (j * 7)) = some (.string (mk xl)) ∧ w'.cell? ⟨(b.add (j * 7)).block, (b.add (j * 7)).off + 1, none⟩ = some (.int .i64 xo) ∧ w'.cell? ⟨(b.add (j * 7)).block, (b.add (j * 7)).off + 2, none⟩ = some (.int .i64 xd) ∧ w'.cell? ⟨(b.add (j * 7)).block, (b.add (j * 7)).off + 3, none⟩ = some (.int .i64 xa) ∧ w'.cell? ⟨(b.add (j * 7)).block, (b.add (j * 7)).off + 4, none⟩ = some (.int .i64 xb) ∧ w'.cell? ⟨(b.add (j * 7)).block, (b.add (j * 7)).off + 5, none⟩ = some (.int .i64 xn) ∧ w'.cell? ⟨(b.add (j * 7)).block, (b.add (j * 7)).off + 6, none⟩ = some (.string (mk ym))) (exact ⟨q0, q1, q2, q3, q4, q5, q6, p0, p1, p2, p3, p4, p5, p6⟩) ((fail))
        all_goals
          go_wp2_with fail
          go_ret
          exact ⟨by rw [HF.out]; rfl, ext_drew HBL.out⟩
      subst e6
      have HT : Hid (decide (L = M) = decide (L.drop (j + 1) = M.drop (j + 1))) := Lib.hid (by rw [HD.out, HS.out]; simp)
      go_wp2_with fail
      go_region_held3 (fun w' => w'.cell? (a.add (j * 7)) = some (.string (mk xl)) ∧ w'.cell? ⟨(a.add (j * 7)).block, (a.add (j * 7)).off + 1, none⟩ = some (.int .i64 xo) ∧ w'.cell? ⟨(a.add (j * 7)).block, (a.add (j * 7)).off + 2, none⟩ = some (.int .i64 xd) ∧ w'.cell? ⟨(a.add (j * 7)).block, (a.add (j * 7)).off + 3, none⟩ = some (.int .i64 xa) ∧ w'.cell? ⟨(a.add (j * 7)).block, (a.add (j * 7)).off + 4, none⟩ = some (.int .i64 xb) ∧ w'.cell? ⟨(a.add (j * 7)).block, (a.add (j * 7)).off + 5, none⟩ = some (.int .i64 xn) ∧ w'.cell? ⟨(a.add (j * 7)).block, (a.add (j * 7)).off + 6, none⟩ = some (.string (mk xm)) ∧ w'.cell? (b.add (j * 7)) = some (.string (mk xl)) ∧ w'.cell? ⟨(b.add (j * 7)).block, (b.add (j * 7)).off + 1, none⟩ = some (.int .i64 xo) ∧ w'.cell? ⟨(b.add (j * 7)).block, (b.add (j * 7)).off + 2, none⟩ = some (.int .i64 xd) ∧ w'.cell? ⟨(b.add (j * 7)).block, (b.add (j * 7)).off + 3, none⟩ = some (.int .i64 xa) ∧ w'.cell? ⟨(b.add (j * 7)).block, (b.add (j * 7)).off + 4, none⟩ = some (.int .i64 xb) ∧ w'.cell? ⟨(b.add (j * 7)).block, (b.add (j * 7)).off + 5, none⟩ = some (.int .i64 xn) ∧ w'.cell? ⟨(b.add (j * 7)).block, (b.add (j * 7)).off + 6, none⟩ = some (.string (mk xm))) (exact ⟨q0, q1, q2, q3, q4, q5, q6, p0, p1, p2, p3, p4, p5, p6⟩) ((fail))
      go_wp2_with fail
      go_roundw
      case rel => exact ⟨j + 1, rfl, by omega, ext_drew HBL.out, HT.out⟩
      case measure => rw [slotN_int, show ((j : Int) + 1) = ((j + 1 : Nat) : Int) from rfl, slotN_int]; omega
    · obtain rfl : j = L.length := by omega
      have HT : Hid (decide (L = M) = true) := Lib.hid (by rw [HD.out, List.drop_length, HL.out, List.drop_length]; rfl)
      clear hbl
      go_wp2_with fail
      go_ret
      exact ⟨by rw [HT.out]; rfl, HBL.out⟩
end Go.Proofs.YtlaihjefmhcmcaaGreatDoor
