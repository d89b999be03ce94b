/- Rows of arrays compared. -/
import Derived.Test.YtlaihjefmhcmcaaGreatDoorRows
import Derived.WalkKit
import Derived.ProofKit
import Derived.OpenShut
import Derived.WalkLawsBesides
import Derived.WalkSpells
import Derived.Outline
import Derived.Handy
import Derived.Lib.Hide
import Derived.Lib.OthersKept
import Derived.KernelRfl
import Derived.RegionTactic
import Derived.BigRegion
import Derived.BigQuiet
import Derived.Deep.RegionHeld3
import Derived.Carry
import Derived.Test.YtlaihjefmhcmcaaGreatDoorAsT
namespace Go.Proofs.YtlaihjefmhcmcaaGreatDoor
open Go.ChangeShapes Go.WideShapes Go.ChangeAt Go.RowKit
set_option linter.unusedVariables false
set_option maxRecDepth 100000 in
set_option maxHeartbeats 2000000 in
theorem eq_arrs (L M : List Ar) (a b : Addr) (c1 c2 : Nat) (w : World) (hl : L.length = M.length) (hb : L.length ≤ 140737488355328) (h1 : ∀ i (h : i < L.length), ArAt w (a.add (i * 2)) (L[i]'h)) (h2 : ∀ i (h : i < M.length), ArAt w (b.add (i * 2)) (M[i]'h)) :
    Calls Tryz.prog 24 #[.slice (some a) L.length c1, .slice (some b) M.length c2] w fun e w' => e = .returned (.bool (decide (L = M))) ∧ Below w.heap.size w w' := by
  have H1 := Lib.hid h1
  have H2 := Lib.hid h2
  rw [← hl]
  have HL := Lib.hid hl
  clear h1 h2 hl
  go_enter Tryz.func24, Tryz.ntmps24
  go_wp2_with fail
  go_loopw [13] (fun iv wr => ∃ j : Nat, iv = .int .i64 j ∧ j ≤ L.length ∧ Below w.heap.size w wr ∧ decide (L = M) = decide (L.drop j = M.drop j)) (fun iv wr => L.length - slotN iv)
  case atStart => exact ⟨0, rfl, Nat.zero_le _, Below.refl _ _, rfl⟩
  case round =>
    obtain ⟨j, rfl, hj, hbl, hd⟩ := hrel
    have HBL := Lib.hid hbl
    have HD := Lib.hid hd
    clear hd
    by_cases h : j < L.length
    · have hM : j < M.length := by have := HL.out; omega
      obtain ⟨k0, k1⟩ := (H1.out j h).ext hbl
      obtain ⟨m0, m1⟩ := (H2.out j hM).ext hbl
      have HS : Hid (decide (L.drop j = M.drop j) = (decide ((L[j]'h) = (M[j]'hM)) && decide (L.drop (j + 1) = M.drop (j + 1)))) := Lib.hid (by
        rw [List.drop_eq_getElem_cons h, List.drop_eq_getElem_cons hM, ← Bool.decide_and]
        simp only [List.cons.injEq])
      generalize L[j]'h = x at *
      generalize M[j]'hM = y at *
      obtain ⟨xl, xo⟩ := x
      obtain ⟨yl, yo⟩ := y
      have q0 : wr.cell? (a.add (j * 2)) = some (.string (mk xl)) := k0
      have p0 : wr.cell? (b.add (j * 2)) = some (.string (mk yl)) := m0
      have q1 : wr.cell? ⟨(a.add (j * 2)).block, (a.add (j * 2)).off + 1, none⟩ = some (.int .i64 xo) := k1
      have p1 : wr.cell? ⟨(b.add (j * 2)).block, (b.add (j * 2)).off + 1, none⟩ = some (.int .i64 yo) := m1
      clear k0 k1 m0 m1 hbl
      have t_xl : (mk xl).toList = xl := mk_tl _
      have t_yl : (mk yl).toList = yl := mk_tl _
      by_cases e0 : xl = yl
      case neg =>
        have HF : Hid (decide (L = M) = false) := Lib.hid (by rw [HD.out, HS.out, decide_eq_false (by intro h; injection h; simp_all)]; rfl)
        have b1 : (xl == yl) = false := beq_eq_false_iff_ne.2 e0
        have b2 : (xl != yl) = true := bne_iff_ne.2 e0
        clear e0
        go_wp2_with fail
        go_region_held3 (fun w' => w'.cell? (a.add (j * 2)) = some (.string (mk xl)) ∧ w'.cell? ⟨(a.add (j * 2)).block, (a.add (j * 2)).off + 1, none⟩ = some (.int .i64 xo) ∧ w'.cell? (b.add (j * 2)) = some (.string (mk yl)) ∧ w'.cell? ⟨(b.add (j * 2)).block, (b.add (j * 2)).off + 1, none⟩ = some (.int .i64 yo)) (exact ⟨q0, q1, p0, p1⟩) ((fail))
        all_goals
          go_wp2_with fail
          go_ret
          exact ⟨by rw [HF.out]; rfl, ext_drew HBL.out⟩
      subst e0
      by_cases e1 : xo = yo
      case neg =>
        have HF : Hid (decide (L = M) = false) := Lib.hid (by rw [HD.out, HS.out, decide_eq_false (by intro h; injection h; simp_all)]; rfl)
        have b1 : (xo == yo) = false := beq_eq_false_iff_ne.2 e1
        have b2 : (xo != yo) = true := bne_iff_ne.2 e1
        clear e1
        go_wp2_with fail
        go_region_held3 (fun w' => w'.cell? (a.add (j * 2)) = some (.string (mk xl)) ∧ w'.cell? ⟨(a.add (j * 2)).block, (a.add (j * 2)).off + 1, none⟩ = some (.int .i64 xo) ∧ w'.cell? (b.add (j * 2)) = some (.string (mk xl)) ∧ w'.cell? ⟨(b.add (j * 2)).block, (b.add (j * 2)).off + 1, none⟩ = some (.int .i64 yo)) (exact ⟨q0, q1, p0, p1⟩) ((fail))
        all_goals
          go_wp2_with fail
          go_ret
          exact ⟨by rw [HF.out]; rfl, ext_drew HBL.out⟩
      subst e1
      have HT : Hid (decide (L = M) = decide (L.drop (j + 1) = M.drop (j + 1))) := Lib.hid (by rw [HD.out, HS.out]; simp)
      go_wp2_with fail
      go_region_held3 (fun w' => w'.cell? (a.add (j * 2)) = some (.string (mk xl)) ∧ w'.cell? ⟨(a.add (j * 2)).block, (a.add (j * 2)).off + 1, none⟩ = some (.int .i64 xo) ∧ w'.cell? (b.add (j * 2)) = some (.string (mk xl)) ∧ w'.cell? ⟨(b.add (j * 2)).block, (b.add (j * 2)).off + 1, none⟩ = some (.int .i64 xo)) (exact ⟨q0, q1, p0, p1⟩) ((fail))
      go_wp2_with fail
      go_roundw
      case rel => exact ⟨j + 1, rfl, by omega, ext_drew HBL.out, HT.out⟩
      case measure => rw [slotN_int, show ((j : Int) + 1) = ((j + 1 : Nat) : Int) from rfl, slotN_int]; omega
    · obtain rfl : j = L.length := by omega
      have HT : Hid (decide (L = M) = true) := Lib.hid (by rw [HD.out, List.drop_length, HL.out, List.drop_length]; rfl)
      clear hbl
      go_wp2_with fail
      go_ret
      exact ⟨by rw [HT.out]; rfl, HBL.out⟩
theorem ars_addr {w : World} {v : Value} {L : List Ar} (h : ArsAt w v L) (h0 : 0 < L.length) : ∃ a cap, v = .slice (some a) L.length cap ∧ ∀ i (h : i < L.length), ArAt w (a.add (i * 2)) (L[i]'h) := by
  obtain ⟨_, p, cap, e, h3⟩ := h
  obtain ⟨a, rfl, _⟩ := h3 0 h0
  refine ⟨a, cap, e, fun i hi => ?_⟩
  obtain ⟨a', e', k⟩ := h3 i hi
  have : a = a' := by injection e'
  subst this; exact k
set_option maxRecDepth 100000 in
theorem eq_arrs_any (v1 v2 : Value) (L M : List Ar) (w : World) (h1 : ArsAt w v1 L) (h2 : ArsAt w v2 M) (hb : L.length ≤ 140737488355328) (hb2 : M.length ≤ 140737488355328) :
    Calls Tryz.prog 24 #[v1, v2] w fun e w' => e = .returned (.bool (decide (L = M))) ∧ Below w.heap.size w w' := by
  by_cases hl : L.length = M.length
  · by_cases h0 : 0 < L.length
    · obtain ⟨a, c1, rfl, k1⟩ := ars_addr h1 h0
      obtain ⟨b, c2, rfl, k2⟩ := ars_addr h2 (by omega)
      exact eq_arrs L M a b c1 c2 w hl hb k1 k2
    · obtain rfl : L = [] := List.length_eq_zero_iff.1 (by omega)
      obtain rfl : M = [] := List.length_eq_zero_iff.1 (by simpa using hl.symm)
      obtain ⟨_, p1, c1, rfl, _⟩ := h1
      obtain ⟨_, p2, c2, rfl, _⟩ := h2
      clear hl h0 hb hb2
      go_enter Tryz.func24, Tryz.ntmps24
      go_wp2_with fail
      go_loopw [13] (fun iv wr => iv = .int .i64 0 ∧ w = wr) (fun iv wr => 0)
      case atStart => exact ⟨rfl, rfl⟩
      case round =>
        obtain ⟨rfl, rfl⟩ := hrel
        go_wp2_with fail
        go_ret
        exact ⟨rfl, Below.refl _ _⟩
  · have HF : Hid (decide (L = M) = false) := Lib.hid (decide_eq_false (fun h => hl (by rw [h])))
    obtain ⟨_, p1, c1, rfl, _⟩ := h1
    obtain ⟨_, p2, c2, rfl, _⟩ := h2
    have b1 : ((L.length : Int) == (M.length : Int)) = false := beq_eq_false_iff_ne.2 (by omega)
    have b2 : ((L.length : Int) != (M.length : Int)) = true := bne_iff_ne.2 (by omega)
    have b3 : (L.length == M.length) = false := beq_eq_false_iff_ne.2 hl
    clear hl
    go_enter Tryz.func24, Tryz.ntmps24
    go_wp2_with fail
    all_goals first
      | (go_ret; exact ⟨by rw [HF.out]; rfl, Below.refl _ _⟩)
      | (exfalso; simp_all; done)
end Go.Proofs.YtlaihjefmhcmcaaGreatDoor
