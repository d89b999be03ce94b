/- Runs compared. -/
import Derived.Test.YtjimeengkfjihaaGreatDoorRows
import Derived.WalkKit
import Derived.ProofKit
import Derived.OpenShut
import Derived.WalkLawsBesides
import Derived.WalkSpells
import Derived.Outline
import Derived.Handy
import Derived.Lib.Hide
import Derived.Lib.OthersKept
import Derived.KernelRfl
import Derived.Carry
import Derived.IntWalk
import Derived.RegionTactic
import Derived.BigRegion
import Derived.BigQuiet
import Derived.Deep.QuietTactic
import Derived.Test.YtjimeengkfjihaaGreatDoorMaX
import Derived.Test.YtjimeengkfjihaaGreatDoorMaW
namespace Go.Proofs.YtjimeengkfjihaaGreatDoor
open Go.ChangeShapes Go.WideShapes Go.ChangeAt Go.RowKit
set_option linter.unusedVariables false
theorem four_cellsY {w : World} {b : Nat} {v0 v1 v2 v3 : Value} {t : TypeId} (h : w.heap[b]? = some (.cells #[v0, v1, v2, v3] t (0, 0))) : w.cell? ⟨b, 0, none⟩ = some v0 ∧ w.cell? ⟨b, 1, none⟩ = some v1 ∧ w.cell? ⟨b, 2, none⟩ = some v2 ∧ w.cell? ⟨b, 3, none⟩ = some v3 := by
  refine ⟨?_, ?_, ?_, ?_⟩ <;> simp [World.cell?, h]
/-- A value is a run. -/
def RnAt (w : World) (v : Value) (r : Rn) : Prop := ∃ po co, v = .agg #[.int .i64 r.stat, .int .i64 r.code, .slice po r.out.length co, .int .i64 r.steps] ∧ ∀ i x, r.out[i]? = some x → ∃ a, po = some a ∧ w.cell? (a.add i) = some (.int .i64 x)
theorem RnAt.ext {w w' : World} {v : Value} {r : Rn} (h : RnAt w v r) (g : Below w.heap.size w w') : RnAt w' v r := by
  obtain ⟨po, co, e, h⟩ := h
  refine ⟨po, co, e, fun i x hi => ?_⟩
  obtain ⟨a, ha, hc⟩ := h i x hi
  exact ⟨a, ha, (g.cell (at_lt hc)).trans hc⟩
theorem rn_of_own {w : World} {base : Nat} {r : Rn} {po : Option Addr} {co : Nat} (h : w.ownsRow base 3 1 (.slice po r.out.length co) r.out.length (r.out.flatMap cellsN)) : RnAt w (.agg #[.int .i64 r.stat, .int .i64 r.code, .slice po r.out.length co, .int .i64 r.steps]) r := by
  obtain ⟨_, p', c', hq, hc⟩ := row_get lenN (by decide) h
  injection hq with hq1 _ _
  refine ⟨po, co, rfl, fun i x hx => ?_⟩
  obtain ⟨hi, hx⟩ := List.getElem?_eq_some_iff.1 hx
  obtain ⟨g, hg, _, hcg⟩ := hc i hi
  rw [hx] at hcg
  refine ⟨_, hq1.trans hg, ?_⟩
  rw [addr_add, Nat.zero_add]
  have := hcg 0 (by decide)
  rw [Nat.mul_one] at this
  exact this
theorem rn_eq (r s : Rn) : decide (r = s) = (decide (r.stat = s.stat) && (decide (r.code = s.code) && (decide (r.steps = s.steps) && decide (r.out = s.out)))) := by
  obtain ⟨a, b, c, d⟩ := r
  obtain ⟨a', b', c', d'⟩ := s
  rw [← Bool.decide_and, ← Bool.decide_and, ← Bool.decide_and]
  congr 1
  simp only [Rn.mk.injEq, eq_iff_iff]
  constructor
  · rintro ⟨h1, h2, h3, h4⟩; exact ⟨h1, h2, h4, h3⟩
  · rintro ⟨h1, h2, h3, h4⟩; exact ⟨h1, h2, h4, h3⟩
theorem drop_ne {L M : List Int} (h : L.length = M.length) (i : Nat) (hi : i < L.length) (hd : L.take i = M.take i) (hne : L[i]'hi ≠ M[i]'(by omega)) : L ≠ M := fun e => hne (by subst e; rfl)
theorem take_next {L M : List Int} (h : L.length = M.length) (i : Nat) (hi : i < L.length) (hd : L.take i = M.take i) (he : L[i]'hi = M[i]'(by omega)) : L.take (i + 1) = M.take (i + 1) := by
  rw [List.take_succ_eq_append_getElem hi, List.take_succ_eq_append_getElem (by omega), hd, he]
def outAt (w : World) (po : Option Addr) (l : List Int) : Prop := ∀ i x, l[i]? = some x → ∃ a, po = some a ∧ w.cell? (a.add i) = some (.int .i64 x)
set_option maxHeartbeats 1000000 in
set_option maxRecDepth 100000 in
theorem rsame_core (rs rc rt ss sc st : Int) (ro so : List Int) (po qo : Option Addr) (co do_ : Nat) (w : World) (h1 : outAt w po ro) (h2 : outAt w qo so) (hl : ro.length ≤ 1000000) (hl2 : so.length ≤ 1000000) :
    Calls Tryz.prog 16 #[.agg #[.int .i64 rs, .int .i64 rc, .slice po ro.length co, .int .i64 rt], .agg #[.int .i64 ss, .int .i64 sc, .slice qo so.length do_, .int .i64 st]] w fun e w' => e = .returned (.bool (decide (rs = ss) && (decide (rc = sc) && (decide (rt = st) && decide (ro = so))))) ∧ Below w.heap.size w w' := by
  have HC1 := Lib.hid h1
  have HC2 := Lib.hid h2
  clear h1 h2
  by_cases e1 : rs = ss
  · subst e1
    by_cases e2 : rc = sc
    · subst e2
      by_cases e3 : rt = st
      · subst e3
        by_cases e4 : ro.length = so.length
        · have HV : Hid ((decide (rs = rs) && (decide (rc = rc) && (decide (rt = rt) && decide (ro = so)))) = decide (ro = so)) := Lib.hid (by simp)
          have HL := Lib.hid e4
          rw [← e4]
          generalize (decide (rs = rs) && (decide (rc = rc) && (decide (rt = rt) && decide (ro = so)))) = bv at *
          clear e4 hl2
          go_enter Tryz.func16, Tryz.ntmps16
          go_wp2_with fail
          go_loopw [5] (fun iv wr => ∃ i : Nat, iv = .int .i64 i ∧ i ≤ ro.length ∧ Below w.heap.size w wr ∧ wr.heap[w.heap.size]? = some (.cells #[.int .i64 rs, .int .i64 rc, .slice po ro.length co, .int .i64 rt] 31 (0, 0)) ∧ wr.heap[w.heap.size + 1]? = some (.cells #[.int .i64 rs, .int .i64 rc, .slice qo ro.length do_, .int .i64 rt] 31 (0, 0)) ∧ ro.take i = so.take i) (fun iv wr => ro.length - slotN iv)
          case atStart => exact ⟨0, rfl, Nat.zero_le _, ext_alloc (ext_alloc (Below.refl _ _) _) _, (Lib.alloc_old _ _ _ (by simp)).trans (heap_new w _), heap_new' _ _ _ (by simp), rfl⟩
          case round =>
            obtain ⟨i, rfl, hi, hbl, hx1, hx2, htk⟩ := hrel
            have HB := Lib.hid hbl
            have HX1 := Lib.hid hx1
            have HX2 := Lib.hid hx2
            have HT := Lib.hid htk
            obtain ⟨_, _, a2, _⟩ := four_cellsY hx1
            obtain ⟨_, _, b2, _⟩ := four_cellsY hx2
            have z2 : w.heap.size + 1 < wr.heap.size := (Array.getElem?_eq_some_iff.1 hx2).1
            clear hx1 hx2
            by_cases h : i < ro.length
            · have h' : i < so.length := by have := HL.out; omega
              obtain ⟨x, hx⟩ : ∃ x, ro[i]'h = x := ⟨_, rfl⟩
              obtain ⟨y, hy⟩ : ∃ y, so[i]'h' = y := ⟨_, rfl⟩
              obtain ⟨a, ha, ca⟩ := HC1.out i x (by rw [List.getElem?_eq_getElem h, hx])
              obtain ⟨b, hb, cb⟩ := HC2.out i y (by rw [List.getElem?_eq_getElem h', hy])
              have ca := (hbl.cell (at_lt ca)).trans ca
              have cb := (hbl.cell (at_lt cb)).trans cb
              subst ha hb
              have hii : (i : Int) < (ro.length : Int) := by omega
              by_cases hxy : x = y
              · have HN : Hid (ro.take (i + 1) = so.take (i + 1)) := Lib.hid (take_next HL.out i h htk (by rw [hx, hy, hxy]))
                subst hxy
                clear hbl htk hx hy HT
                go_wp2_with fail
                go_quiet (fail)
                go_wp2_with fail
                go_roundw
                case rel => exact ⟨i + 1, by go_num, by omega, ext_drewN HB.out _, HX1.out, HX2.out, HN.out⟩
                case measure => simp [slotN]; omega
              · have HN : Hid (bv = false) := Lib.hid (by rw [HV.out]; exact decide_eq_false (drop_ne HL.out i h htk (by rw [hx, hy]; exact hxy)))
                have hb1 : (x == y) = false := beq_eq_false_iff_ne.2 hxy
                have hb2 : (x != y) = true := bne_iff_ne.2 hxy
                clear hbl htk hx hy HT hxy
                go_wp2_with fail
                go_quiet (fail)
                go_wp2_with fail
                go_ret
                exact ⟨by rw [HN.out]; rfl, ext_drewN HB.out _⟩
            · have HN : Hid (bv = true) := Lib.hid (by
                rw [HV.out]
                refine decide_eq_true ?_
                have e1 := htk
                rw [List.take_of_length_le (by omega), List.take_of_length_le (by have := HL.out; omega)] at e1
                exact e1)
              clear hbl htk HT
              go_wp2_with fail
              go_ret
              exact ⟨by rw [HN.out]; rfl, HB.out⟩
        · have HV : Hid ((decide (rs = rs) && (decide (rc = rc) && (decide (rt = rt) && decide (ro = so)))) = false) := Lib.hid (by rw [decide_eq_false (fun k : ro = so => e4 (by rw [k]))]; simp)
          generalize (decide (rs = rs) && (decide (rc = rc) && (decide (rt = rt) && decide (ro = so)))) = bv at *
          have hb1 : ((ro.length : Int) == (so.length : Int)) = false := beq_eq_false_iff_ne.2 (by omega)
          have hb2 : ((ro.length : Int) != (so.length : Int)) = true := bne_iff_ne.2 (by omega)
          have hb3 : ¬ (ro.length = so.length) := e4
          go_enter Tryz.func16, Tryz.ntmps16
          go_wp2_with fail
          go_ret
          exact ⟨by rw [HV.out]; rfl, ext_alloc (ext_alloc (Below.refl _ _) _) _⟩
      · have HV : Hid ((decide (rs = rs) && (decide (rc = rc) && (decide (rt = st) && decide (ro = so)))) = false) := Lib.hid (by rw [decide_eq_false e3]; simp)
        generalize (decide (rs = rs) && (decide (rc = rc) && (decide (rt = st) && decide (ro = so)))) = bv at *
        have hb1 : (rt == st) = false := beq_eq_false_iff_ne.2 e3
        have hb2 : (rt != st) = true := bne_iff_ne.2 e3
        go_enter Tryz.func16, Tryz.ntmps16
        go_wp2_with fail
        go_ret
        exact ⟨by rw [HV.out]; rfl, ext_alloc (ext_alloc (Below.refl _ _) _) _⟩
    · have HV : Hid ((decide (rs = rs) && (decide (rc = sc) && (decide (rt = st) && decide (ro = so)))) = false) := Lib.hid (by rw [decide_eq_false e2]; simp)
      generalize (decide (rs = rs) && (decide (rc = sc) && (decide (rt = st) && decide (ro = so)))) = bv at *
      have hb1 : (rc == sc) = false := beq_eq_false_iff_ne.2 e2
      have hb2 : (rc != sc) = true := bne_iff_ne.2 e2
      go_enter Tryz.func16, Tryz.ntmps16
      go_wp2_with fail
      go_ret
      exact ⟨by rw [HV.out]; rfl, ext_alloc (ext_alloc (Below.refl _ _) _) _⟩
  · have HV : Hid ((decide (rs = ss) && (decide (rc = sc) && (decide (rt = st) && decide (ro = so)))) = false) := Lib.hid (by rw [decide_eq_false e1]; simp)
    generalize (decide (rs = ss) && (decide (rc = sc) && (decide (rt = st) && decide (ro = so)))) = bv at *
    have hb1 : (rs == ss) = false := beq_eq_false_iff_ne.2 e1
    have hb2 : (rs != ss) = true := bne_iff_ne.2 e1
    go_enter Tryz.func16, Tryz.ntmps16
    go_wp2_with fail
    go_ret
    exact ⟨by rw [HV.out]; rfl, ext_alloc (ext_alloc (Below.refl _ _) _) _⟩
theorem rsame_any (v1 v2 : Value) (r s : Rn) (w : World) (h1 : RnAt w v1 r) (h2 : RnAt w v2 s) (hl : r.out.length ≤ 1000000) (hl2 : s.out.length ≤ 1000000) : Calls Tryz.prog 16 #[v1, v2] w fun e w' => e = .returned (.bool (decide (r = s))) ∧ Below w.heap.size w w' := by
  obtain ⟨po, co, rfl, hc1⟩ := h1
  obtain ⟨qo, do_, rfl, hc2⟩ := h2
  rw [rn_eq]
  exact rsame_core _ _ _ _ _ _ _ _ _ _ _ _ w hc1 hc2 hl hl2
end Go.Proofs.YtjimeengkfjihaaGreatDoor
/- What the statements of layer 9 are made of. -/
namespace Go.Proofs.YtjimeengkfjihaaGreatDoor
open Go.ChangeShapes Go.WideShapes Go.ChangeAt Go.RowKit
set_option linter.unusedVariables false
theorem pick9_any (c n : Int) (w : World) (h1 : I64 c) (h3 : 0 < n) :
    Calls Tryz.prog 13 #[.int .i64 c, .int .i64 n] w fun e w' => e = .returned (.int .i64 (pickN c n)) ∧ w = w' := by
  obtain ⟨h1, h2⟩ := h1
  have hn : (n == 0) = false := by simpa using (show n ≠ 0 by omega)
  by_cases h : c < 0
  · have e : pickN c n = -((c + 1).tmod n) := by rw [pickN, if_pos h, ← Int.neg_tmod, Int.tmod_eq_emod_of_nonneg (by omega)]
    have E := Lib.hid e; clear e
    go_enter Tryz.func13, Tryz.ntmps13
    go_wp2
    go_ret
    exact ⟨by rw [E.out]; rfl, rfl⟩
  · have e : pickN c n = c % n := by simp [pickN, h]
    have E := Lib.hid e; clear e
    go_enter Tryz.func13, Tryz.ntmps13
    go_wp2
    go_ret
    exact ⟨by rw [E.out]; rfl, rfl⟩
set_option maxRecDepth 100000 in
theorem line_any (op d a b n : Int) (s : ByteArray) (w : World) : Calls Tryz.prog 17 #[.agg #[.int .i64 op, .int .i64 d, .int .i64 a, .int .i64 b, .int .i64 n, .string s]] w fun e w' => e = .returned (.agg #[.string ⟨#[]⟩, .int .i64 op, .int .i64 d, .int .i64 a, .int .i64 b, .int .i64 n, .string s]) ∧ Below w.heap.size w w' := by
  go_enter Tryz.func17, Tryz.ntmps17
  go_wp2_with fail
  exact bodyPost_ret (v := .agg #[.string ⟨#[]⟩, .int .i64 op, .int .i64 d, .int .i64 a, .int .i64 b, .int .i64 n, .string s]) (by simp [results, Tryz.results17, go_sem]) rfl ⟨rfl, ext_alloc (ext_alloc (Below.refl _ _) _) _⟩
/-- A block of lines, or of arrays, is a row of them. -/
theorem lns_block {w : World} {b : Nat} {L : List Ln} (h : w.heap[b]? = some (.cells (L.flatMap cellsL).toArray 41 (0, 0))) (hl : L.length ≤ 1000) : LnsAt w (.slice (some ⟨b, 0, none⟩) L.length L.length) L := by
  have h7 := flat_len cellsL 7 lenL L
  refine row_lns (base := b) (e := 41) (n := L.length) ⟨h7, .inr ⟨b, L.length, _, rfl, Nat.le_refl _, h, Nat.le_refl _, by unfold maxLen; omega, by simpa using h7, ?_⟩⟩ (by omega)
  rw [List.take_of_length_le (by show (L.flatMap cellsL).length ≤ _; rw [h7]; exact Nat.le_refl _)]
theorem ars_block {w : World} {b : Nat} {L : List Ar} (h : w.heap[b]? = some (.cells (L.flatMap cellsA).toArray 37 (0, 0))) (hl : L.length ≤ 1000) : ArsAt w (.slice (some ⟨b, 0, none⟩) L.length L.length) L := by
  have h7 := flat_len cellsA 2 lenA L
  refine row_ars (base := b) (e := 37) (n := L.length) ⟨h7, .inr ⟨b, L.length, _, rfl, Nat.le_refl _, h, Nat.le_refl _, by unfold maxLen; omega, by simpa using h7, ?_⟩⟩ (by omega)
  rw [List.take_of_length_le (by show (L.flatMap cellsA).length ≤ _; rw [h7]; exact Nat.le_refl _)]
theorem ars_none (w : World) : ArsAt w (.slice none 0 0) [] := ⟨by simp, none, 0, rfl, fun i h => by cases h⟩
theorem cd_of {w : World} {va vl : Value} {c : Cd} (h1 : ArsAt w va c.arrays) (h2 : LnsAt w vl c.lines) (l1 : c.arrays.length ≤ 1000) (l2 : c.lines.length ≤ 1000) : CdAt w (.agg #[va, vl]) c := ⟨va, vl, rfl, h1, h2, by omega, by omega⟩
/-- What a run of nothing to read is; and what it is like. -/
theorem RunRes.rn {B : Nat} {r : Rn} {e : Ending} {w : World} (h : RunRes B r e w) : ∃ po co, e = .returned (.agg #[.int .i64 r.stat, .int .i64 r.code, .slice po r.out.length co, .int .i64 r.steps]) ∧ RnAt w (.agg #[.int .i64 r.stat, .int .i64 r.code, .slice po r.out.length co, .int .i64 r.steps]) r := by
  obtain ⟨po, co, rfl, h⟩ := h
  exact ⟨po, co, rfl, rn_of_own h⟩
theorem rn_lit (w : World) (s c t : Int) : RnAt w (.agg #[.int .i64 s, .int .i64 c, .slice none 0 0, .int .i64 t]) ⟨s, c, [], t⟩ := ⟨none, 0, rfl, fun i x h => by simp at h⟩
end Go.Proofs.YtjimeengkfjihaaGreatDoor
