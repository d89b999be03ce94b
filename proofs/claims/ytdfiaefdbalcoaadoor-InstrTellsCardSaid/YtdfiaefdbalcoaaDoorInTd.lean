/- The document's own answer: what instructions read and write. -/
import Derived.Test.YtdfiaefdbalcoaaDoorRows
import Derived.WalkKit
import Derived.ProofKit
import Derived.OpenShut
import Derived.WalkLawsBesides
import Derived.WalkSpells
import Derived.Outline
import Derived.Handy
import Derived.Lib.Hide
import Derived.Lib.OthersKept
import Derived.KernelRfl
import Derived.OwnWalk
import Derived.Test.YtdfiaefdbalcoaaDoorInK
import Derived.Test.YtdfiaefdbalcoaaDoorInTb
namespace Go.Proofs.YtdfiaefdbalcoaaDoor
open Go.ChangeShapes Go.WideShapes Go.ChangeAt Go.RowKit
set_option linter.unusedVariables false
set_option maxRecDepth 100000 in
set_option maxHeartbeats 4000000 in
theorem rwrites_any (x : In) (w : World) (hl : x.name.length ≤ 140737488355328) : Calls Tryd.prog 19 #[inV x] w fun e w' => e = .returned (.int .i64 (writesL x)) ∧ Below w.heap.size w w' := by
  have HR := Lib.hid (fun w => rright_any x w hl)
  have HB0 : ∀ w1 : World, Below (w.alloc (.cells (inC x) 23)).heap.size (w.alloc (.cells (inC x) 23)) w1 → w1.heap[w.heap.size]? = some (.cells (inC x) 23 (0, 0)) := fun w1 g => (g.block w.heap.size (by simp)).trans (heap_new _ _)
  have HB0 := Lib.hid HB0
  obtain ⟨op, d, a, b, n, name⟩ := x
  have HW : Hid (writesL ⟨op, d, a, b, n, name⟩ = if rightB ⟨op, d, a, b, n, name⟩ then (if op = 26 then 1 else if op = 28 then 10 else d) else 0) := Lib.hid rfl
  unfold inV at HR ⊢
  dsimp only at *
  generalize writesL ⟨op, d, a, b, n, name⟩ = v at *
  generalize rightB ⟨op, d, a, b, n, name⟩ = rb at *
  cases rb
  · have HV : Hid (v = 0) := Lib.hid HW.out
    clear HW
    go_enter Tryd.func19, Tryd.ntmps19
    go_wp2_with fail
    refine (HR.out _).mono ?_; rintro e w1 ⟨rfl, g1⟩
    go_wp2_with fail
    go_ret
    exact ⟨by rw [HV.out]; rfl, ext_trans (ext_alloc (Below.refl _ _) _) g1⟩
  by_cases h26 : op = 26
  · subst h26
    have HV : Hid (v = 1) := Lib.hid HW.out
    clear HW
    go_enter Tryd.func19, Tryd.ntmps19
    go_wp2_with fail
    refine (HR.out _).mono ?_; rintro e w1 ⟨rfl, g1⟩
    obtain ⟨⟨c0, c1, c2, c3, c4, c5⟩, _, _, _, _, _, _⟩ := six_at (HB0.out _ g1)
    have G := ext_trans (ext_alloc (Below.refl _ _) _) g1
    clear g1
    go_wp2_with fail
    go_ret
    exact ⟨by rw [HV.out]; rfl, G⟩
  by_cases h28 : op = 28
  · subst h28
    have HV : Hid (v = 10) := Lib.hid HW.out
    clear HW
    go_enter Tryd.func19, Tryd.ntmps19
    go_wp2_with fail
    refine (HR.out _).mono ?_; rintro e w1 ⟨rfl, g1⟩
    obtain ⟨⟨c0, c1, c2, c3, c4, c5⟩, _, _, _, _, _, _⟩ := six_at (HB0.out _ g1)
    have G := ext_trans (ext_alloc (Below.refl _ _) _) g1
    clear g1
    go_wp2_with fail
    go_ret
    exact ⟨by rw [HV.out]; rfl, G⟩
  have HV : Hid (v = d) := Lib.hid (by rw [HW.out, if_pos rfl, if_neg h26, if_neg h28])
  have e26 : (op == 26) = false := beq_eq_false_iff_ne.2 h26
  have e28 : (op == 28) = false := beq_eq_false_iff_ne.2 h28
  clear HW h26 h28
  go_enter Tryd.func19, Tryd.ntmps19
  go_wp2_with fail
  refine (HR.out _).mono ?_; rintro e w1 ⟨rfl, g1⟩
  obtain ⟨⟨c0, c1, c2, c3, c4, c5⟩, _, _, _, _, _, _⟩ := six_at (HB0.out _ g1)
  have G := ext_trans (ext_alloc (Below.refl _ _) _) g1
  clear g1
  go_wp2_with fail
  go_ret
  exact ⟨by rw [HV.out]; rfl, G⟩
set_option maxRecDepth 100000 in
set_option maxHeartbeats 4000000 in
theorem rreads_any (x : In) (w : World) (hl : x.name.length ≤ 140737488355328) : Calls Tryd.prog 17 #[inV x] w fun e w' => (∃ v, e = .returned v ∧ IntsAt w' v (readsL x)) ∧ Below w.heap.size w w' := by
  have HR := Lib.hid (fun w => rright_any x w hl)
  have HB0 : ∀ w1 : World, Below (w.alloc (.cells (inC x) 23)).heap.size (w.alloc (.cells (inC x) 23)) w1 → w1.heap[w.heap.size]? = some (.cells (inC x) 23 (0, 0)) := fun w1 g => (g.block w.heap.size (by simp)).trans (heap_new _ _)
  have HB0 := Lib.hid HB0
  obtain ⟨op, d, a, b, n, name⟩ := x
  have HW : Hid (readsL ⟨op, d, a, b, n, name⟩ = if rightB ⟨op, d, a, b, n, name⟩ then (if op = 27 then [1] else if op = 28 then [10, 17] else (if a ≠ 0 then [a] else []) ++ (if b ≠ 0 ∧ b ≠ a then [b] else [])) else []) := Lib.hid rfl
  unfold inV at HR ⊢
  dsimp only at *
  generalize readsL ⟨op, d, a, b, n, name⟩ = v at *
  generalize rightB ⟨op, d, a, b, n, name⟩ = rb at *
  cases rb
  · have HV : Hid (v = []) := Lib.hid HW.out
    clear HW
    go_enter Tryd.func17, Tryd.ntmps17
    go_wp2_with fail
    refine (HR.out _).mono ?_; rintro e w1 ⟨rfl, g1⟩
    go_wp2_with fail
    go_ret
    exact ⟨⟨_, rfl, .inl ⟨rfl, HV.out⟩⟩, ext_trans (ext_alloc (Below.refl _ _) _) g1⟩
  by_cases h27 : op = 27
  · subst h27
    have HV : Hid (v = [1]) := Lib.hid HW.out
    clear HW
    go_enter Tryd.func17, Tryd.ntmps17
    go_wp2_with fail
    refine (HR.out _).mono ?_; rintro e w1 ⟨rfl, g1⟩
    obtain ⟨⟨c0, c1, c2, c3, c4, c5⟩, _, _, _, _, _, _⟩ := six_at (HB0.out _ g1)
    have G := ext_trans (ext_alloc (Below.refl _ _) _) g1
    clear g1
    go_wp2_with fail
    go_ret
    refine ⟨⟨_, rfl, ?_⟩, ext_alloc G _⟩
    rw [HV.out]
    exact .inr ⟨w1.heap.size, 1, rfl, by simp, fun i hi => by
        obtain rfl : i = 0 := by simp at hi; omega
        exact cell_row (heap_new w1 _) 0⟩
  by_cases h28 : op = 28
  · subst h28
    have HV : Hid (v = [10, 17]) := Lib.hid HW.out
    clear HW
    go_enter Tryd.func17, Tryd.ntmps17
    go_wp2_with fail
    refine (HR.out _).mono ?_; rintro e w1 ⟨rfl, g1⟩
    obtain ⟨⟨c0, c1, c2, c3, c4, c5⟩, _, _, _, _, _, _⟩ := six_at (HB0.out _ g1)
    have G := ext_trans (ext_alloc (Below.refl _ _) _) g1
    clear g1
    go_wp2_with fail
    go_ret
    refine ⟨⟨_, rfl, ?_⟩, ext_alloc G _⟩
    rw [HV.out]
    exact .inr ⟨w1.heap.size, 2, rfl, by simp, fun i hi => by
        match i, hi with
        | 0, _ => exact cell_row (heap_new w1 _) 0
        | 1, _ => exact cell_row (heap_new w1 _) 1⟩
  have HV2 : Hid (v = (if a ≠ 0 then [a] else []) ++ (if b ≠ 0 ∧ b ≠ a then [b] else [])) := Lib.hid (by rw [HW.out, if_pos rfl, if_neg h27, if_neg h28])
  have e27 : (op == 27) = false := beq_eq_false_iff_ne.2 h27
  have e28 : (op == 28) = false := beq_eq_false_iff_ne.2 h28
  clear HW h27 h28
  obtain ⟨i0, hi, hz0, hz1, hz2⟩ := info_parts infoInt
  by_cases ha : a = 0
  · subst ha
    by_cases hb : b = 0
    · subst hb
      have HV : Hid (v = []) := Lib.hid HV2.out
      clear HV2
      go_enter Tryd.func17, Tryd.ntmps17
      go_wp2_with fail
      refine (HR.out _).mono ?_; rintro e w1 ⟨rfl, g1⟩
      obtain ⟨⟨c0, c1, c2, c3, c4, c5⟩, _, _, _, _, _, _⟩ := six_at (HB0.out _ g1)
      have G := ext_trans (ext_alloc (Below.refl _ _) _) g1
      clear g1
      go_wp2_with fail
      go_ret
      exact ⟨⟨_, rfl, .inl ⟨rfl, HV.out⟩⟩, G⟩
    · have HV : Hid (v = [b]) := Lib.hid (by rw [HV2.out, if_neg (fun h => h rfl), if_pos ⟨hb, hb⟩]; rfl)
      have eb : (b == 0) = false := beq_eq_false_iff_ne.2 hb
      have eb2 : (b != 0) = true := bne_iff_ne.2 hb
      clear HV2 hb
      go_enter Tryd.func17, Tryd.ntmps17
      go_wp2_with fail
      refine (HR.out _).mono ?_; rintro e w1 ⟨rfl, g1⟩
      have hB1 := HB0.out _ g1
      have hz : w.heap.size < w1.heap.size := (Array.getElem?_eq_some_iff.1 hB1).1
      obtain ⟨⟨c0, c1, c2, c3, c4, c5⟩, _, _, _, _, _, _⟩ := six_at hB1
      have G := ext_trans (ext_alloc (Below.refl _ _) _) g1
      clear g1 hB1
      go_wp2_with (at_builtin; refine wpList_append_own _ rfl _ _ 32 rfl (w.heap.size + 1) 3 i0 (.int .i64 0) 1 8 Tryd.underlying32 hi hz0 hz1 hz2 rfl (by decide) _ 0 [] rfl (World.ownsRow_nil _ _ _ _) ⟨w1.heap.size, 0, none⟩ 1 1 [.int .i64 b] rfl rfl (one_news _ _) (fun u hu => by rw [List.mem_singleton.1 hu]; rfl) (by unfold maxLen; omega) (by omega) (by simp; omega) ?_)
      intro v2 w2 hown hgrow _
      have G2 := grown_out G hgrow (fun k hk => by simp [Value.ownBlock] at hk)
      go_wp2_with fail
      go_ret
      exact ⟨⟨_, rfl, by rw [HV.out]; exact ints_own rfl hown⟩, G2⟩
  · have ea : (a == 0) = false := beq_eq_false_iff_ne.2 ha
    have ea2 : (a != 0) = true := bne_iff_ne.2 ha
    by_cases hb : b ≠ 0 ∧ b ≠ a
    · have HV : Hid (v = [a, b]) := Lib.hid (by rw [HV2.out, if_pos ha, if_pos hb]; rfl)
      have eb : (b == 0) = false := beq_eq_false_iff_ne.2 hb.1
      have eb2 : (b != 0) = true := bne_iff_ne.2 hb.1
      have eb3 : (b == a) = false := beq_eq_false_iff_ne.2 hb.2
      have eb4 : (b != a) = true := bne_iff_ne.2 hb.2
      clear HV2 hb ha
      go_enter Tryd.func17, Tryd.ntmps17
      go_wp2_with fail
      refine (HR.out _).mono ?_; rintro e w1 ⟨rfl, g1⟩
      have hB1 := HB0.out _ g1
      have hz : w.heap.size < w1.heap.size := (Array.getElem?_eq_some_iff.1 hB1).1
      obtain ⟨⟨c0, c1, c2, c3, c4, c5⟩, _, _, _, _, _, _⟩ := six_at hB1
      have G := ext_trans (ext_alloc (Below.refl _ _) _) g1
      clear g1
      go_wp2_with (at_builtin; refine wpList_append_own _ rfl _ _ 32 rfl (w.heap.size + 1) 3 i0 (.int .i64 0) 1 8 Tryd.underlying32 hi hz0 hz1 hz2 rfl (by decide) _ 0 [] rfl (World.ownsRow_nil _ _ _ _) ⟨w1.heap.size, 0, none⟩ 1 1 [.int .i64 a] rfl rfl (one_news _ _) (fun u hu => by rw [List.mem_singleton.1 hu]; rfl) (by unfold maxLen; omega) (by omega) (by simp; omega) ?_)
      intro v2 w2 hown hgrow _
      have G2 := grown_out G hgrow (fun k hk => by simp [Value.ownBlock] at hk)
      have hB2 := (hgrow.block w.heap.size (by simp; omega) (by simp [Value.ownBlock])).trans ((Lib.alloc_old _ _ _ hz).trans hB1)
      have HOWN := Lib.hid hown
      clear c0 c1 c2 c3 c4 c5 hgrow hown hB1
      obtain ⟨⟨c0, c1, c2, c3, c4, c5⟩, _, _, _, _, _, _⟩ := six_at hB2
      have hzz : w.heap.size < w2.heap.size := (Array.getElem?_eq_some_iff.1 hB2).1
      have HOWN2 := Lib.hid (HOWN.out.alloc (.cells #[.int .i64 b] 3))
      have hrow : ∀ k, v2.ownBlock = some k → w.heap.size ≤ k := fun k hk => by have := (HOWN.out.lt k hk).1; omega
      have HROW := Lib.hid hrow
      clear hB2 hrow
      go_wp2_with (at_builtin; refine wpList_append_own _ rfl _ _ 32 rfl (w.heap.size + 1) 3 i0 (.int .i64 0) 1 8 Tryd.underlying32 hi hz0 hz1 hz2 rfl (by decide) _ 1 [.int .i64 a] rfl (HOWN2.out) ⟨w2.heap.size, 0, none⟩ 1 1 [.int .i64 b] rfl rfl (one_news _ _) (fun u hu => by rw [List.mem_singleton.1 hu]; rfl) (by unfold maxLen; omega) (by omega) (by simp; omega) ?_)
      intro v3 w3 hown hgrow _
      have G3 := grown_out G2 hgrow HROW.out
      go_wp2_with fail
      go_ret
      exact ⟨⟨_, rfl, by rw [HV.out]; exact ints_own rfl hown⟩, G3⟩
    · have HV : Hid (v = [a]) := Lib.hid (by rw [HV2.out, if_pos ha, if_neg hb]; rfl)
      have hb2 : b = 0 ∨ ((b == 0) = false ∧ a = b) := by
        by_cases h0 : b = 0
        · exact .inl h0
        · refine .inr ⟨beq_eq_false_iff_ne.2 h0, ?_⟩
          apply Classical.byContradiction
          intro h1
          exact hb ⟨h0, fun e => h1 e.symm⟩
      clear HV2 hb ha
      rcases hb2 with h | ⟨eb, h⟩
      all_goals
        subst h
        go_enter Tryd.func17, Tryd.ntmps17
        go_wp2_with fail
        refine (HR.out _).mono ?_; rintro e w1 ⟨rfl, g1⟩
        have hB1 := HB0.out _ g1
        have hz : w.heap.size < w1.heap.size := (Array.getElem?_eq_some_iff.1 hB1).1
        obtain ⟨⟨c0, c1, c2, c3, c4, c5⟩, _, _, _, _, _, _⟩ := six_at hB1
        have G := ext_trans (ext_alloc (Below.refl _ _) _) g1
        clear g1
        go_wp2_with (at_builtin; refine wpList_append_own _ rfl _ _ 32 rfl (w.heap.size + 1) 3 i0 (.int .i64 0) 1 8 Tryd.underlying32 hi hz0 hz1 hz2 rfl (by decide) _ 0 [] rfl (World.ownsRow_nil _ _ _ _) ⟨w1.heap.size, 0, none⟩ 1 1 [.int .i64 a] rfl rfl (one_news _ _) (fun u hu => by rw [List.mem_singleton.1 hu]; rfl) (by unfold maxLen; omega) (by omega) (by simp; omega) ?_)
        intro v2 w2 hown hgrow _
        have G2 := grown_out G hgrow (fun k hk => by simp [Value.ownBlock] at hk)
        have hB2 := (hgrow.block w.heap.size (by simp; omega) (by simp [Value.ownBlock])).trans ((Lib.alloc_old _ _ _ hz).trans hB1)
        have HOWN := Lib.hid hown
        clear c0 c1 c2 c3 c4 c5 hgrow hown hB1
        obtain ⟨⟨c0, c1, c2, c3, c4, c5⟩, _, _, _, _, _, _⟩ := six_at hB2
        clear hB2
        go_wp2_with fail
        go_ret
        exact ⟨⟨_, rfl, by rw [HV.out]; exact ints_own rfl HOWN.out⟩, G2⟩
end Go.Proofs.YtdfiaefdbalcoaaDoor
