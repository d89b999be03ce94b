/- ir's small functions. -/
import Derived.Test.YtafapkljlajflaaDoorRows
import Derived.WalkKit
import Derived.ProofKit
import Derived.OpenShut
import Derived.WalkLawsBesides
import Derived.WalkSpells
import Derived.Outline
import Derived.Handy
import Derived.Lib.Hide
import Derived.Lib.OthersKept
import Derived.KernelRfl
import Derived.Carry
import Derived.RegionTactic
import Derived.BigRegion
import Derived.OwnWalk
import Derived.Deep.Cut
import Derived.Deep.AppendSrc
import Derived.Test.YtafapkljlajflaaDoorUr
import Derived.Test.YtafapkljlajflaaDoorUo
import Derived.Test.YtafapkljlajflaaDoorMapI
namespace Go.Proofs.YtafapkljlajflaaDoor
open Go.ChangeShapes Go.WideShapes Go.ChangeAt Go.RowKit
set_option linter.unusedVariables false
theorem has_any (k : Int) (w : World) : Calls Tryd.prog 28 #[.int .i64 k] w fun e w' => e = .returned (.int .i64 (hasK k)) ∧ w = w' := by
  by_cases h : k < 1 ∨ 9 < k
  · rw [hasK_no h]
    rcases h with h | h
    all_goals
      go_enter Tryd.func28, Tryd.ntmps28
      go_wp2
      go_ret
      exact ⟨rfl, rfl⟩
  · rcases nine (k := k) (by omega) (by omega) with rfl | rfl | rfl | rfl | rfl | rfl | rfl | rfl | rfl
    all_goals
      go_enter Tryd.func28, Tryd.ntmps28
      go_wp2
      go_ret
      exact ⟨rfl, rfl⟩
theorem hasK_all (k : Int) : (k < 1 ∨ 9 < k) ∨ k = 1 ∨ k = 2 ∨ k = 3 ∨ k = 4 ∨ k = 5 ∨ k = 6 ∨ k = 7 ∨ k = 8 ∨ k = 9 := by omega
def flV (nm : List UInt8) (p v : Int) (vb : Value) : Value := .agg #[.string (mk nm), .int .i64 p, .int .i64 v, vb]
theorem place_any (nm : List UInt8) (p vals : Int) (vb : Value) (v : Int) (w : World) : Calls Tryd.prog 53 #[flV nm p vals vb, .int .i64 v] w fun e w' => e = .returned (.bool (plcB vals v)) ∧ Below w.heap.size w w' := by
  unfold flV
  by_cases h : 0 ≤ v
  · by_cases h2 : v < vals
    · have E := Lib.hid (show plcB vals v = true from decide_eq_true ⟨h, h2⟩)
      go_enter Tryd.func53, Tryd.ntmps53
      go_wp2
      go_ret
      exact ⟨by rw [E.out]; rfl, ext_alloc (Below.refl _ _) _⟩
    · have E := Lib.hid (show plcB vals v = false from decide_eq_false (by omega))
      go_enter Tryd.func53, Tryd.ntmps53
      go_wp2
      go_ret
      exact ⟨by rw [E.out]; rfl, ext_alloc (Below.refl _ _) _⟩
  · have E := Lib.hid (show plcB vals v = false from decide_eq_false (by omega))
    go_enter Tryd.func53, Tryd.ntmps53
    go_wp2
    go_ret
    exact ⟨by rw [E.out]; rfl, ext_alloc (Below.refl _ _) _⟩
theorem fits_any (nm : List UInt8) (p vals : Int) (vb : Value) (has : Bool) (v : Int) (w : World) : Calls Tryd.prog 48 #[flV nm p vals vb, .bool has, .int .i64 v] w fun e w' => e = .returned (.bool (fitB vals has v)) ∧ Below w.heap.size w w' := by
  have HP := Lib.hid (fun w => place_any nm p vals vb v w)
  unfold flV at HP ⊢
  cases has
  · by_cases h : v = 0
    · have E := Lib.hid (show fitB vals false v = true from decide_eq_true h)
      subst h
      go_enter Tryd.func48, Tryd.ntmps48
      go_wp2
      go_ret
      exact ⟨by rw [E.out]; rfl, ext_alloc (Below.refl _ _) _⟩
    · have E := Lib.hid (show fitB vals false v = false from decide_eq_false h)
      have h2 : (v == 0) = false := beq_eq_false_iff_ne.2 h
      clear h
      go_enter Tryd.func48, Tryd.ntmps48
      go_wp2
      go_ret
      exact ⟨by rw [E.out]; rfl, ext_alloc (Below.refl _ _) _⟩
  · have E := Lib.hid (show fitB vals true v = plcB vals v from rfl)
    generalize plcB vals v = b at *
    cases b
    all_goals
      go_enter Tryd.func48, Tryd.ntmps48
      go_wp2_with fail
      refine (HP.out _).mono ?_; rintro e w1 ⟨rfl, g1⟩
      go_wp2_with fail
      go_ret
      exact ⟨by rw [E.out]; rfl, ext_trans (ext_alloc (Below.refl _ _) _) g1⟩
theorem one_b (op : Int) : onB op = decide (17 ≤ op ∧ op ≤ 19) := rfl
theorem rop_any (k op : Int) (w : World) : Calls Tryd.prog 49 #[.int .i64 (hasK k), .int .i64 op] w fun e w' => e = .returned (.bool (opB k op)) ∧ Below w.heap.size w w' := by
  have H1 := Lib.hid (fun w => one_any op 0 w)
  have H2 := Lib.hid (fun w => level_any op w)
  by_cases h3 : k = 3
  · subst h3
    have E := Lib.hid (show opB 3 op = onB op from rfl)
    have hk : hasK 3 = 19 := rfl
    rw [hk]
    generalize onB op = b at *
    generalize oneV op 0 = v at *
    go_enter Tryd.func49, Tryd.ntmps49
    go_wp2_with fail
    refine (H1.out _).mono ?_; rintro e w1 ⟨rfl, g1⟩
    go_wp2_with fail
    go_ret
    exact ⟨by rw [E.out]; rfl, g1⟩
  by_cases h4 : k = 4
  · subst h4
    have E := Lib.hid (show opB 4 op = decide (0 < levelL op) by rw [lvl_pos]; rfl)
    have hk : hasK 4 = 39 := rfl
    rw [hk]
    generalize levelL op = l at *
    go_enter Tryd.func49, Tryd.ntmps49
    go_wp2_with fail
    refine (H2.out _).mono ?_; rintro e w1 ⟨rfl, g1⟩
    go_wp2_with fail
    go_ret
    exact ⟨by rw [E.out]; rfl, g1⟩
  have E : Hid (opB k op = decide (op = 0)) := Lib.hid (by unfold opB; rw [if_neg h3, if_neg h4])
  by_cases ho : op = 0
  · rw [decide_eq_true ho] at E
    subst ho
    clear H1 H2
    rcases hasK_all k with h | h | h | h | h | h | h | h | h | h
    · rw [hasK_no h]
      clear h
      go_enter Tryd.func49, Tryd.ntmps49
      go_wp2
      go_ret
      exact ⟨by rw [E.out]; rfl, Below.refl _ _⟩
    all_goals
      first | exact absurd h h3 | exact absurd h h4 | skip
    all_goals
      subst h
      unfold hasK
      go_enter Tryd.func49, Tryd.ntmps49
      go_wp2
      go_ret
      exact ⟨by rw [E.out]; rfl, Below.refl _ _⟩
  · rw [decide_eq_false ho] at E
    have hob : (op == 0) = false := beq_eq_false_iff_ne.2 ho
    clear H1 H2 ho
    rcases hasK_all k with h | h | h | h | h | h | h | h | h | h
    · rw [hasK_no h]
      clear h
      go_enter Tryd.func49, Tryd.ntmps49
      go_wp2
      go_ret
      exact ⟨by rw [E.out]; rfl, Below.refl _ _⟩
    all_goals
      first | exact absurd h h3 | exact absurd h h4 | skip
    all_goals
      subst h
      unfold hasK
      go_enter Tryd.func49, Tryd.ntmps49
      go_wp2
      go_ret
      exact ⟨by rw [E.out]; rfl, Below.refl _ _⟩
def xnV (x : Xn) (va : Value) : Value := .agg #[.int .i64 x.kind, .int .i64 x.d, .int .i64 x.a, .int .i64 x.b, .int .i64 x.op, .int .i64 x.n, .string (mk x.name), va]
theorem sets_any (x : Xn) (va : Value) (w : World) : Calls Tryd.prog 13 #[xnV x va] w fun e w' => e = .returned (.int .i64 (setsL x)) ∧ Below w.heap.size w w' := by
  obtain ⟨k, d, a, b, op, n, name, args⟩ := x
  have HK := Lib.hid (fun w => has_any k w)
  unfold xnV
  rcases hasK_all k with h | h | h | h | h | h | h | h | h | h
  · have E : Hid (setsL ⟨k, d, a, b, op, n, name, args⟩ = -1) := Lib.hid (by unfold setsL hD; simp only; rw [decide_eq_false (by omega)]; rfl)
    rw [hasK_no h] at HK
    clear h
    go_enter Tryd.func13, Tryd.ntmps13
    go_wp2_with fail
    refine (HK.out _).mono ?_; rintro e w1 ⟨rfl, rfl⟩
    go_wp2_with fail
    go_ret
    exact ⟨by rw [E.out]; rfl, ext_alloc (Below.refl _ _) _⟩
  all_goals
    subst h
    unfold hasK at HK
    go_enter Tryd.func13, Tryd.ntmps13
    go_wp2_with fail
    refine (HK.out _).mono ?_; rintro e w1 ⟨rfl, rfl⟩
    go_wp2_with fail
    go_ret
    exact ⟨rfl, ext_alloc (Below.refl _ _) _⟩
def tmV (t : Tm) : Value := .agg #[.int .i64 t.kind, .int .i64 t.a, .int .i64 t.to, .int .i64 t.els]
def NumRes (B : Nat) (L : List Int) (e : Ending) (w : World) : Prop := ∃ v, e = .returned v ∧ NumsAt (fun b => B ≤ b) w v L
theorem nums_one {B g : Nat} {w : World} {x : Int} {t : TypeId} (h : w.heap[g]? = some (.cells #[.int .i64 x] t (0, 0))) (hB : B ≤ g) : NumsAt (fun b => B ≤ b) w (.slice (some ⟨g, 0, none⟩) 1 1) [x] :=
  ⟨by simp, _, _, rfl, fun i hi => ⟨_, rfl, hB, by
    have : i = 0 := by have : i < 1 := hi; omega
    subst this
    exact cell_row h 0⟩⟩
theorem nums_two {B g : Nat} {w : World} {x y : Int} {t : TypeId} (h : w.heap[g]? = some (.cells #[.int .i64 x, .int .i64 y] t (0, 0))) (hB : B ≤ g) : NumsAt (fun b => B ≤ b) w (.slice (some ⟨g, 0, none⟩) 2 2) [x, y] :=
  ⟨by simp, _, _, rfl, fun i hi => ⟨_, rfl, hB, by
    have hi2 : i < 2 := hi
    rcases (by omega : i = 0 ∨ i = 1) with rfl | rfl
    · exact cell_row h 0
    · rw [addr_add]; exact cell_row h 1⟩⟩
theorem next_any (t : Tm) (w : World) : Calls Tryd.prog 19 #[tmV t] w fun e w' => NumRes w.heap.size (nextL t) e w' ∧ Below w.heap.size w w' := by
  obtain ⟨k, a, to, els⟩ := t
  unfold tmV
  by_cases h2 : k = 2
  · subst h2
    by_cases hte : to = els
    · subst hte
      have E : Hid (nextL ⟨2, a, to, to⟩ = [to]) := Lib.hid (by simp [nextL])
      go_enter Tryd.func19, Tryd.ntmps19
      go_wp2
      go_ret
      exact ⟨⟨_, rfl, by rw [E.out]; exact nums_one (heap_new' _ _ _ (by simp)) (by simp)⟩, ext_alloc (ext_alloc (Below.refl _ _) _) _⟩
    · have E : Hid (nextL ⟨2, a, to, els⟩ = [to, els]) := Lib.hid (by simp [nextL, hte])
      have hb : (to != els) = true := bne_iff_ne.2 hte
      have hb2 : (to == els) = false := beq_eq_false_iff_ne.2 hte
      clear hte
      go_enter Tryd.func19, Tryd.ntmps19
      go_wp2
      go_ret
      exact ⟨⟨_, rfl, by rw [E.out]; exact nums_two (heap_new' _ _ _ (by simp)) (by simp)⟩, ext_alloc (ext_alloc (Below.refl _ _) _) _⟩
  · have hb2 : (k == 2) = false := beq_eq_false_iff_ne.2 h2
    by_cases h1 : k = 1
    · subst h1
      have E : Hid (nextL ⟨1, a, to, els⟩ = [to]) := Lib.hid (by simp [nextL])
      clear h2 hb2
      go_enter Tryd.func19, Tryd.ntmps19
      go_wp2
      go_ret
      exact ⟨⟨_, rfl, by rw [E.out]; exact nums_one (heap_new' _ _ _ (by simp)) (by simp)⟩, ext_alloc (ext_alloc (Below.refl _ _) _) _⟩
    · have hb1 : (k == 1) = false := beq_eq_false_iff_ne.2 h1
      have E : Hid (nextL ⟨k, a, to, els⟩ = []) := Lib.hid (by simp [nextL, h1, h2])
      clear h1 h2
      go_enter Tryd.func19, Tryd.ntmps19
      go_wp2
      go_ret
      exact ⟨⟨_, rfl, by rw [E.out]; exact RowAt.nil⟩, ext_alloc (Below.refl _ _) _⟩
end Go.Proofs.YtafapkljlajflaaDoor
