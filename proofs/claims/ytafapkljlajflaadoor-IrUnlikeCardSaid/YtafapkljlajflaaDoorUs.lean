/- ir's ends, and a function's size. -/
import Derived.Test.YtafapkljlajflaaDoorRows
import Derived.WalkKit
import Derived.ProofKit
import Derived.OpenShut
import Derived.WalkLawsBesides
import Derived.WalkSpells
import Derived.Outline
import Derived.Handy
import Derived.Lib.Hide
import Derived.Lib.OthersKept
import Derived.KernelRfl
import Derived.Carry
import Derived.RegionTactic
import Derived.BigRegion
import Derived.OwnWalk
import Derived.Deep.Cut
import Derived.IntWalk
import Derived.Deep.QuietTactic
import Derived.BigQuiet
import Derived.Deep.RegionHeld3
import Derived.Test.YtafapkljlajflaaDoorUn
namespace Go.Proofs.YtafapkljlajflaaDoor
open Go.ChangeShapes Go.WideShapes Go.ChangeAt Go.RowKit
set_option linter.unusedVariables false
theorem rtc_any (g : Nat) (nm : List UInt8) (p vals : Int) (pb : Option Addr) (nb cb : Nat) (v : Int) (w : World) (h : w.heap[g]? = some (.cells #[.string (mk nm), .int .i64 p, .int .i64 vals, .slice pb nb cb] 45 (0, 0))) :
    Calls Tryd.prog 52 #[.int .i64 v, .pointer (some ⟨g, 0, none⟩)] w fun e w' => e = .returned (.bool (plcB nb v)) ∧ w = w' := by
  have c3 := cell_row h 3
  clear h
  by_cases h : 0 ≤ v
  · by_cases h2 : v < nb
    · have E := Lib.hid (show plcB nb v = true from decide_eq_true ⟨h, h2⟩)
      go_enter Tryd.func52, Tryd.ntmps52
      go_wp2
      go_ret
      exact ⟨by rw [E.out]; rfl, rfl⟩
    · have E := Lib.hid (show plcB nb v = false from decide_eq_false (by omega))
      go_enter Tryd.func52, Tryd.ntmps52
      go_wp2
      go_ret
      exact ⟨by rw [E.out]; rfl, rfl⟩
  · have E := Lib.hid (show plcB nb v = false from decide_eq_false (by omega))
    go_enter Tryd.func52, Tryd.ntmps52
    go_wp2
    go_ret
    exact ⟨by rw [E.out]; rfl, rfl⟩
def trmM (vals : Int) (nb : Nat) (t : Tm) : Bool :=
  if t.kind = 1 then plcB nb t.to && decide (t.a = 0) && decide (t.els = 0)
  else if t.kind = 2 then plcB vals t.a && plcB nb t.to && plcB nb t.els
  else if t.kind = 3 ∨ t.kind = 4 then plcB vals t.a && decide (t.to = 0) && decide (t.els = 0) else false
set_option maxRecDepth 100000 in
set_option maxHeartbeats 4000000 in
theorem rterm_any (nm : List UInt8) (p vals : Int) (pb : Option Addr) (nb cb : Nat) (t : Tm) (w : World) :
    Calls Tryd.prog 41 #[flV nm p vals (.slice pb nb cb), tmV t] w fun e w' => e = .returned (.bool (trmM vals nb t)) ∧ Below w.heap.size w w' := by
  obtain ⟨k, a, to, els⟩ := t
  have HPL := Lib.hid (fun w => place_any nm p vals (.slice pb nb cb) a w)
  have hb0 : ∀ (w' : World), Below (w.heap.size + 1) (w.alloc (.cells #[.string (mk nm), .int .i64 p, .int .i64 vals, .slice pb nb cb] 45)) w' → w'.heap[w.heap.size]? = some (.cells #[.string (mk nm), .int .i64 p, .int .i64 vals, .slice pb nb cb] 45 (0, 0)) := fun w' g => (g.block _ (by omega)).trans (heap_new _ _)
  have HT := Lib.hid (fun w' (g : Below (w.heap.size + 1) (w.alloc (.cells #[.string (mk nm), .int .i64 p, .int .i64 vals, .slice pb nb cb] 45)) w') => rtc_any w.heap.size nm p vals pb nb cb to w' (hb0 w' g))
  have HE := Lib.hid (fun w' (g : Below (w.heap.size + 1) (w.alloc (.cells #[.string (mk nm), .int .i64 p, .int .i64 vals, .slice pb nb cb] 45)) w') => rtc_any w.heap.size nm p vals pb nb cb els w' (hb0 w' g))
  have GG : Hid (∀ o, Below (w.heap.size + 1) (w.alloc (.cells #[.string (mk nm), .int .i64 p, .int .i64 vals, .slice pb nb cb] 45)) ((w.alloc (.cells #[.string (mk nm), .int .i64 p, .int .i64 vals, .slice pb nb cb] 45)).alloc o)) := Lib.hid (fun o => (Below.refl _ _).alloc (by simp) _)
  unfold flV tmV
  unfold flV at HPL
  clear hb0
  by_cases h1 : k = 1
  · subst h1
    have E : Hid (trmM vals nb ⟨1, a, to, els⟩ = (plcB nb to && decide (a = 0) && decide (els = 0))) := Lib.hid rfl
    generalize plcB nb to = x at *
    clear HPL HE
    cases x
    case false =>
      go_enter Tryd.func41, Tryd.ntmps41
      go_wp2_with (go_at_call 52; refine (HT.out _ (GG.out _)).mono ?_; rintro e w1 ⟨rfl, rfl⟩)
      go_ret
      exact ⟨by rw [E.out]; rfl, ext_alloc (ext_alloc (Below.refl _ _) _) _⟩
    case true =>
      by_cases ha : a = 0
      · have hab : (a == 0) = true := beq_iff_eq.2 ha
        rw [decide_eq_true ha] at E
        clear ha
        by_cases he : els = 0
        · have heb : (els == 0) = true := beq_iff_eq.2 he
          rw [decide_eq_true he] at E
          clear he
          go_enter Tryd.func41, Tryd.ntmps41
          go_wp2_with (go_at_call 52; refine (HT.out _ (GG.out _)).mono ?_; rintro e w1 ⟨rfl, rfl⟩)
          go_ret
          exact ⟨by rw [E.out]; rfl, ext_alloc (ext_alloc (Below.refl _ _) _) _⟩
        · have heb : (els == 0) = false := beq_eq_false_iff_ne.2 he
          rw [decide_eq_false he] at E
          clear he
          go_enter Tryd.func41, Tryd.ntmps41
          go_wp2_with (go_at_call 52; refine (HT.out _ (GG.out _)).mono ?_; rintro e w1 ⟨rfl, rfl⟩)
          go_ret
          exact ⟨by rw [E.out]; rfl, ext_alloc (ext_alloc (Below.refl _ _) _) _⟩
      · have hab : (a == 0) = false := beq_eq_false_iff_ne.2 ha
        rw [decide_eq_false ha] at E
        clear ha
        go_enter Tryd.func41, Tryd.ntmps41
        go_wp2_with (go_at_call 52; refine (HT.out _ (GG.out _)).mono ?_; rintro e w1 ⟨rfl, rfl⟩)
        go_ret
        exact ⟨by rw [E.out]; rfl, ext_alloc (ext_alloc (Below.refl _ _) _) _⟩
  by_cases h2 : k = 2
  · subst h2
    have E : Hid (trmM vals nb ⟨2, a, to, els⟩ = (plcB vals a && plcB nb to && plcB nb els)) := Lib.hid rfl
    generalize plcB vals a = x at *
    generalize plcB nb to = y at *
    generalize plcB nb els = z at *
    clear h1
    cases x
    case false =>
      go_enter Tryd.func41, Tryd.ntmps41
      go_wp2_with fail
      refine (HPL.out _).mono ?_; rintro e w1 ⟨rfl, g1⟩
      have G1 := Lib.hid (ext_trans (ext_alloc (ext_alloc (Below.refl w.heap.size w) _) _) g1)
      clear g1
      go_wp2_with fail
      go_ret
      exact ⟨by rw [E.out]; rfl, G1.out⟩
    case true =>
      cases y
      case false =>
        go_enter Tryd.func41, Tryd.ntmps41
        go_wp2_with fail
        refine (HPL.out _).mono ?_; rintro e w1 ⟨rfl, g1⟩
        have G1 := Lib.hid (ext_trans (ext_alloc (ext_alloc (Below.refl w.heap.size w) _) _) g1)
        have HT2 := Lib.hid (HT.out w1 (((GG.out _).trans (g1.mono (by simp)))))
        have q2 := cell_row ((g1.block (w.heap.size + 1) (by simp)).trans (heap_new' _ _ _ (by simp))) 2
        have q3 := cell_row ((g1.block (w.heap.size + 1) (by simp)).trans (heap_new' _ _ _ (by simp))) 3
        clear g1
        go_wp2_with (go_at_call 52; refine HT2.out.mono ?_; rintro e w2 ⟨rfl, rfl⟩)
        go_ret
        exact ⟨by rw [E.out]; rfl, G1.out⟩
      case true =>
        cases z
        all_goals
          go_enter Tryd.func41, Tryd.ntmps41
          go_wp2_with fail
          refine (HPL.out _).mono ?_; rintro e w1 ⟨rfl, g1⟩
          have G1 := Lib.hid (ext_trans (ext_alloc (ext_alloc (Below.refl w.heap.size w) _) _) g1)
          have HT2 := Lib.hid (HT.out w1 (((GG.out _).trans (g1.mono (by simp)))))
          have HE2 := Lib.hid (HE.out w1 (((GG.out _).trans (g1.mono (by simp)))))
          have q2 := cell_row ((g1.block (w.heap.size + 1) (by simp)).trans (heap_new' _ _ _ (by simp))) 2
          have q3 := cell_row ((g1.block (w.heap.size + 1) (by simp)).trans (heap_new' _ _ _ (by simp))) 3
          clear g1
          go_wp2_with (first | (go_at_call 52; (with_reducible refine HT2.out.mono ?_); rintro e w2 ⟨rfl, rfl⟩) | (go_at_call 52; (with_reducible refine HE2.out.mono ?_); rintro e w2 ⟨rfl, rfl⟩))
          go_ret
          exact ⟨by rw [E.out]; rfl, G1.out⟩
  by_cases h34 : k = 3 ∨ k = 4
  · have E : Hid (trmM vals nb ⟨k, a, to, els⟩ = (plcB vals a && decide (to = 0) && decide (els = 0))) := Lib.hid (by unfold trmM; rw [if_neg h1, if_neg h2, if_pos h34])
    generalize plcB vals a = x at *
    clear h1 h2 HT HE
    have hto : Hid (decide (to = 0) = (to == 0)) := Lib.hid (by by_cases h : to = 0 <;> simp [h])
    have hel : Hid (decide (els = 0) = (els == 0)) := Lib.hid (by by_cases h : els = 0 <;> simp [h])
    rw [hto.out, hel.out] at E
    generalize hy : (to == 0) = y at *
    generalize hz : (els == 0) = z at *
    have hy2 := hy
    have hz2 := hz
    clear hy hz
    rcases h34 with rfl | rfl
    all_goals
      cases x
      case' true => cases y
      case' true.true => cases z
      all_goals
        go_enter Tryd.func41, Tryd.ntmps41
        go_wp2_with fail
        refine (HPL.out _).mono ?_; rintro e w1 ⟨rfl, g1⟩
        have G1 := Lib.hid (ext_trans (ext_alloc (ext_alloc (Below.refl w.heap.size w) _) _) g1)
        have q2 := cell_row ((g1.block (w.heap.size + 1) (by simp)).trans (heap_new' _ _ _ (by simp))) 2
        have q3 := cell_row ((g1.block (w.heap.size + 1) (by simp)).trans (heap_new' _ _ _ (by simp))) 3
        clear g1
        go_wp2_with fail
        go_ret
        exact ⟨by rw [E.out]; rfl, G1.out⟩
  · have E : Hid (trmM vals nb ⟨k, a, to, els⟩ = false) := Lib.hid (by unfold trmM; rw [if_neg h1, if_neg h2, if_neg h34])
    have e1 : (k == 1) = false := beq_eq_false_iff_ne.2 h1
    have e2 : (k == 2) = false := beq_eq_false_iff_ne.2 h2
    have e3 : (k == 3) = false := beq_eq_false_iff_ne.2 (fun h => h34 (.inl h))
    have e4 : (k == 4) = false := beq_eq_false_iff_ne.2 (fun h => h34 (.inr h))
    clear h1 h2 h34 HT HE HPL
    go_enter Tryd.func41, Tryd.ntmps41
    go_wp2_with fail
    go_ret
    exact ⟨by rw [E.out]; rfl, ext_alloc (ext_alloc (Below.refl _ _) _) _⟩
end Go.Proofs.YtafapkljlajflaaDoor
