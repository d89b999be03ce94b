/- ir.Place; the law's own helper on lists; what an instruction uses. -/
import Derived.Test.YtafapkljlajflaaDoorRows
import Derived.WalkKit
import Derived.ProofKit
import Derived.OpenShut
import Derived.WalkLawsBesides
import Derived.WalkSpells
import Derived.Outline
import Derived.Handy
import Derived.Lib.Hide
import Derived.Lib.OthersKept
import Derived.KernelRfl
import Derived.Carry
import Derived.RegionTactic
import Derived.BigRegion
import Derived.OwnWalk
import Derived.Deep.Cut
import Derived.Test.YtafapkljlajflaaDoorUn
import Derived.Test.YtafapkljlajflaaDoorUk
import Derived.Test.YtafapkljlajflaaDoorUv0
namespace Go.Proofs.YtafapkljlajflaaDoor
open Go.ChangeShapes Go.WideShapes Go.ChangeAt Go.RowKit
set_option linter.unusedVariables false
theorem pc_any (g : Nat) (name fn : List UInt8) (p vals : Int) (vb : Value) (w : World) (h : w.heap[g]? = some (.cells #[.string (mk name)] 9 (0, 0))) :
    Calls Tryd.prog 33 #[.agg #[.string (mk fn), .int .i64 p, .int .i64 vals, vb], .pointer (some ⟨g, 0, none⟩)] w fun e w' => e = .returned (.bool (decide (fn = name))) ∧ Below w.heap.size w w' := by
  have c0 := cell_row h 0
  have hg : g < w.heap.size := (Array.getElem?_eq_some_iff.1 h).1
  have t1 : (mk fn).toList = fn := mk_tl _
  have t2 : (mk name).toList = name := mk_tl _
  clear h
  by_cases e : fn = name
  · have hb : (fn == name) = true := beq_iff_eq.2 e
    have E : Hid (decide (fn = name) = true) := Lib.hid (decide_eq_true e)
    clear e
    go_enter Tryd.func33, Tryd.ntmps33
    go_wp2
    go_ret
    exact ⟨by rw [E.out]; rfl, ext_alloc (Below.refl _ _) _⟩
  · have hb : (fn == name) = false := beq_eq_false_iff_ne.2 e
    have E : Hid (decide (fn = name) = false) := Lib.hid (decide_eq_false e)
    clear e
    go_enter Tryd.func33, Tryd.ntmps33
    go_wp2
    go_ret
    exact ⟨by rw [E.out]; rfl, ext_alloc (Below.refl _ _) _⟩
/-- A function's place, or -1. -/
def placV (F : List Fl) (n : List UInt8) : Int := if flwHas F n = true then (plcOf F n : Int) else -1
theorem placV_at {F : List Fl} {n : List UInt8} {j : Nat} (hj : j < F.length) (hall : ∀ t (ht : t < j), (F[t]'(by omega)).name ≠ n) (h : (F[j]'hj).name = n) : placV F n = (j : Int) := by
  have hp : plcOf F n = j := by
    unfold plcOf
    rw [List.findIdx_eq hj]
    exact ⟨decide_eq_true h, fun t ht => decide_eq_false (hall t ht)⟩
  have hh : flwHas F n = true := by
    unfold flwHas
    rw [List.any_eq_true]
    exact ⟨_, List.getElem_mem hj, decide_eq_true h⟩
  unfold placV
  rw [if_pos hh, hp]
theorem placV_no {F : List Fl} {n : List UInt8} (hall : ∀ t (ht : t < F.length), (F[t]'ht).name ≠ n) : placV F n = -1 := by
  have hh : flwHas F n = false := by
    unfold flwHas
    rw [List.any_eq_false]
    intro x hx
    obtain ⟨t, ht, rfl⟩ := List.getElem_of_mem hx
    simpa using hall t ht
  unfold placV
  rw [if_neg (by rw [hh]; decide)]
theorem fl_get2 {A : Nat → Prop} {w : World} {a : Addr} {x : Fl} (h : FlAt A w a x) : ∃ v, w.cell? a = some (.string (mk x.name)) ∧ w.cell? ⟨a.block, a.off + 1, none⟩ = some (.int .i64 x.params) ∧ w.cell? ⟨a.block, a.off + 2, none⟩ = some (.int .i64 x.values) ∧ w.cell? ⟨a.block, a.off + 3, none⟩ = some v ∧ BksAt A w v x.blocks := by
  obtain ⟨h0, h1, h2, v, h3, h4⟩ := h
  exact ⟨v, h0, h1, h2, h3, h4⟩
set_option maxRecDepth 100000 in
set_option maxHeartbeats 4000000 in
theorem idx_any (v : Value) (F : List Fl) (g : Nat) (name : List UInt8) (w : World) (h : FlsAt (fun _ => True) w v F) (hg : w.heap[g]? = some (.cells #[.string (mk name)] 9 (0, 0))) :
    Calls Tryd.prog 32 #[v, .func (.func 33) #[] #[.pointer (some ⟨g, 0, none⟩)]] w fun e w' => e = .returned (.int .i64 (placV F name)) ∧ Below w.heap.size w w' := by
  obtain ⟨hl, p, cap, rfl, hc⟩ := h
  have HC := Lib.hid hc
  have HG := Lib.hid hg
  clear hc hg
  go_enter Tryd.func32, Tryd.ntmps32
  go_wp2_with fail
  go_loopw [8] (fun iv wr => ∃ j : Nat, iv = .int .i64 j ∧ j ≤ F.length ∧ Below w.heap.size w wr ∧ Hid (∀ t (ht : t < j) (ht' : t < F.length), (F[t]'ht').name ≠ name)) (fun iv wr => F.length - slotN iv)
  case atStart => exact ⟨0, rfl, Nat.zero_le _, Below.refl _ _, Lib.hid (fun t ht => by omega)⟩
  case round =>
    obtain ⟨j, rfl, hj, hbw, HALL⟩ := hrel
    have HB := Lib.hid hbw
    clear hbw
    by_cases hjl : j < F.length
    · obtain ⟨a, rfl, _, kx⟩ := HC.out j hjl
      obtain ⟨vb, q0, q1, q2, q3, hvb⟩ := fl_get2 (fl_kept kx trivial (kept_below HB.out))
      obtain ⟨pb, cb, hvb2⟩ := row_slice hvb
      subst hvb2
      have hax : (a.add (j * 4)).block < wr.heap.size := cell_lt q0
      have HPC := Lib.hid (fun p vals vb => pc_any g name (F[j]'hjl).name p vals vb wr ((HB.out.block g (Array.getElem?_eq_some_iff.1 HG.out).1).trans HG.out))
      have H1 : Hid ((F[j]'hjl).name = name → placV F name = (j : Int)) := Lib.hid (fun h => placV_at hjl (fun t ht => HALL.out t ht (by omega)) h)
      have H2 : Hid ((F[j]'hjl).name ≠ name → ∀ t (ht : t < j + 1) (ht' : t < F.length), (F[t]'ht').name ≠ name) := Lib.hid (fun h t ht ht' => by
        by_cases e : t = j
        · subst e; exact h
        · exact HALL.out t (by omega) ht')
      clear kx hvb
      obtain ⟨m, hm⟩ : ∃ m : Nat, (F[j]'hjl).blocks.length = m := ⟨_, rfl⟩
      rw [hm] at q3
      clear hm
      cases hd : decide ((F[j]'hjl).name = name) with
      | true =>
        have E := Lib.hid (H1.out (of_decide_eq_true hd))
        rw [hd] at HPC
        clear hd H1 H2
        generalize (F[j]'hjl).name = fn at *
        go_wp2_with (go_at_call 33; refine (HPC.out _ _ _).mono ?_; rintro e w1 ⟨rfl, g1⟩; have G1 := Lib.hid (ext_trans HB.out g1); clear g1)
        go_ret
        exact ⟨by rw [E.out]; rfl, G1.out⟩
      | false =>
        have E := Lib.hid (H2.out (of_decide_eq_false hd))
        rw [hd] at HPC
        clear hd H1 H2
        go_wp2_with (go_at_call 33; refine (HPC.out _ _ _).mono ?_; rintro e w1 ⟨rfl, g1⟩; have G1 := Lib.hid (ext_trans HB.out g1); clear g1)
        go_roundw
        case rel => exact ⟨j + 1, by go_num, by omega, G1.out, E⟩
        case measure => simp [slotN]; omega
    · obtain rfl : j = F.length := by omega
      have E : Hid (placV F name = -1) := Lib.hid (placV_no (fun t ht => HALL.out t ht ht))
      go_wp2_with fail
      go_ret
      exact ⟨by rw [E.out]; rfl, HB.out⟩
theorem plac_any (v : Value) (u : Un) (name : List UInt8) (w : World) (h : UnAt (fun _ => True) w v u) : Calls Tryd.prog 18 #[v, .string (mk name)] w fun e w' => e = .returned (.int .i64 (placV u.flows name)) ∧ Below w.heap.size w w' := by
  obtain ⟨va, vf, rfl, har, hfl⟩ := h
  obtain ⟨pa, ca, hva⟩ := row_slice har
  subst hva
  obtain ⟨pf, cf, hvf⟩ := row_slice hfl
  subst hvf
  have HI := Lib.hid (fun (w' : World) (g : Below w.heap.size w w') (hg : w'.heap[w.heap.size + 1]? = some (.cells #[.string (mk name)] 9 (0, 0))) => idx_any _ u.flows (w.heap.size + 1) name w' (fls_kept hfl (kept_below g)) hg)
  have hmf : ∀ (fn : Fn) (first cap : Array Value) (w : World), (Instr.makeFunc fn first cap).run Tryd.prog w = .ok (.func fn first cap) w := fun _ _ _ _ => rfl
  clear har hfl
  go_enter Tryd.func18, Tryd.ntmps18
  go_wp2_with fail
  refine (HI.out _ (ext_alloc (ext_alloc (Below.refl _ _) _) _) (heap_new' _ _ _ (by simp))).mono ?_; rintro e w1 ⟨rfl, g1⟩
  have G := Lib.hid (ext_trans (ext_alloc (ext_alloc (Below.refl w.heap.size w) _) _) g1)
  clear g1
  go_wp2_with fail
  go_ret
  exact ⟨rfl, G.out⟩
end Go.Proofs.YtafapkljlajflaaDoor
