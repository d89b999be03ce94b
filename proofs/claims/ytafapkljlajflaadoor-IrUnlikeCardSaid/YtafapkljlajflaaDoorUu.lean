/- ir: what is asked of a block, and of a function. -/
import Derived.Test.YtafapkljlajflaaDoorRows
import Derived.WalkKit
import Derived.ProofKit
import Derived.OpenShut
import Derived.WalkLawsBesides
import Derived.WalkSpells
import Derived.Outline
import Derived.Handy
import Derived.Lib.Hide
import Derived.Lib.OthersKept
import Derived.KernelRfl
import Derived.Carry
import Derived.RegionTactic
import Derived.BigRegion
import Derived.OwnWalk
import Derived.Deep.Cut
import Derived.IntWalk
import Derived.Deep.QuietTactic
import Derived.BigQuiet
import Derived.Deep.RegionHeld3
import Derived.Test.YtafapkljlajflaaDoorUt
import Derived.Test.YtafapkljlajflaaDoorUs
namespace Go.Proofs.YtafapkljlajflaaDoor
open Go.ChangeShapes Go.WideShapes Go.ChangeAt Go.RowKit
set_option linter.unusedVariables false
theorem all_stepX (p : Xn → Bool) (l : List Xn) (j : Nat) (h : j < l.length) (ha : (l.take j).all p = true) : (p (l[j]'h) = true → (l.take (j + 1)).all p = true) ∧ (p (l[j]'h) = false → l.all p = false) := by
  constructor
  · intro hp
    rw [List.take_succ_eq_append_getElem h, List.all_append, ha]
    simp [hp]
  · intro hp
    cases hall : l.all p with
    | false => rfl
    | true =>
      have := (List.all_eq_true.1 hall) _ (List.getElem_mem h)
      rw [hp] at this; cases this
theorem xn_get {A : Nat → Prop} {w : World} {a : Addr} {x : Xn} (h : XnAt A w a x) : ∃ va, w.cell? a = some (.int .i64 x.kind) ∧ w.cell? ⟨a.block, a.off + 1, none⟩ = some (.int .i64 x.d) ∧ w.cell? ⟨a.block, a.off + 2, none⟩ = some (.int .i64 x.a) ∧ w.cell? ⟨a.block, a.off + 3, none⟩ = some (.int .i64 x.b) ∧ w.cell? ⟨a.block, a.off + 4, none⟩ = some (.int .i64 x.op) ∧ w.cell? ⟨a.block, a.off + 5, none⟩ = some (.int .i64 x.n) ∧ w.cell? ⟨a.block, a.off + 6, none⟩ = some (.string (mk x.name)) ∧ w.cell? ⟨a.block, a.off + 7, none⟩ = some va ∧ NumsAt A w va x.args := by
  obtain ⟨h0, h1, h2, h3, h4, h5, h6, v, h7, h8⟩ := h
  exact ⟨v, h0, h1, h2, h3, h4, h5, h6, h7, h8⟩
def bkVal (b : Bk) (v : Value) : Value := .agg #[v, .int .i64 b.term.kind, .int .i64 b.term.a, .int .i64 b.term.to, .int .i64 b.term.els]
def blkM (u : Un) (FA FF : List UInt8 → Option Int) (vals : Int) (nb : Nat) (b : Bk) : Bool := b.ins.all (insM u FA FF vals) && trmM vals nb b.term
/-- What the walks ask of an instruction beside its form. -/
def XnOk (u : Un) (FF : List UInt8 → Option Int) (x : Xn) : Prop := x.name.length ≤ 140737488355328 ∧ (x.kind = 9 → (FF x.name).isSome = true → ∃ i : Nat, FF x.name = some (i : Int) ∧ i < u.flows.length)
structure BB (w wr : World) (F X : Array Value) : Prop where
  of ::
  fb : wr.heap[w.heap.size]? = some (.cells F 45 (0, 0))
  xb : wr.heap[w.heap.size + 1]? = some (.cells X 43 (0, 0))
  bl : Below w.heap.size w wr
theorem BB.ext {w wr wx : World} {F X : Array Value} (h : BB w wr F X) (g : Below wr.heap.size wr wx) : BB w wx F X :=
  ⟨(g.block _ (Array.getElem?_eq_some_iff.1 h.fb).1).trans h.fb, (g.block _ (Array.getElem?_eq_some_iff.1 h.xb).1).trans h.xb, ext_trans h.bl g⟩
theorem BB.start (w : World) (F X : Array Value) : BB w ((w.alloc (.cells F 45)).alloc (.cells X 43)) F X :=
  ⟨(Lib.alloc_old _ _ _ (by simp)).trans (heap_new w _), heap_new' _ _ _ (by simp), ext_alloc (ext_alloc (Below.refl _ _) _) _⟩
theorem five_cells {w : World} {b : Nat} {v0 v1 v2 v3 v4 : Value} {t : TypeId} (h : w.heap[b]? = some (.cells #[v0, v1, v2, v3, v4] t (0, 0))) :
    w.cell? ⟨b, 0, none⟩ = some v0 ∧ w.cell? ⟨b, 1, none⟩ = some v1 ∧ w.cell? ⟨b, 2, none⟩ = some v2 ∧ w.cell? ⟨b, 3, none⟩ = some v3 ∧ w.cell? ⟨b, 4, none⟩ = some v4 := by
  simp [World.cell?, h]
set_option maxRecDepth 100000 in
set_option maxHeartbeats 8000000 in
theorem rblk_any {w : World} {b : Nat} {u : Un} {va vf : Value} {ba na bf nf : Nat} {FA FF : List UInt8 → Option Int} (h : NI w b u va vf ba na bf nf FA FF) (nm : List UInt8) (p vals : Int) (pb : Option Addr) (nb cb : Nat) (bk : Bk) (vi : Value) (hx : XnsAt (fun _ => True) w vi bk.ins) (hok : ∀ x ∈ bk.ins, XnOk u FF x) :
    Calls Tryd.prog 31 #[.pointer (some ⟨b, 0, none⟩), flV nm p vals (.slice pb nb cb), bkVal bk vi] w fun e w' => e = .returned (.bool (blkM u FA FF vals nb bk)) ∧ Below w.heap.size w w' := by
  have HN := Lib.hid h
  have HOK := Lib.hid hok
  have HT := Lib.hid (fun w => rterm_any nm p vals pb nb cb bk.term w)
  obtain ⟨hlen, px, capx, rfl, hxc⟩ := hx
  have HXC := Lib.hid hxc
  obtain ⟨ins, ⟨tk, ta, tt, te⟩⟩ := bk
  simp only at hlen HXC HOK HT
  have E : Hid (blkM u FA FF vals nb ⟨ins, ⟨tk, ta, tt, te⟩⟩ = (ins.all (insM u FA FF vals) && trmM vals nb ⟨tk, ta, tt, te⟩)) := Lib.hid rfl
  have HB0 := Lib.hid (BB.start w #[.string (mk nm), .int .i64 p, .int .i64 vals, .slice pb nb cb] #[.slice px ins.length capx, .int .i64 tk, .int .i64 ta, .int .i64 tt, .int .i64 te])
  unfold flV bkVal
  unfold flV tmV at HT
  clear h hxc hok
  generalize blkM u FA FF vals nb ⟨ins, ⟨tk, ta, tt, te⟩⟩ = R at *
  generalize trmM vals nb ⟨tk, ta, tt, te⟩ = T at *
  go_enter Tryd.func31, Tryd.ntmps31
  go_wp2_with fail
  go_loopw [12] (fun iv wr => ∃ j : Nat, iv = .int .i64 j ∧ j ≤ ins.length ∧ BB w wr #[.string (mk nm), .int .i64 p, .int .i64 vals, .slice pb nb cb] #[.slice px ins.length capx, .int .i64 tk, .int .i64 ta, .int .i64 tt, .int .i64 te] ∧ Hid ((ins.take j).all (insM u FA FF vals) = true)) (fun iv wr => ins.length - slotN iv)
  case atStart => exact ⟨0, rfl, Nat.zero_le _, HB0.out, Lib.hid rfl⟩
  case round =>
    obtain ⟨j, rfl, hj, hB, HALL⟩ := hrel
    have HB := Lib.hid hB
    obtain ⟨f0, f1, f2, f3⟩ := four_at' hB.fb
    obtain ⟨c0, c1, c2, c3, c4⟩ := five_cells hB.xb
    have hz : w.heap.size + 1 < wr.heap.size := (Array.getElem?_eq_some_iff.1 hB.xb).1
    have hz0 : w.heap.size < wr.heap.size := by omega
    clear hB
    by_cases hjl : j < ins.length
    · obtain ⟨ax, rfl, _, kx⟩ := HXC.out j hjl
      obtain ⟨vx, q0, q1, q2, q3, q4, q5, q6, q7, hnx⟩ := xn_get (xn_kept kx trivial (kept_below HB.out.bl))
      obtain ⟨pxa, cxa, hvx⟩ := row_slice hnx
      subst hvx
      have hok := HOK.out _ (List.getElem_mem hjl)
      have HRI := Lib.hid (fun (w' : World) (g : Below wr.heap.size wr w') => rins_any (HN.out.ext (ext_trans HB.out.bl g)) nm p vals (.slice pb nb cb) (ins[j]'hjl) _ (nums_kept hnx (kept_below g)) hok.1 hok.2)
      have HST := Lib.hid (all_stepX (insM u FA FF vals) ins j hjl HALL.out)
      have hax : (ax.add (j * 8)).block < wr.heap.size := cell_lt q0
      unfold flV xnV at HRI
      clear kx hnx hok c0 c1 c2 c3 c4
      generalize hR : insM u FA FF vals (ins[j]'hjl) = r at *
      clear hR
      generalize ins[j]'hjl = x at *
      obtain ⟨xk, xd, xa, xb, xo, xn, xm, xl⟩ := x
      simp only at q0 q1 q2 q3 q4 q5 q6 q7 HRI
      obtain ⟨mx, hmx⟩ : ∃ m : Nat, xl.length = m := ⟨_, rfl⟩
      rw [hmx] at q7 HRI
      clear hmx
      cases r
      · have E3 := Lib.hid (HST.out.2 rfl)
        go_wp2_with fail
        refine (HRI.out _ (ext_alloc (Below.refl _ _) _)).mono ?_; rintro e w1 ⟨rfl, g1⟩
        have G := Lib.hid (ext_trans HB.out.bl (ext_trans (ext_alloc (Below.refl wr.heap.size wr) _) g1))
        clear g1
        go_wp2_with fail
        go_ret
        exact ⟨by rw [E.out, E3.out]; rfl, G.out⟩
      · have E3 := Lib.hid (HST.out.1 rfl)
        go_wp2_with fail
        refine (HRI.out _ (ext_alloc (Below.refl _ _) _)).mono ?_; rintro e w1 ⟨rfl, g1⟩
        have HB1 := Lib.hid (HB.out.ext (ext_trans (ext_alloc (Below.refl wr.heap.size wr) _) g1))
        clear g1
        go_wp2_with fail
        go_roundw
        case rel => exact ⟨j + 1, by go_num, by omega, HB1.out, E3⟩
        case measure => simp [slotN]; omega
    · obtain rfl : j = ins.length := by omega
      have E3 : Hid (R = T) := Lib.hid (by
        have := HALL.out
        rw [List.take_length] at this
        rw [E.out, this]; rfl)
      go_wp2_with fail
      refine (HT.out _).mono ?_; rintro e w1 ⟨rfl, g1⟩
      have G := Lib.hid (ext_trans HB.out.bl g1)
      clear g1
      go_wp2_with fail
      go_ret
      exact ⟨by rw [E3.out]; rfl, G.out⟩
def cntT (l : List Bk) : Nat := (l.map fun b => b.ins.length).sum
theorem cntT_step (l : List Bk) (j : Nat) (h : j < l.length) : cntT (l.take (j + 1)) = cntT (l.take j) + (l[j]'h).ins.length := by
  unfold cntT
  rw [List.take_succ_eq_append_getElem h, List.map_append, List.sum_append]; simp
theorem cntT_le (l : List Bk) (j : Nat) : cntT (l.take j) ≤ cntT l := by
  have : cntT l = cntT (l.take j) + cntT (l.drop j) := by
    unfold cntT
    rw [← List.sum_append, ← List.map_append, List.take_append_drop]
  omega
theorem bk_get {A : Nat → Prop} {w : World} {a : Addr} {x : Bk} (h : BkAt A w a x) : ∃ v, w.cell? a = some v ∧ w.cell? ⟨a.block, a.off + 1, none⟩ = some (.int .i64 x.term.kind) ∧ w.cell? ⟨a.block, a.off + 2, none⟩ = some (.int .i64 x.term.a) ∧ w.cell? ⟨a.block, a.off + 3, none⟩ = some (.int .i64 x.term.to) ∧ w.cell? ⟨a.block, a.off + 4, none⟩ = some (.int .i64 x.term.els) ∧ XnsAt A w v x.ins := by
  obtain ⟨⟨v, h0, h8⟩, h1, h2, h3, h4⟩ := h
  exact ⟨v, h0, h1, h2, h3, h4, h8⟩
def headB (p vals : Int) : Bool := decide (0 ≤ p ∧ p ≤ 6 ∧ p ≤ vals ∧ vals ≤ 50000)
set_option maxRecDepth 100000 in
set_option maxHeartbeats 8000000 in
theorem rflow_any (nm : List UInt8) (p vals : Int) (vb : Value) (blocks : List Bk) (w : World) (hb : BksAt (fun _ => True) w vb blocks) (hc : cntT blocks ≤ 4611686018427387904) :
    Calls Tryd.prog 30 #[flV nm p vals vb] w fun e w' => e = .returned (.bool (flwB ⟨nm, p, vals, blocks⟩)) ∧ Below w.heap.size w w' := by
  have E : Hid (flwB ⟨nm, p, vals, blocks⟩ = (headB p vals && decide (1 ≤ blocks.length ∧ blocks.length ≤ 20000 ∧ cntT blocks ≤ 200000))) := Lib.hid rfl
  obtain ⟨hlen, pb, capb, rfl, hbc⟩ := hb
  have HBC := Lib.hid hbc
  unfold flV
  clear hbc
  by_cases hh : headB p vals = true
  case neg =>
    have E2 : Hid (flwB ⟨nm, p, vals, blocks⟩ = false) := Lib.hid (by rw [E.out]; cases h : headB p vals <;> simp_all)
    have hq : p < 0 ∨ (0 ≤ p ∧ 6 < p) ∨ (0 ≤ p ∧ p ≤ 6 ∧ vals < p) ∨ (0 ≤ p ∧ p ≤ 6 ∧ p ≤ vals ∧ 50000 < vals) := by
      have h2 : ¬ (0 ≤ p ∧ p ≤ 6 ∧ p ≤ vals ∧ vals ≤ 50000) := fun h => hh (decide_eq_true h)
      omega
    clear hh E
    rcases hq with h | ⟨h1, h2⟩ | ⟨h1, h2, h3⟩ | ⟨h1, h2, h3, h4⟩
    all_goals
      go_enter Tryd.func30, Tryd.ntmps30
      go_wp2_with fail
      go_ret
      exact ⟨by rw [E2.out]; rfl, ext_alloc (Below.refl _ _) _⟩
  case pos =>
    obtain ⟨h1, h2, h3, h4⟩ : 0 ≤ p ∧ p ≤ 6 ∧ p ≤ vals ∧ vals ≤ 50000 := of_decide_eq_true hh
    have E2 : Hid (flwB ⟨nm, p, vals, blocks⟩ = decide (1 ≤ blocks.length ∧ blocks.length ≤ 20000 ∧ cntT blocks ≤ 200000)) := Lib.hid (by rw [E.out, hh]; rfl)
    clear hh E
    generalize flwB ⟨nm, p, vals, blocks⟩ = R at *
    go_enter Tryd.func30, Tryd.ntmps30
    go_wp2_with fail
    go_loopw [3, 29] (fun sv iv wr => ∃ j c : Nat, iv = .int .i64 j ∧ j ≤ blocks.length ∧ sv = .int .i64 c ∧ Hid (c = cntT (blocks.take j)) ∧ Below w.heap.size w wr ∧ wr.heap[w.heap.size]? = some (.cells #[.string (mk nm), .int .i64 p, .int .i64 vals, .slice pb blocks.length capb] 45 (0, 0))) (fun sv iv wr => blocks.length - slotN iv)
    case atStart => exact ⟨0, 0, rfl, Nat.zero_le _, rfl, Lib.hid rfl, ext_alloc (Below.refl _ _) _, heap_new _ _⟩
    case round =>
      obtain ⟨j, c, rfl, hj, rfl, HC, hbw, hf⟩ := hrel
      have HB := Lib.hid hbw
      have HF := Lib.hid hf
      obtain ⟨f0, f1, f2, f3⟩ := four_at' hf
      have hz0 : w.heap.size < wr.heap.size := (Array.getElem?_eq_some_iff.1 hf).1
      clear hbw hf
      by_cases hjl : j < blocks.length
      · obtain ⟨ax, rfl, _, kx⟩ := HBC.out j hjl
        obtain ⟨vi, q0, q1, q2, q3, q4, hvi⟩ := bk_get (bk_kept kx trivial (kept_below HB.out))
        obtain ⟨pi, ci, rfl⟩ := row_slice hvi
        have hax : (ax.add (j * 5)).block < wr.heap.size := cell_lt q0
        have HS : Hid (cntT (blocks.take (j + 1)) = c + (blocks[j]'hjl).ins.length) := Lib.hid (by rw [cntT_step blocks j hjl, ← HC.out])
        have hsum : c + (blocks[j]'hjl).ins.length ≤ 4611686018427387904 := by rw [← HS.out]; exact Nat.le_trans (cntT_le _ _) hc
        clear kx hvi
        generalize blocks[j]'hjl = x at *
        obtain ⟨xi, ⟨tk, ta, tt, te⟩⟩ := x
        simp only at q0 q1 q2 q3 q4 HS hsum
        obtain ⟨m, hm⟩ : ∃ m : Nat, xi.length = m := ⟨_, rfl⟩
        rw [hm] at q0 HS hsum
        clear hm
        go_wp2_with fail
        go_roundw
        case rel => exact ⟨j + 1, c + m, by go_num, by omega, by go_num, Lib.hid HS.out.symm, ext_alloc HB.out _, ((ext_alloc (Below.refl wr.heap.size wr) _).block _ hz0).trans HF.out⟩
        case measure => simp [slotN]; omega
      · obtain rfl : j = blocks.length := by omega
        have hcc : c = cntT blocks := by rw [HC.out, List.take_length]
        have E3 : Hid (R = decide (1 ≤ blocks.length ∧ blocks.length ≤ 20000 ∧ c ≤ 200000)) := Lib.hid (by rw [E2.out, hcc])
        clear hcc hjl E2
        rcases (by omega : (blocks.length < 1) ∨ (1 ≤ blocks.length ∧ 20000 < blocks.length) ∨ (1 ≤ blocks.length ∧ blocks.length ≤ 20000 ∧ 200000 < c) ∨ (1 ≤ blocks.length ∧ blocks.length ≤ 20000 ∧ c ≤ 200000)) with k | ⟨k1, k2⟩ | ⟨k1, k2, k3⟩ | ⟨k1, k2, k3⟩
        · have E4 : Hid (R = false) := Lib.hid (by rw [E3.out]; exact decide_eq_false (by omega))
          have k' : (blocks.length : Int) < 1 := by omega
          go_wp2_with fail
          go_ret
          exact ⟨by rw [E4.out]; rfl, HB.out⟩
        · have E4 : Hid (R = false) := Lib.hid (by rw [E3.out]; exact decide_eq_false (by omega))
          have k1' : 1 ≤ (blocks.length : Int) := by omega
          have k2' : 20000 < (blocks.length : Int) := by omega
          go_wp2_with fail
          go_ret
          exact ⟨by rw [E4.out]; rfl, HB.out⟩
        · have E4 : Hid (R = false) := Lib.hid (by rw [E3.out]; exact decide_eq_false (by omega))
          have k1' : 1 ≤ (blocks.length : Int) := by omega
          have k2' : (blocks.length : Int) ≤ 20000 := by omega
          have k3' : ¬ ((c : Int) ≤ 200000) := by omega
          have k3b : decide ((c : Int) ≤ 200000) = false := decide_eq_false k3'
          go_wp2_with fail
          go_ret
          exact ⟨by rw [E4.out]; rfl, HB.out⟩
        · have E4 : Hid (R = true) := Lib.hid (by rw [E3.out]; exact decide_eq_true ⟨k1, k2, k3⟩)
          have k1' : 1 ≤ (blocks.length : Int) := by omega
          have k2' : (blocks.length : Int) ≤ 20000 := by omega
          have k3' : (c : Int) ≤ 200000 := by omega
          go_wp2_with fail
          go_ret
          exact ⟨by rw [E4.out]; rfl, HB.out⟩
end Go.Proofs.YtafapkljlajflaaDoor
