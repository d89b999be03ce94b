/- The walk of MachCounts. -/
import Derived.Test.YtjimeengkfjihaaGreatDoorRows
import Derived.WalkKit
import Derived.ProofKit
import Derived.OpenShut
import Derived.WalkLawsBesides
import Derived.WalkSpells
import Derived.Outline
import Derived.Handy
import Derived.Lib.Hide
import Derived.Lib.OthersKept
import Derived.KernelRfl
import Derived.Carry
import Derived.IntWalk
import Derived.Test.YtjimeengkfjihaaGreatDoorMbD
import Derived.Test.YtjimeengkfjihaaGreatDoorMbB
import Derived.Test.YtjimeengkfjihaaGreatDoorMbP
namespace Go.Proofs.YtjimeengkfjihaaGreatDoor
open Go.ChangeShapes Go.WideShapes Go.ChangeAt Go.RowKit
set_option linter.unusedVariables false
theorem co_flat : flatI mCoC.lines = coL ∧ (flatI mCoC.lines).map (toL mCoC) = coT := ⟨by kernel_rfl, by kernel_rfl⟩
theorem mCo_r (k : Nat) (h : k ≤ 200) : runL mCoC [(k : Int)] 2000 = ⟨1, 9, [((k * (k + 1) / 2 : Nat) : Int)], 12 + 4 * (k : Int)⟩ := by
  rw [rn_of (by rw [mCo_f]) (show begL mCoC = fun _ => none from rfl) (show wordsL mCoC.arrays = 0 from rfl) co_flat.1 co_flat.2 (show (2000 : Int).toNat = 2000 from rfl)]
  exact co_run k h
theorem run_one (v : Value) (c : Cd) (w : World) (h : CdAt w v c) (hf : CdFit c) (hal : c.arrays.length ≤ 1000) (hn64 : ∀ l ∈ c.lines, I64 l.ins.n) (b : Nat) (x : Int) (hb : w.heap[b]? = some (.cells #[.int .i64 x] 3 (0, 0))) (hx : I64 x) (steps : Int) (hs : steps ≤ 1000000) (r : Rn) (hr : runL c [x] steps = r) :
    Calls Tryz.prog 14 #[v, .slice (some ⟨b, 0, none⟩) 1 1, .int .i64 steps] w fun e w' => (∃ po co, e = .returned (.agg #[.int .i64 r.stat, .int .i64 r.code, .slice po r.out.length co, .int .i64 r.steps]) ∧ RnAt w' (.agg #[.int .i64 r.stat, .int .i64 r.code, .slice po r.out.length co, .int .i64 r.steps]) r) ∧ Below w.heap.size w w' := by
  have := run_any v c w h hf hal hn64 (some ⟨b, 0, none⟩) 1 [x] (fun i hi => by
    have : i = 0 := by simpa using hi
    subst this
    exact ⟨_, rfl, by simp [World.cell?, Addr.add, hb]⟩) ⟨Nat.le_refl _, by decide⟩ (fun y hy => by rw [List.mem_singleton.1 hy]; exact hx) steps hs
  refine this.mono ?_
  rintro e w' ⟨h1, h2⟩
  rw [hr] at h1
  exact ⟨h1.rn, h2⟩
set_option maxHeartbeats 8000000 in
set_option maxRecDepth 100000 in
theorem counts_core (n : Int) (k : Nat) (w : World) (hn : I64 n) (hv : Env w) (hk : pickN n 201 = (k : Int)) (hk2 : k < 201) : Calls Tryz.prog 5 #[.int .i64 n] w fun e w' => e = .returned (.bool true) ∧ Below w.heap.size w w' := by
  have HAW := Lib.hid (awake9_any w hv)
  have HPS := Lib.hid (fun w' (g : Below w.heap.size w w') => aparse_any mCoT (by decide) w' (hv.ext g))
  have e1 : ∃ s, mk mCoT = s := ⟨_, rfl⟩
  unfold AParse at HPS
  rw [mCo_p] at HPS
  have P1 : Hid (∀ w, Calls Tryz.prog 13 #[.int .i64 n, .int .i64 201] w fun e w' => e = .returned (.int .i64 (k : Int)) ∧ w = w') :=
    Lib.hid (fun w => (pick9_any n 201 w hn (by decide)).mono fun e w' h => ⟨by rw [← hk]; exact h.1, h.2⟩)
  clear hv hk hn
  go_enter Tryz.func5, Tryz.ntmps5
  go_wp2_with fail
  refine HAW.out.mono ?_; rintro e w1 ⟨rfl, g1⟩
  have GA := Lib.hid g1
  have z0 := g1.size
  clear g1
  go_wp2_with fail
  refine (HPS.out _ GA.out).mono ?_; rintro e w2 ⟨⟨v, rfl, hc⟩, g2⟩
  obtain ⟨pa, ca, pl, cl, rfl⟩ := cd_shape hc
  have hl0 : mCoC.arrays.length = 0 := rfl
  have hl1 : mCoC.lines.length = 18 := rfl
  rw [hl0, hl1] at hc
  rw [hl0, hl1]
  have HR : Hid (∀ w' b, Below w2.heap.size w2 w' → w'.heap[b]? = some (.cells #[.int .i64 k] 3 (0, 0)) → Calls Tryz.prog 14 #[.agg #[.slice pa 0 ca, .slice pl 18 cl], .slice (some ⟨b, 0, none⟩) 1 1, .int .i64 2000] w' fun e w'' => (∃ po co, e = .returned (.agg #[.int .i64 1, .int .i64 9, .slice po 1 co, .int .i64 (12 + 4 * (k : Int))]) ∧ RnAt w'' (.agg #[.int .i64 1, .int .i64 9, .slice po 1 co, .int .i64 (12 + 4 * (k : Int))]) ⟨1, 9, [((k * (k + 1) / 2 : Nat) : Int)], 12 + 4 * (k : Int)⟩) ∧ Below w'.heap.size w' w'') := Lib.hid (fun w' b g hb => run_one _ mCoC w' (hc.ext g) mCo_fit (by decide) mCo_n64 b k hb (by unfold I64; omega) 2000 (by decide) _ (mCo_r k (by omega)))
  have G0 := Lib.hid (ext_trans GA.out g2)
  clear GA g2 hc HPS HAW hl0 hl1
  go_wp2_with fail
  refine (P1.out _).mono ?_; rintro e wk ⟨rfl, rfl⟩
  go_wp2_with fail
  refine (HR.out _ _ (ext_alloc (ext_alloc (Below.refl _ _) _) _) (heap_new' _ _ _ (by simp))).mono ?_; rintro e wr ⟨⟨po, co, rfl, hr⟩, gr⟩
  have GR := Lib.hid (ext_trans (ext_alloc (ext_alloc G0.out _) _) gr)
  have HS := Lib.hid hr
  clear hr gr HR G0
  go_wp2_with fail
  have hsum : wrap64 ((wrap64 ((k : Int) * ((k : Int) + 1))).tdiv 2) = ((k * (k + 1) / 2 : Nat) : Int) := by
    have h1 : (k : Int) * ((k : Int) + 1) = ((k * (k + 1) : Nat) : Int) := by simp
    have h2 : k * (k + 1) ≤ 200 * 201 := Nat.mul_le_mul (by omega) (by omega)
    rw [h1]
    generalize k * (k + 1) = m at *
    rw [wrap_in (v := (m : Int)) (by omega), Int.tdiv_eq_ediv_of_nonneg (by omega), wrap_in (by omega)]
    omega
  rw [hsum]
  refine (rsame_any _ _ _ _ _ (HS.out.ext (ext_alloc (ext_alloc (Below.refl _ _) _) _)) (rn_blk1 (x := ((k * (k + 1) / 2 : Nat) : Int)) (heap_new' _ _ _ (by simp)) 1 9 (12 + 4 * (k : Int))) (by show 1 ≤ 1000000; decide) (by show 1 ≤ 1000000; decide)).mono ?_; rintro e w9 ⟨rfl, g9⟩
  rw [decide_eq_true (rfl : (⟨1, 9, [((k * (k + 1) / 2 : Nat) : Int)], 12 + 4 * (k : Int)⟩ : Rn) = ⟨1, 9, [((k * (k + 1) / 2 : Nat) : Int)], 12 + 4 * (k : Int)⟩)]
  have GZ := Lib.hid (ext_trans (ext_alloc (ext_alloc GR.out _) _) g9)
  clear g9
  go_wp2_with fail
  go_ret
  exact ⟨rfl, GZ.out⟩
theorem counts_walk (n : Int) (w : World) (hn : I64 n) (hv : Env w) : Calls Tryz.prog 5 #[.int .i64 n] w fun e w' => e = .returned (.bool true) ∧ Below w.heap.size w w' := by
  obtain ⟨k, hk, hk2⟩ := pick_nat9 n 201 (by decide)
  exact counts_core n k w hn hv hk hk2
end Go.Proofs.YtjimeengkfjihaaGreatDoor
