/- The law's own helpers: numbers, instructions. -/
import Derived.Test.YtafapkljlajflaaDoorRows
import Derived.WalkKit
import Derived.ProofKit
import Derived.OpenShut
import Derived.WalkLawsBesides
import Derived.WalkSpells
import Derived.Outline
import Derived.Handy
import Derived.Lib.Hide
import Derived.Lib.OthersKept
import Derived.KernelRfl
import Derived.Carry
import Derived.RegionTactic
import Derived.BigRegion
import Derived.Test.YtafapkljlajflaaDoorUr
namespace Go.Proofs.YtafapkljlajflaaDoor
open Go.ChangeShapes Go.WideShapes Go.ChangeAt Go.RowKit
set_option linter.unusedVariables false
theorem pick_any (c n : Int) (w : World) (h1 : I64 c) (h3 : 0 < n) :
    Calls Tryd.prog 16 #[.int .i64 c, .int .i64 n] w fun e w' => e = .returned (.int .i64 (pickN c n)) ∧ w = w' := by
  obtain ⟨h1, h2⟩ := h1
  have hn : (n == 0) = false := by simpa using (show n ≠ 0 by omega)
  by_cases h : c < 0
  · have e : pickN c n = -((c + 1).tmod n) := by rw [pickN, if_pos h, ← Int.neg_tmod, Int.tmod_eq_emod_of_nonneg (by omega)]
    have E := Lib.hid e; clear e
    go_enter Tryd.func16, Tryd.ntmps16
    go_wp2
    go_ret
    exact ⟨by rw [E.out]; rfl, rfl⟩
  · have e : pickN c n = c % n := by simp [pickN, h]
    have E := Lib.hid e; clear e
    go_enter Tryd.func16, Tryd.ntmps16
    go_wp2
    go_ret
    exact ⟨by rw [E.out]; rfl, rfl⟩
theorem pick_eq (c n v : Int) (hv : pickN c n = v) (h1 : I64 c) (h3 : 0 < n) (w : World) :
    Calls Tryd.prog 16 #[.int .i64 c, .int .i64 n] w fun e w' => e = .returned (.int .i64 v) ∧ w = w' := by rw [← hv]; exact pick_any c n w h1 h3
/-- A value is the three names. -/
def NmsAt (w : World) (b : Nat) : Prop := w.heap[b]? = some (.cells #[.string (mk mainN), .string (mk [102]), .string (mk [103])] 9 (0, 0))
def XnRes (B : Nat) (x : Xn) (e : Ending) (w : World) : Prop := ∃ v, e = .returned (.agg #[.int .i64 x.kind, .int .i64 x.d, .int .i64 x.a, .int .i64 x.b, .int .i64 x.op, .int .i64 x.n, .string (mk x.name), v]) ∧ NumsAt (fun b => B ≤ b) w v x.args
theorem xn_res {B : Nat} {x y : Xn} {w : World} {v : Value} (h : x = y) (hv : NumsAt (fun b => B ≤ b) w v y.args) : XnRes B x (.returned (.agg #[.int .i64 y.kind, .int .i64 y.d, .int .i64 y.a, .int .i64 y.b, .int .i64 y.op, .int .i64 y.n, .string (mk y.name), v])) w := by subst h; exact ⟨v, rfl, hv⟩
def rawV (r : Xn) (va : Value) : Value := .agg #[.int .i64 r.kind, .int .i64 r.d, .int .i64 r.a, .int .i64 r.b, .int .i64 r.op, .int .i64 r.n, .string (mk r.name), va]
set_option maxRecDepth 100000 in
set_option maxHeartbeats 4000000 in
theorem lins_1 (r : Xn) (hr : AllX r) (va nv : Value) (w : World) (hk : pickN r.kind 9 = 0) :
    Calls Tryd.prog 12 #[rawV r va, nv] w fun e w' => XnRes w.heap.size (insF r) e w' ∧ Below w.heap.size w w' := by
  obtain ⟨h1, h2, h3, h4, h5, h6⟩ := hr
  have pk := Lib.hid (pick_eq r.kind 9 0 hk h1 (by decide))
  have pd := Lib.hid (pick_eq r.d 10 _ rfl h2 (by decide))
  have pa := Lib.hid (pick_eq r.a 10 _ rfl h3 (by decide))
  have pb := Lib.hid (pick_eq r.b 10 _ rfl h4 (by decide))
  have p3 := Lib.hid (pick_eq r.op 3 _ rfl h5 (by decide))
  have p16 := Lib.hid (pick_eq r.op 16 _ rfl h5 (by decide))
  have HV : Hid (insF r = ⟨1, pickN r.d 10, 0, 0, 0, r.n, [], []⟩) := Lib.hid (by simp [insF, hk])
  have o0 := pickN_lo r.op 3 (by decide)
  have o1 := pickN_hi r.op 3 (by decide)
  have q0 := pickN_lo r.op 16 (by decide)
  have q1 := pickN_hi r.op 16 (by decide)
  clear hk h1 h2 h3 h4 h5 h6
  unfold rawV
  generalize insF r = X at *
  generalize pickN r.d 10 = d at *
  generalize pickN r.a 10 = a at *
  generalize pickN r.b 10 = b at *
  generalize pickN r.op 3 = o3 at *
  generalize pickN r.op 16 = o16 at *
  obtain ⟨rk, rd, ra, rb, ro, rn, rm, rl⟩ := r
  go_enter Tryd.func12, Tryd.ntmps12
  go_wp2_with fail
  refine (pk.out _).mono ?_; rintro e w1 ⟨rfl, rfl⟩
  go_wp2_with fail
  refine (pd.out _).mono ?_; rintro e w1 ⟨rfl, rfl⟩
  go_wp2_with fail
  exact bodyPost_ret (v := .agg #[.int .i64 (1), .int .i64 (d), .int .i64 (0), .int .i64 (0), .int .i64 (0), .int .i64 (rn), .string (mk ([])), .slice none 0 0]) (by simp [results, Tryd.results12, go_sem]; rfl) rfl ⟨xn_res (y := ⟨(1), (d), (0), (0), (0), (rn), ([]), []⟩) HV.out RowAt.nil, by repeat (first | exact Below.refl _ _ | (refine ext_alloc ?_ _) | (refine ext_drew ?_) | (refine ext_set ?_ (by simp) _))⟩
set_option maxRecDepth 100000 in
set_option maxHeartbeats 4000000 in
theorem lins_2 (r : Xn) (hr : AllX r) (va nv : Value) (w : World) (hk : pickN r.kind 9 = 1) :
    Calls Tryd.prog 12 #[rawV r va, nv] w fun e w' => XnRes w.heap.size (insF r) e w' ∧ Below w.heap.size w w' := by
  obtain ⟨h1, h2, h3, h4, h5, h6⟩ := hr
  have pk := Lib.hid (pick_eq r.kind 9 1 hk h1 (by decide))
  have pd := Lib.hid (pick_eq r.d 10 _ rfl h2 (by decide))
  have pa := Lib.hid (pick_eq r.a 10 _ rfl h3 (by decide))
  have pb := Lib.hid (pick_eq r.b 10 _ rfl h4 (by decide))
  have p3 := Lib.hid (pick_eq r.op 3 _ rfl h5 (by decide))
  have p16 := Lib.hid (pick_eq r.op 16 _ rfl h5 (by decide))
  have HV : Hid (insF r = ⟨2, pickN r.d 10, pickN r.a 10, 0, 0, 0, [], []⟩) := Lib.hid (by simp [insF, hk])
  have o0 := pickN_lo r.op 3 (by decide)
  have o1 := pickN_hi r.op 3 (by decide)
  have q0 := pickN_lo r.op 16 (by decide)
  have q1 := pickN_hi r.op 16 (by decide)
  clear hk h1 h2 h3 h4 h5 h6
  unfold rawV
  generalize insF r = X at *
  generalize pickN r.d 10 = d at *
  generalize pickN r.a 10 = a at *
  generalize pickN r.b 10 = b at *
  generalize pickN r.op 3 = o3 at *
  generalize pickN r.op 16 = o16 at *
  obtain ⟨rk, rd, ra, rb, ro, rn, rm, rl⟩ := r
  go_enter Tryd.func12, Tryd.ntmps12
  go_wp2_with fail
  refine (pk.out _).mono ?_; rintro e w1 ⟨rfl, rfl⟩
  go_wp2_with fail
  refine (pd.out _).mono ?_; rintro e w1 ⟨rfl, rfl⟩
  go_wp2_with fail
  refine (pa.out _).mono ?_; rintro e w1 ⟨rfl, rfl⟩
  go_wp2_with fail
  exact bodyPost_ret (v := .agg #[.int .i64 (2), .int .i64 (d), .int .i64 (a), .int .i64 (0), .int .i64 (0), .int .i64 (0), .string (mk ([])), .slice none 0 0]) (by simp [results, Tryd.results12, go_sem]; rfl) rfl ⟨xn_res (y := ⟨(2), (d), (a), (0), (0), (0), ([]), []⟩) HV.out RowAt.nil, by repeat (first | exact Below.refl _ _ | (refine ext_alloc ?_ _) | (refine ext_drew ?_) | (refine ext_set ?_ (by simp) _))⟩
set_option maxRecDepth 100000 in
set_option maxHeartbeats 4000000 in
theorem lins_3 (r : Xn) (hr : AllX r) (va nv : Value) (w : World) (hk : pickN r.kind 9 = 2) :
    Calls Tryd.prog 12 #[rawV r va, nv] w fun e w' => XnRes w.heap.size (insF r) e w' ∧ Below w.heap.size w w' := by
  obtain ⟨h1, h2, h3, h4, h5, h6⟩ := hr
  have pk := Lib.hid (pick_eq r.kind 9 2 hk h1 (by decide))
  have pd := Lib.hid (pick_eq r.d 10 _ rfl h2 (by decide))
  have pa := Lib.hid (pick_eq r.a 10 _ rfl h3 (by decide))
  have pb := Lib.hid (pick_eq r.b 10 _ rfl h4 (by decide))
  have p3 := Lib.hid (pick_eq r.op 3 _ rfl h5 (by decide))
  have p16 := Lib.hid (pick_eq r.op 16 _ rfl h5 (by decide))
  have HV : Hid (insF r = ⟨3, pickN r.d 10, pickN r.a 10, 0, 17 + pickN r.op 3, 0, [], []⟩) := Lib.hid (by simp [insF, hk])
  have o0 := pickN_lo r.op 3 (by decide)
  have o1 := pickN_hi r.op 3 (by decide)
  have q0 := pickN_lo r.op 16 (by decide)
  have q1 := pickN_hi r.op 16 (by decide)
  clear hk h1 h2 h3 h4 h5 h6
  unfold rawV
  generalize insF r = X at *
  generalize pickN r.d 10 = d at *
  generalize pickN r.a 10 = a at *
  generalize pickN r.b 10 = b at *
  generalize pickN r.op 3 = o3 at *
  generalize pickN r.op 16 = o16 at *
  obtain ⟨rk, rd, ra, rb, ro, rn, rm, rl⟩ := r
  go_enter Tryd.func12, Tryd.ntmps12
  go_wp2_with fail
  refine (pk.out _).mono ?_; rintro e w1 ⟨rfl, rfl⟩
  go_wp2_with fail
  refine (pd.out _).mono ?_; rintro e w1 ⟨rfl, rfl⟩
  go_wp2_with fail
  refine (pa.out _).mono ?_; rintro e w1 ⟨rfl, rfl⟩
  go_wp2_with fail
  refine (p3.out _).mono ?_; rintro e w1 ⟨rfl, rfl⟩
  go_wp2_with fail
  exact bodyPost_ret (v := .agg #[.int .i64 (3), .int .i64 (d), .int .i64 (a), .int .i64 (0), .int .i64 (17 + o3), .int .i64 (0), .string (mk ([])), .slice none 0 0]) (by simp [results, Tryd.results12, go_sem]; rfl) rfl ⟨xn_res (y := ⟨(3), (d), (a), (0), (17 + o3), (0), ([]), []⟩) HV.out RowAt.nil, by repeat (first | exact Below.refl _ _ | (refine ext_alloc ?_ _) | (refine ext_drew ?_) | (refine ext_set ?_ (by simp) _))⟩
set_option maxRecDepth 100000 in
set_option maxHeartbeats 4000000 in
theorem lins_4 (r : Xn) (hr : AllX r) (va nv : Value) (w : World) (hk : pickN r.kind 9 = 3) :
    Calls Tryd.prog 12 #[rawV r va, nv] w fun e w' => XnRes w.heap.size (insF r) e w' ∧ Below w.heap.size w w' := by
  obtain ⟨h1, h2, h3, h4, h5, h6⟩ := hr
  have pk := Lib.hid (pick_eq r.kind 9 3 hk h1 (by decide))
  have pd := Lib.hid (pick_eq r.d 10 _ rfl h2 (by decide))
  have pa := Lib.hid (pick_eq r.a 10 _ rfl h3 (by decide))
  have pb := Lib.hid (pick_eq r.b 10 _ rfl h4 (by decide))
  have p3 := Lib.hid (pick_eq r.op 3 _ rfl h5 (by decide))
  have p16 := Lib.hid (pick_eq r.op 16 _ rfl h5 (by decide))
  have HV : Hid (insF r = ⟨4, pickN r.d 10, pickN r.a 10, pickN r.b 10, 1 + pickN r.op 16, 0, [], []⟩) := Lib.hid (by simp [insF, hk])
  have o0 := pickN_lo r.op 3 (by decide)
  have o1 := pickN_hi r.op 3 (by decide)
  have q0 := pickN_lo r.op 16 (by decide)
  have q1 := pickN_hi r.op 16 (by decide)
  clear hk h1 h2 h3 h4 h5 h6
  unfold rawV
  generalize insF r = X at *
  generalize pickN r.d 10 = d at *
  generalize pickN r.a 10 = a at *
  generalize pickN r.b 10 = b at *
  generalize pickN r.op 3 = o3 at *
  generalize pickN r.op 16 = o16 at *
  obtain ⟨rk, rd, ra, rb, ro, rn, rm, rl⟩ := r
  go_enter Tryd.func12, Tryd.ntmps12
  go_wp2_with fail
  refine (pk.out _).mono ?_; rintro e w1 ⟨rfl, rfl⟩
  go_wp2_with fail
  refine (pd.out _).mono ?_; rintro e w1 ⟨rfl, rfl⟩
  go_wp2_with fail
  refine (pa.out _).mono ?_; rintro e w1 ⟨rfl, rfl⟩
  go_wp2_with fail
  refine (p16.out _).mono ?_; rintro e w1 ⟨rfl, rfl⟩
  go_wp2_with fail
  refine (pb.out _).mono ?_; rintro e w1 ⟨rfl, rfl⟩
  go_wp2_with fail
  exact bodyPost_ret (v := .agg #[.int .i64 (4), .int .i64 (d), .int .i64 (a), .int .i64 (b), .int .i64 (1 + o16), .int .i64 (0), .string (mk ([])), .slice none 0 0]) (by simp [results, Tryd.results12, go_sem]; rfl) rfl ⟨xn_res (y := ⟨(4), (d), (a), (b), (1 + o16), (0), ([]), []⟩) HV.out RowAt.nil, by repeat (first | exact Below.refl _ _ | (refine ext_alloc ?_ _) | (refine ext_drew ?_) | (refine ext_set ?_ (by simp) _))⟩
set_option maxRecDepth 100000 in
set_option maxHeartbeats 4000000 in
theorem lins_5a (r : Xn) (hr : AllX r) (va nv : Value) (w : World) (hk : pickN r.kind 9 = 4) (hn : pickN r.n 2 = 0) :
    Calls Tryd.prog 12 #[rawV r va, nv] w fun e w' => XnRes w.heap.size (insF r) e w' ∧ Below w.heap.size w w' := by
  obtain ⟨h1, h2, h3, h4, h5, h6⟩ := hr
  have pk := Lib.hid (pick_eq r.kind 9 4 hk h1 (by decide))
  have pd := Lib.hid (pick_eq r.d 10 _ rfl h2 (by decide))
  have pa := Lib.hid (pick_eq r.a 10 _ rfl h3 (by decide))
  have pb := Lib.hid (pick_eq r.b 10 _ rfl h4 (by decide))
  have p3 := Lib.hid (pick_eq r.op 3 _ rfl h5 (by decide))
  have p16 := Lib.hid (pick_eq r.op 16 _ rfl h5 (by decide))
  have p2 := Lib.hid (pick_eq r.n 2 0 hn h6 (by decide))
  have HV : Hid (insF r = ⟨5, pickN r.d 10, pickN r.a 10, 0, 0, 0, [97], []⟩) := Lib.hid (by simp [insF, hk, hn, abL])
  have o0 := pickN_lo r.op 3 (by decide)
  have o1 := pickN_hi r.op 3 (by decide)
  have q0 := pickN_lo r.op 16 (by decide)
  have q1 := pickN_hi r.op 16 (by decide)
  clear hk h1 h2 h3 h4 h5 h6 hn
  unfold rawV
  generalize insF r = X at *
  generalize pickN r.d 10 = d at *
  generalize pickN r.a 10 = a at *
  generalize pickN r.b 10 = b at *
  generalize pickN r.op 3 = o3 at *
  generalize pickN r.op 16 = o16 at *
  obtain ⟨rk, rd, ra, rb, ro, rn, rm, rl⟩ := r
  go_enter Tryd.func12, Tryd.ntmps12
  go_wp2_with fail
  refine (pk.out _).mono ?_; rintro e w1 ⟨rfl, rfl⟩
  go_wp2_with fail
  refine (pd.out _).mono ?_; rintro e w1 ⟨rfl, rfl⟩
  go_wp2_with fail
  refine (pa.out _).mono ?_; rintro e w1 ⟨rfl, rfl⟩
  go_wp2_with fail
  refine (p2.out _).mono ?_; rintro e w1 ⟨rfl, rfl⟩
  go_wp2_with fail
  exact bodyPost_ret (v := .agg #[.int .i64 (5), .int .i64 (d), .int .i64 (a), .int .i64 (0), .int .i64 (0), .int .i64 (0), .string (mk ([97])), .slice none 0 0]) (by simp [results, Tryd.results12, go_sem]; rfl) rfl ⟨xn_res (y := ⟨(5), (d), (a), (0), (0), (0), ([97]), []⟩) HV.out RowAt.nil, by repeat (first | exact Below.refl _ _ | (refine ext_alloc ?_ _) | (refine ext_drew ?_) | (refine ext_set ?_ (by simp) _))⟩
set_option maxRecDepth 100000 in
set_option maxHeartbeats 4000000 in
theorem lins_6a (r : Xn) (hr : AllX r) (va nv : Value) (w : World) (hk : pickN r.kind 9 = 5) (hn : pickN r.n 2 = 0) :
    Calls Tryd.prog 12 #[rawV r va, nv] w fun e w' => XnRes w.heap.size (insF r) e w' ∧ Below w.heap.size w w' := by
  obtain ⟨h1, h2, h3, h4, h5, h6⟩ := hr
  have pk := Lib.hid (pick_eq r.kind 9 5 hk h1 (by decide))
  have pd := Lib.hid (pick_eq r.d 10 _ rfl h2 (by decide))
  have pa := Lib.hid (pick_eq r.a 10 _ rfl h3 (by decide))
  have pb := Lib.hid (pick_eq r.b 10 _ rfl h4 (by decide))
  have p3 := Lib.hid (pick_eq r.op 3 _ rfl h5 (by decide))
  have p16 := Lib.hid (pick_eq r.op 16 _ rfl h5 (by decide))
  have p2 := Lib.hid (pick_eq r.n 2 0 hn h6 (by decide))
  have HV : Hid (insF r = ⟨6, 0, pickN r.a 10, pickN r.b 10, 0, 0, [97], []⟩) := Lib.hid (by simp [insF, hk, hn, abL])
  have o0 := pickN_lo r.op 3 (by decide)
  have o1 := pickN_hi r.op 3 (by decide)
  have q0 := pickN_lo r.op 16 (by decide)
  have q1 := pickN_hi r.op 16 (by decide)
  clear hk h1 h2 h3 h4 h5 h6 hn
  unfold rawV
  generalize insF r = X at *
  generalize pickN r.d 10 = d at *
  generalize pickN r.a 10 = a at *
  generalize pickN r.b 10 = b at *
  generalize pickN r.op 3 = o3 at *
  generalize pickN r.op 16 = o16 at *
  obtain ⟨rk, rd, ra, rb, ro, rn, rm, rl⟩ := r
  go_enter Tryd.func12, Tryd.ntmps12
  go_wp2_with fail
  refine (pk.out _).mono ?_; rintro e w1 ⟨rfl, rfl⟩
  go_wp2_with fail
  refine (pa.out _).mono ?_; rintro e w1 ⟨rfl, rfl⟩
  go_wp2_with fail
  refine (p2.out _).mono ?_; rintro e w1 ⟨rfl, rfl⟩
  go_wp2_with fail
  refine (pb.out _).mono ?_; rintro e w1 ⟨rfl, rfl⟩
  go_wp2_with fail
  exact bodyPost_ret (v := .agg #[.int .i64 (6), .int .i64 (0), .int .i64 (a), .int .i64 (b), .int .i64 (0), .int .i64 (0), .string (mk ([97])), .slice none 0 0]) (by simp [results, Tryd.results12, go_sem]; rfl) rfl ⟨xn_res (y := ⟨(6), (0), (a), (b), (0), (0), ([97]), []⟩) HV.out RowAt.nil, by repeat (first | exact Below.refl _ _ | (refine ext_alloc ?_ _) | (refine ext_drew ?_) | (refine ext_set ?_ (by simp) _))⟩
set_option maxRecDepth 100000 in
set_option maxHeartbeats 4000000 in
theorem lins_5b (r : Xn) (hr : AllX r) (va nv : Value) (w : World) (hk : pickN r.kind 9 = 4) (hn : pickN r.n 2 = 1) :
    Calls Tryd.prog 12 #[rawV r va, nv] w fun e w' => XnRes w.heap.size (insF r) e w' ∧ Below w.heap.size w w' := by
  obtain ⟨h1, h2, h3, h4, h5, h6⟩ := hr
  have pk := Lib.hid (pick_eq r.kind 9 4 hk h1 (by decide))
  have pd := Lib.hid (pick_eq r.d 10 _ rfl h2 (by decide))
  have pa := Lib.hid (pick_eq r.a 10 _ rfl h3 (by decide))
  have pb := Lib.hid (pick_eq r.b 10 _ rfl h4 (by decide))
  have p3 := Lib.hid (pick_eq r.op 3 _ rfl h5 (by decide))
  have p16 := Lib.hid (pick_eq r.op 16 _ rfl h5 (by decide))
  have p2 := Lib.hid (pick_eq r.n 2 1 hn h6 (by decide))
  have HV : Hid (insF r = ⟨5, pickN r.d 10, pickN r.a 10, 0, 0, 0, [98], []⟩) := Lib.hid (by simp [insF, hk, hn, abL])
  have o0 := pickN_lo r.op 3 (by decide)
  have o1 := pickN_hi r.op 3 (by decide)
  have q0 := pickN_lo r.op 16 (by decide)
  have q1 := pickN_hi r.op 16 (by decide)
  clear hk h1 h2 h3 h4 h5 h6 hn
  unfold rawV
  generalize insF r = X at *
  generalize pickN r.d 10 = d at *
  generalize pickN r.a 10 = a at *
  generalize pickN r.b 10 = b at *
  generalize pickN r.op 3 = o3 at *
  generalize pickN r.op 16 = o16 at *
  obtain ⟨rk, rd, ra, rb, ro, rn, rm, rl⟩ := r
  go_enter Tryd.func12, Tryd.ntmps12
  go_wp2_with fail
  refine (pk.out _).mono ?_; rintro e w1 ⟨rfl, rfl⟩
  go_wp2_with fail
  refine (pd.out _).mono ?_; rintro e w1 ⟨rfl, rfl⟩
  go_wp2_with fail
  refine (pa.out _).mono ?_; rintro e w1 ⟨rfl, rfl⟩
  go_wp2_with fail
  refine (p2.out _).mono ?_; rintro e w1 ⟨rfl, rfl⟩
  go_wp2_with fail
  exact bodyPost_ret (v := .agg #[.int .i64 (5), .int .i64 (d), .int .i64 (a), .int .i64 (0), .int .i64 (0), .int .i64 (0), .string (mk ([98])), .slice none 0 0]) (by simp [results, Tryd.results12, go_sem]; rfl) rfl ⟨xn_res (y := ⟨(5), (d), (a), (0), (0), (0), ([98]), []⟩) HV.out RowAt.nil, by repeat (first | exact Below.refl _ _ | (refine ext_alloc ?_ _) | (refine ext_drew ?_) | (refine ext_set ?_ (by simp) _))⟩
set_option maxRecDepth 100000 in
set_option maxHeartbeats 4000000 in
theorem lins_6b (r : Xn) (hr : AllX r) (va nv : Value) (w : World) (hk : pickN r.kind 9 = 5) (hn : pickN r.n 2 = 1) :
    Calls Tryd.prog 12 #[rawV r va, nv] w fun e w' => XnRes w.heap.size (insF r) e w' ∧ Below w.heap.size w w' := by
  obtain ⟨h1, h2, h3, h4, h5, h6⟩ := hr
  have pk := Lib.hid (pick_eq r.kind 9 5 hk h1 (by decide))
  have pd := Lib.hid (pick_eq r.d 10 _ rfl h2 (by decide))
  have pa := Lib.hid (pick_eq r.a 10 _ rfl h3 (by decide))
  have pb := Lib.hid (pick_eq r.b 10 _ rfl h4 (by decide))
  have p3 := Lib.hid (pick_eq r.op 3 _ rfl h5 (by decide))
  have p16 := Lib.hid (pick_eq r.op 16 _ rfl h5 (by decide))
  have p2 := Lib.hid (pick_eq r.n 2 1 hn h6 (by decide))
  have HV : Hid (insF r = ⟨6, 0, pickN r.a 10, pickN r.b 10, 0, 0, [98], []⟩) := Lib.hid (by simp [insF, hk, hn, abL])
  have o0 := pickN_lo r.op 3 (by decide)
  have o1 := pickN_hi r.op 3 (by decide)
  have q0 := pickN_lo r.op 16 (by decide)
  have q1 := pickN_hi r.op 16 (by decide)
  clear hk h1 h2 h3 h4 h5 h6 hn
  unfold rawV
  generalize insF r = X at *
  generalize pickN r.d 10 = d at *
  generalize pickN r.a 10 = a at *
  generalize pickN r.b 10 = b at *
  generalize pickN r.op 3 = o3 at *
  generalize pickN r.op 16 = o16 at *
  obtain ⟨rk, rd, ra, rb, ro, rn, rm, rl⟩ := r
  go_enter Tryd.func12, Tryd.ntmps12
  go_wp2_with fail
  refine (pk.out _).mono ?_; rintro e w1 ⟨rfl, rfl⟩
  go_wp2_with fail
  refine (pa.out _).mono ?_; rintro e w1 ⟨rfl, rfl⟩
  go_wp2_with fail
  refine (p2.out _).mono ?_; rintro e w1 ⟨rfl, rfl⟩
  go_wp2_with fail
  refine (pb.out _).mono ?_; rintro e w1 ⟨rfl, rfl⟩
  go_wp2_with fail
  exact bodyPost_ret (v := .agg #[.int .i64 (6), .int .i64 (0), .int .i64 (a), .int .i64 (b), .int .i64 (0), .int .i64 (0), .string (mk ([98])), .slice none 0 0]) (by simp [results, Tryd.results12, go_sem]; rfl) rfl ⟨xn_res (y := ⟨(6), (0), (a), (b), (0), (0), ([98]), []⟩) HV.out RowAt.nil, by repeat (first | exact Below.refl _ _ | (refine ext_alloc ?_ _) | (refine ext_drew ?_) | (refine ext_set ?_ (by simp) _))⟩
set_option maxRecDepth 100000 in
set_option maxHeartbeats 4000000 in
theorem lins_7 (r : Xn) (hr : AllX r) (va nv : Value) (w : World) (hk : pickN r.kind 9 = 6) :
    Calls Tryd.prog 12 #[rawV r va, nv] w fun e w' => XnRes w.heap.size (insF r) e w' ∧ Below w.heap.size w w' := by
  obtain ⟨h1, h2, h3, h4, h5, h6⟩ := hr
  have pk := Lib.hid (pick_eq r.kind 9 6 hk h1 (by decide))
  have pd := Lib.hid (pick_eq r.d 10 _ rfl h2 (by decide))
  have pa := Lib.hid (pick_eq r.a 10 _ rfl h3 (by decide))
  have pb := Lib.hid (pick_eq r.b 10 _ rfl h4 (by decide))
  have p3 := Lib.hid (pick_eq r.op 3 _ rfl h5 (by decide))
  have p16 := Lib.hid (pick_eq r.op 16 _ rfl h5 (by decide))
  have HV : Hid (insF r = ⟨7, pickN r.d 10, 0, 0, 0, 0, [], []⟩) := Lib.hid (by simp [insF, hk])
  have o0 := pickN_lo r.op 3 (by decide)
  have o1 := pickN_hi r.op 3 (by decide)
  have q0 := pickN_lo r.op 16 (by decide)
  have q1 := pickN_hi r.op 16 (by decide)
  clear hk h1 h2 h3 h4 h5 h6
  unfold rawV
  generalize insF r = X at *
  generalize pickN r.d 10 = d at *
  generalize pickN r.a 10 = a at *
  generalize pickN r.b 10 = b at *
  generalize pickN r.op 3 = o3 at *
  generalize pickN r.op 16 = o16 at *
  obtain ⟨rk, rd, ra, rb, ro, rn, rm, rl⟩ := r
  go_enter Tryd.func12, Tryd.ntmps12
  go_wp2_with fail
  refine (pk.out _).mono ?_; rintro e w1 ⟨rfl, rfl⟩
  go_wp2_with fail
  refine (pd.out _).mono ?_; rintro e w1 ⟨rfl, rfl⟩
  go_wp2_with fail
  exact bodyPost_ret (v := .agg #[.int .i64 (7), .int .i64 (d), .int .i64 (0), .int .i64 (0), .int .i64 (0), .int .i64 (0), .string (mk ([])), .slice none 0 0]) (by simp [results, Tryd.results12, go_sem]; rfl) rfl ⟨xn_res (y := ⟨(7), (d), (0), (0), (0), (0), ([]), []⟩) HV.out RowAt.nil, by repeat (first | exact Below.refl _ _ | (refine ext_alloc ?_ _) | (refine ext_drew ?_) | (refine ext_set ?_ (by simp) _))⟩
set_option maxRecDepth 100000 in
set_option maxHeartbeats 4000000 in
theorem lins_8 (r : Xn) (hr : AllX r) (va nv : Value) (w : World) (hk : pickN r.kind 9 = 7) :
    Calls Tryd.prog 12 #[rawV r va, nv] w fun e w' => XnRes w.heap.size (insF r) e w' ∧ Below w.heap.size w w' := by
  obtain ⟨h1, h2, h3, h4, h5, h6⟩ := hr
  have pk := Lib.hid (pick_eq r.kind 9 7 hk h1 (by decide))
  have pd := Lib.hid (pick_eq r.d 10 _ rfl h2 (by decide))
  have pa := Lib.hid (pick_eq r.a 10 _ rfl h3 (by decide))
  have pb := Lib.hid (pick_eq r.b 10 _ rfl h4 (by decide))
  have p3 := Lib.hid (pick_eq r.op 3 _ rfl h5 (by decide))
  have p16 := Lib.hid (pick_eq r.op 16 _ rfl h5 (by decide))
  have HV : Hid (insF r = ⟨8, 0, pickN r.a 10, 0, 0, 0, [], []⟩) := Lib.hid (by simp [insF, hk])
  have o0 := pickN_lo r.op 3 (by decide)
  have o1 := pickN_hi r.op 3 (by decide)
  have q0 := pickN_lo r.op 16 (by decide)
  have q1 := pickN_hi r.op 16 (by decide)
  clear hk h1 h2 h3 h4 h5 h6
  unfold rawV
  generalize insF r = X at *
  generalize pickN r.d 10 = d at *
  generalize pickN r.a 10 = a at *
  generalize pickN r.b 10 = b at *
  generalize pickN r.op 3 = o3 at *
  generalize pickN r.op 16 = o16 at *
  obtain ⟨rk, rd, ra, rb, ro, rn, rm, rl⟩ := r
  go_enter Tryd.func12, Tryd.ntmps12
  go_wp2_with fail
  refine (pk.out _).mono ?_; rintro e w1 ⟨rfl, rfl⟩
  go_wp2_with fail
  refine (pa.out _).mono ?_; rintro e w1 ⟨rfl, rfl⟩
  go_wp2_with fail
  exact bodyPost_ret (v := .agg #[.int .i64 (8), .int .i64 (0), .int .i64 (a), .int .i64 (0), .int .i64 (0), .int .i64 (0), .string (mk ([])), .slice none 0 0]) (by simp [results, Tryd.results12, go_sem]; rfl) rfl ⟨xn_res (y := ⟨(8), (0), (a), (0), (0), (0), ([]), []⟩) HV.out RowAt.nil, by repeat (first | exact Below.refl _ _ | (refine ext_alloc ?_ _) | (refine ext_drew ?_) | (refine ext_set ?_ (by simp) _))⟩
end Go.Proofs.YtafapkljlajflaaDoor
