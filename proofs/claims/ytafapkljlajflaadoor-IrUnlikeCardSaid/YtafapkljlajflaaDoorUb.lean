/- Units of raw blocks may be: plain. -/
import Derived.Test.YtafapkljlajflaaDoorUa
namespace Go.Proofs.YtafapkljlajflaaDoor
open Go.RowKit
theorem plc_pick (c n vals : Int) (h0 : 0 < n) (h : n ≤ vals) : plcB vals (pickN c n) = true := by
  have h1 := pickN_lo c n h0
  have h2 := pickN_hi c n h0
  unfold plcB; exact decide_eq_true (by omega)
theorem argsOf_len (k : Nat) (a b : Int) : (argsOf k a b).length = k := by simp [argsOf]
theorem argsOf_plc10 (k : Nat) (a b vals : Int) (hv : 10 ≤ vals) : (argsOf k a b).all (plcB vals) = true := by
  rw [List.all_eq_true]
  intro v hv
  obtain ⟨i, _, rfl⟩ := List.mem_map.1 hv
  exact plc_pick _ 10 vals (by decide) (by omega)
theorem nil_dec (α : Type) [DecidableEq α] : decide (([] : List α) = []) = true := decide_eq_true rfl
/-- What a unit has that the law's instructions name. -/
structure Has3 (u : Un) : Prop where
  a0 : arrHas u.arrays [97] = true
  a1 : arrHas u.arrays [98] = true
  f : ∀ k, k < 3 → flwHas u.flows (namesL.getD k []) = true ∧ ((u.flows[plcOf u.flows (namesL.getD k [])]?).map (·.params)).getD 0 = (k : Int)
theorem ins_fit (u : Un) (hu : Has3 u) (r : Xn) (vals : Int) (hv : 10 ≤ vals) : insB u vals (insF r) = true := by
  have k0 := pickN_lo r.kind 9 (by decide)
  have k1 := pickN_hi r.kind 9 (by decide)
  have pd : plcB vals (pickN r.d 10) = true := plc_pick _ _ _ (by decide) hv
  have pa : plcB vals (pickN r.a 10) = true := plc_pick _ _ _ (by decide) hv
  have pb : plcB vals (pickN r.b 10) = true := plc_pick _ _ _ (by decide) hv
  have o0 := pickN_lo r.op 3 (by decide)
  have o1 := pickN_hi r.op 3 (by decide)
  have q0 := pickN_lo r.op 16 (by decide)
  have q1 := pickN_hi r.op 16 (by decide)
  have m0 := pickN_lo r.n 2 (by decide)
  have m1 := pickN_hi r.n 2 (by decide)
  have c0 := pickN_lo r.n 3 (by decide)
  have c1 := pickN_hi r.n 3 (by decide)
  have hab : arrHas u.arrays (abL.getD (pickN r.n 2).toNat []) = true := by
    rcases (by omega : pickN r.n 2 = 0 ∨ pickN r.n 2 = 1) with h | h <;> rw [h]
    · exact hu.a0
    · exact hu.a1
  obtain ⟨hf, hp⟩ := hu.f (pickN r.n 3).toNat (by omega)
  have ha1 := argsOf_plc10 (pickN r.n 3).toNat r.a r.b vals hv
  have ha2 := argsOf_len (pickN r.n 3).toNat r.a r.b
  unfold insB insF
  generalize hk : pickN r.kind 9 = k at *
  generalize abL.getD (pickN r.n 2).toNat [] = nm at *
  generalize namesL.getD (pickN r.n 3).toNat [] = nf at *
  generalize argsOf (pickN r.n 3).toNat r.a r.b = ar at *
  rcases nine (k := 1 + k) (by omega) (by omega) with h | h | h | h | h | h | h | h | h
  all_goals simp only [h]
  · simp [fitB, hD, hA, hB, opB, namB, argB, pd]
  · simp [fitB, hD, hA, hB, opB, namB, argB, pd, pa]
  · simp [fitB, hD, hA, hB, opB, namB, argB, pd, pa]; omega
  · simp [fitB, hD, hA, hB, opB, namB, argB, pd, pa, pb]; omega
  · simp [fitB, hD, hA, hB, opB, namB, argB, pd, pa, hab]
  · simp [fitB, hD, hA, hB, opB, namB, argB, pa, pb, hab]
  · simp [fitB, hD, hA, hB, opB, namB, argB, pd]
  · simp [fitB, hD, hA, hB, opB, namB, argB, pa]
  · simp only [fitB, hD, hA, hB, opB, namB, argB]
    simp [pd, hf, hp, ha1, ha2]
theorem trm_fit (f : Fl) (t : Tm) (hv : 10 ≤ f.values) (hb : 1 ≤ f.blocks.length) : trmB f (trmF t f.blocks.length) = true := by
  have k0 := pickN_lo t.kind 4 (by decide)
  have k1 := pickN_hi t.kind 4 (by decide)
  have pa : plcB f.values (pickN t.a 10) = true := plc_pick _ _ _ (by decide) hv
  have pt : plcB f.blocks.length (pickN t.to f.blocks.length) = true := plc_pick _ _ _ (by omega) (by omega)
  have pe : plcB f.blocks.length (pickN t.els f.blocks.length) = true := plc_pick _ _ _ (by omega) (by omega)
  unfold trmB trmF
  generalize hk : pickN t.kind 4 = k at *
  rcases (by omega : k = 0 ∨ k = 1 ∨ k = 2 ∨ k = 3) with h | h | h | h
  all_goals
    subst h
    simp [pa, pt, pe]
theorem cntK_le (n k : Nat) : cntK n k ≤ 8 := Nat.min_le_left _ _
theorem rawK_len (raw : List Bk) (k j : Nat) : (rawK raw k j).length = j := by simp [rawK]
theorem bksOf_len (raw : List Bk) (k : Nat) : 1 ≤ (bksOf raw k).length ∧ (bksOf raw k).length ≤ 8 := by
  unfold bksOf
  split
  · simp
  · rw [rawK_len]; have := cntK_le raw.length k; omega
theorem flwF_len (raw : List Bk) (k : Nat) : (flwF raw k).blocks.length = (bksOf raw k).length := by simp [flwF]
theorem flwF_blk (raw : List Bk) (k : Nat) {b : Bk} (h : b ∈ (flwF raw k).blocks) : ∃ r ∈ bksOf raw k, b = blkF r (flwF raw k).blocks.length := by
  rw [flwF_len]
  obtain ⟨r, hr, rfl⟩ := List.mem_map.1 h
  exact ⟨r, hr, rfl⟩
theorem sum_le (L : List Nat) (m : Nat) (h : ∀ x ∈ L, x ≤ m) : L.sum ≤ L.length * m := by
  induction L with
  | nil => simp
  | cons a L ih =>
    rw [List.sum_cons, List.length_cons, Nat.succ_mul]
    have := h a (by simp)
    have := ih (fun x hx => h x (List.mem_cons_of_mem _ hx))
    omega
theorem flwB_fit (raw : List Bk) (k : Nat) (hk : k < 3) : flwB (flwF raw k) = true := by
  have h := bksOf_len raw k
  have hc : cntI (flwF raw k) ≤ 8 * 6 := by
    unfold cntI
    refine Nat.le_trans (sum_le _ 6 ?_) ?_
    · intro x hx
      obtain ⟨b, hb, rfl⟩ := List.mem_map.1 hx
      obtain ⟨r, _, rfl⟩ := flwF_blk raw k hb
      show ((r.ins.take 6).map insF).length ≤ 6
      rw [List.length_map, List.length_take]; omega
    · rw [List.length_map, flwF_len]; omega
  unfold flwB
  rw [flwF_len]
  have e1 : (flwF raw k).params = k := rfl
  have e2 : (flwF raw k).values = 10 := rfl
  rw [e1, e2, decide_eq_true (by omega), decide_eq_true (by omega)]; rfl
theorem badBk_none (u : Un) (f : Fl) : ∀ (L : List Bk) (k : Nat), (∀ b ∈ L, blkB u f b = true) → badBk u f L k = none
  | [], _, _ => rfl
  | b :: r, k, h => by
    unfold badBk
    rw [if_pos (h b (by simp)), badBk_none u f r (k + 1) (fun x hx => h x (List.mem_cons_of_mem _ hx))]
theorem has3 (raw : List Bk) : Has3 (fitU raw) := by
  refine ⟨rfl, rfl, fun k hk => ?_⟩
  rcases (by omega : k = 0 ∨ k = 1 ∨ k = 2) with rfl | rfl | rfl <;> exact ⟨rfl, rfl⟩
theorem blk_fit (raw : List Bk) (k : Nat) {b : Bk} (h : b ∈ (flwF raw k).blocks) : blkB (fitU raw) (flwF raw k) b = true := by
  obtain ⟨r, _, rfl⟩ := flwF_blk raw k h
  unfold blkB
  rw [Bool.and_eq_true, List.all_eq_true]
  refine ⟨fun x hx => ?_, trm_fit _ _ (by show (10 : Int) ≤ 10; decide) (by rw [flwF_len]; exact (bksOf_len raw k).1)⟩
  obtain ⟨y, _, rfl⟩ := List.mem_map.1 hx
  exact ins_fit _ (has3 raw) y _ (by show (10 : Int) ≤ 10; decide)
theorem decl_fit (raw : List Bk) : declB (fitU raw) = true := by
  unfold declB
  rw [show (fitU raw).arrays.map (·.name) ++ (fitU raw).flows.map (·.name) = [[97], [98], mainN, [102], [103]] from rfl, show plcOf (fitU raw).flows [109, 97, 105, 110] = 0 from rfl, show flwHas (fitU raw).flows [109, 97, 105, 110] = true from rfl, show (fitU raw).arrays = arrsAB from rfl]
  kernel_rfl
theorem fit_ok (raw : List Bk) : wrongU (fitU raw) = (0, 0, 0) := by
  unfold wrongU
  rw [if_pos (decl_fit raw)]
  have e : badFl (fitU raw) (fitU raw).flows 0 = none := by
    show badFl (fitU raw) [flwF raw 0, flwF raw 1, flwF raw 2] 0 = none
    unfold badFl
    rw [if_pos (flwB_fit raw 0 (by decide)), badBk_none _ _ _ _ (fun b hb => blk_fit raw 0 hb)]
    show badFl (fitU raw) [flwF raw 1, flwF raw 2] 1 = none
    unfold badFl
    rw [if_pos (flwB_fit raw 1 (by decide)), badBk_none _ _ _ _ (fun b hb => blk_fit raw 1 hb)]
    show badFl (fitU raw) [flwF raw 2] 2 = none
    unfold badFl
    rw [if_pos (flwB_fit raw 2 (by decide)), badBk_none _ _ _ _ (fun b hb => blk_fit raw 2 hb)]
    rfl
  rw [e]
end Go.Proofs.YtafapkljlajflaaDoor
