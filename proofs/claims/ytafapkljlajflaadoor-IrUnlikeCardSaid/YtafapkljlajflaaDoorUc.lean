/- How many lines a unit's text has: plain. -/
import Derived.Test.YtafapkljlajflaaDoorUb
namespace Go.Proofs.YtafapkljlajflaaDoor
open Go.RowKit
theorem cnt_itoa (v : Int) : (Lib.itoa v).count 10 = 0 := List.count_eq_zero.2 (fun h => by have := itoa_in v 10 h; revert this; decide)
theorem cnt_val (v : Int) : (valT v).count 10 = 0 := by unfold valT; rw [List.count_cons, cnt_itoa]; rfl
theorem cnt_blk (v : Int) : (blkT v).count 10 = 0 := by unfold blkT; rw [List.count_cons, cnt_itoa]; rfl
theorem cnt_join : ∀ l : List Int, (joinV l).count 10 = 0
  | [] => rfl
  | [v] => cnt_val v
  | v :: w :: r => by
    unfold joinV
    rw [List.count_append, List.count_append, cnt_val, cnt_join (w :: r)]; rfl
theorem cnt_sign (k : Int) : (signL k).count 10 = 0 := by
  by_cases h : 1 ≤ k ∧ k ≤ 19
  · rcases (by omega : k = 1 ∨ k = 2 ∨ k = 3 ∨ k = 4 ∨ k = 5 ∨ k = 6 ∨ k = 7 ∨ k = 8 ∨ k = 9 ∨ k = 10 ∨ k = 11 ∨ k = 12 ∨ k = 13 ∨ k = 14 ∨ k = 15 ∨ k = 16 ∨ k = 17 ∨ k = 18 ∨ k = 19) with h | h | h | h | h | h | h | h | h | h | h | h | h | h | h | h | h | h | h <;> subst h <;> decide
  · unfold signL
    repeat rw [if_neg (by omega)]
    rfl
theorem cnt_ins (x : Xn) (h : x.name.count 10 = 0) : (insT x).count 10 = 0 := by
  unfold insT setT
  (repeat' split) <;> simp [List.count_append, cnt_val, cnt_itoa, cnt_join, cnt_sign, h]
theorem cnt_trm (t : Tm) : (trmT t).count 10 = 0 := by
  unfold trmT
  (repeat' split) <;> simp [List.count_append, cnt_val, cnt_blk]
theorem cnt_insLn (x : Xn) (h : x.name.count 10 = 0) : (insLn x).count 10 = 1 := by
  unfold insLn
  rw [List.count_append, List.count_append, cnt_ins x h]; rfl
theorem cnt_bk (i : Nat) (b : Bk) (h : ∀ x ∈ b.ins, x.name.count 10 = 0) : (bkT i b).count 10 = 2 + b.ins.length := by
  have e : (b.ins.flatMap insLn).count 10 = b.ins.length := by
    generalize b.ins = L at *
    induction L with
    | nil => rfl
    | cons x L ih => rw [List.flatMap_cons, List.count_append, cnt_insLn x (h x (by simp)), ih (fun y hy => h y (List.mem_cons_of_mem _ hy)), List.length_cons]; omega
  unfold bkT
  rw [List.count_append, List.count_append, List.count_append, List.count_append, cnt_blk, e, List.count_append, cnt_trm]
  simp; omega
def bkN (L : List Bk) : Nat := (L.map fun b => 2 + b.ins.length).sum
theorem cnt_bks : ∀ (L : List Bk) (i : Nat), (∀ b ∈ L, ∀ x ∈ b.ins, x.name.count 10 = 0) → (bksT L i).count 10 = bkN L
  | [], _, _ => rfl
  | b :: r, i, h => by
    unfold bksT
    rw [List.count_append, cnt_bk i b (h b (by simp)), cnt_bks r (i + 1) (fun x hx => h x (List.mem_cons_of_mem _ hx))]
    simp [bkN]
theorem cnt_fl (f : Fl) (hn : f.name.count 10 = 0) (h : ∀ b ∈ f.blocks, ∀ x ∈ b.ins, x.name.count 10 = 0) : (flT f).count 10 = 1 + bkN f.blocks := by
  unfold flT flHead
  rw [List.count_append, cnt_bks _ _ h]
  simp [List.count_append, cnt_itoa, hn]
theorem cnt_arr (a : Ar) (h : a.name.count 10 = 0) : (arrT a).count 10 = 1 := by
  unfold arrT
  simp [List.count_append, cnt_itoa, h]
def linesN (u : Un) : Nat := u.arrays.length + (u.flows.map fun f => 1 + bkN f.blocks).sum
theorem nm_fit (r : Xn) : (insF r).name.count 10 = 0 := by
  have m0 := pickN_lo r.n 2 (by decide)
  have m1 := pickN_hi r.n 2 (by decide)
  have c0 := pickN_lo r.n 3 (by decide)
  have c1 := pickN_hi r.n 3 (by decide)
  unfold insF
  simp only
  split
  · rcases (by omega : pickN r.n 2 = 0 ∨ pickN r.n 2 = 1) with h | h <;> rw [h] <;> decide
  · split
    · rcases (by omega : pickN r.n 3 = 0 ∨ pickN r.n 3 = 1 ∨ pickN r.n 3 = 2) with h | h | h <;> rw [h] <;> decide
    · rfl
theorem nm_blk (raw : List Bk) (k : Nat) : ∀ b ∈ (flwF raw k).blocks, ∀ x ∈ b.ins, x.name.count 10 = 0 := by
  intro b hb x hx
  obtain ⟨r, _, rfl⟩ := flwF_blk raw k hb
  obtain ⟨y, _, rfl⟩ := List.mem_map.1 hx
  exact nm_fit y
theorem cnt_flw (raw : List Bk) (k : Nat) (hk : k < 3) : (flT (flwF raw k)).count 10 = 1 + bkN (flwF raw k).blocks := by
  refine cnt_fl _ ?_ (nm_blk raw k)
  rcases (by omega : k = 0 ∨ k = 1 ∨ k = 2) with rfl | rfl | rfl <;> rfl
/-- The text of a raw unit has as many lines as it has parts. -/
theorem cnt_fit (raw : List Bk) : (unT (fitU raw)).count 10 = linesN (fitU raw) := by
  have e1 : unT (fitU raw) = arrsAB.flatMap arrT ++ (flT (flwF raw 0) ++ (flT (flwF raw 1) ++ (flT (flwF raw 2) ++ []))) := rfl
  have e2 : (arrsAB.flatMap arrT).count 10 = 2 := by
    show (arrT ⟨[97], 4⟩ ++ (arrT ⟨[98], 10⟩ ++ [])).count 10 = 2
    rw [List.count_append, List.count_append, cnt_arr _ (by decide), cnt_arr _ (by decide)]; rfl
  rw [e1]
  simp only [List.count_append]
  rw [e2, cnt_flw raw 0 (by decide), cnt_flw raw 1 (by decide), cnt_flw raw 2 (by decide)]
  show _ = 2 + ((1 + bkN (flwF raw 0).blocks) + ((1 + bkN (flwF raw 1).blocks) + ((1 + bkN (flwF raw 2).blocks) + 0)))
  simp
theorem bks_end : ∀ (L : List Bk) (i : Nat), L ≠ [] → ∃ t, bksT L i = t ++ [10]
  | [], _, h => absurd rfl h
  | [b], i, _ => ⟨blkT i ++ [58, 10] ++ b.ins.flatMap insLn ++ ([9] ++ trmT b.term), by show bkT i b ++ [] = _; unfold bkT; simp⟩
  | b :: c :: r, i, _ => by
    obtain ⟨t, h⟩ := bks_end (c :: r) (i + 1) (by simp)
    refine ⟨bkT i b ++ t, ?_⟩
    show bkT i b ++ bksT (c :: r) (i + 1) = _
    rw [h, List.append_assoc]
theorem fit_end (raw : List Bk) : ∃ t, unT (fitU raw) = t ++ [10] := by
  obtain ⟨t, h⟩ := bks_end (flwF raw 2).blocks 0 (fun e => by have := bksOf_len raw 2; rw [← flwF_len, e] at this; simp at this)
  refine ⟨arrsAB.flatMap arrT ++ (flT (flwF raw 0) ++ (flT (flwF raw 1) ++ (flHead (flwF raw 2) ++ t))), ?_⟩
  show arrsAB.flatMap arrT ++ (flT (flwF raw 0) ++ (flT (flwF raw 1) ++ ((flHead (flwF raw 2) ++ bksT (flwF raw 2).blocks 0) ++ []))) = _
  rw [h]
  simp
end Go.Proofs.YtafapkljlajflaaDoor
