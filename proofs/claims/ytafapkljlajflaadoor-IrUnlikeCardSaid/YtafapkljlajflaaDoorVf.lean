/- For IrWrong: the unit with a spoiled block, plain and in memory. -/
import Derived.Test.YtafapkljlajflaaDoorRows
import Derived.WalkKit
import Derived.ProofKit
import Derived.OpenShut
import Derived.Lib.Hide
import Derived.Lib.OthersKept
import Derived.OwnWalk
import Derived.ChangeKeysEq
import Derived.Deep.AppendLies
import Derived.Deep.AppendSrc
import Derived.Deep.Upon
import Derived.Test.YtafapkljlajflaaDoorVd
import Derived.Test.YtafapkljlajflaaDoorUd
import Derived.Test.YtafapkljlajflaaDoorUw
namespace Go.Proofs.YtafapkljlajflaaDoor
open Go.ChangeShapes Go.WideShapes Go.ChangeAt Go.RowKit
set_option linter.unusedVariables false
theorem nm_short (r : Xn) : (insF r).name.length ≤ 4 := by
  have m0 := pickN_lo r.n 2 (by decide)
  have m1 := pickN_hi r.n 2 (by decide)
  have c0 := pickN_lo r.n 3 (by decide)
  have c1 := pickN_hi r.n 3 (by decide)
  unfold insF
  simp only
  split
  · rcases (by omega : pickN r.n 2 = 0 ∨ pickN r.n 2 = 1) with h | h <;> rw [h] <;> decide
  · split
    · rcases (by omega : pickN r.n 3 = 0 ∨ pickN r.n 3 = 1 ∨ pickN r.n 3 = 2) with h | h | h <;> rw [h] <;> decide
    · decide
def Short (m : Nat) (b : Bk) : Prop := b.ins.length ≤ m ∧ ∀ x ∈ b.ins, x.name.length ≤ 4
theorem flw_short (raw : List Bk) (k : Nat) : ∀ b ∈ (flwF raw k).blocks, Short 6 b := by
  intro b hb
  obtain ⟨r, _, rfl⟩ := flwF_blk raw k hb
  refine ⟨?_, fun x hx => ?_⟩
  · show ((r.ins.take 6).map insF).length ≤ 6
    rw [List.length_map, List.length_take]; omega
  · obtain ⟨y, _, rfl⟩ := List.mem_map.1 hx
    exact nm_short y
theorem bad_short (w : Nat) (hw : w < 12) (n : Int) : ((badX n).getD w ⟨0, 0, 0, 0, 0, 0, [], []⟩).name.length ≤ 4 := by
  rcases (by omega : w = 0 ∨ w = 1 ∨ w = 2 ∨ w = 3 ∨ w = 4 ∨ w = 5 ∨ w = 6 ∨ w = 7 ∨ w = 8 ∨ w = 9 ∨ w = 10 ∨ w = 11) with rfl | rfl | rfl | rfl | rfl | rfl | rfl | rfl | rfl | rfl | rfl | rfl <;> show List.length _ ≤ 4 <;> simp [badX, mainN]
theorem spoil_short {b : Bk} (h : Short 6 b) (w : Nat) (n : Int) : Short 7 (spoil b w n) := by
  unfold spoil
  by_cases hw : w < 12
  · rw [if_pos hw]
    refine ⟨?_, fun x hx => ?_⟩
    · show (b.ins ++ [_]).length ≤ 7
      rw [List.length_append]
      have := h.1
      simp
      omega
    · rcases List.mem_append.1 hx with hx | hx
      · exact h.2 x hx
      · obtain rfl := List.mem_singleton.1 hx
        exact bad_short w hw n
  · rw [if_neg hw]
    exact ⟨by have := h.1; show b.ins.length ≤ 7; omega, h.2⟩
theorem swap_short (raw : List Bk) (k i : Nat) {b : Bk} (hb : Short 7 b) (j : Nat) : (swapB raw k i b j).length ≤ 8 ∧ ∀ c ∈ swapB raw k i b j, Short 7 c := by
  have h0 : ∀ c ∈ (flwF raw j).blocks, Short 7 c := fun c hc => ⟨by have := (flw_short raw j c hc).1; omega, (flw_short raw j c hc).2⟩
  have h1 : (flwF raw j).blocks.length ≤ 8 := by rw [flwF_len]; exact (bksOf_len raw j).2
  unfold swapB
  split
  · refine ⟨by rw [List.length_set]; exact h1, fun c hc => ?_⟩
    rcases List.mem_or_eq_of_mem_set hc with hc | rfl
    · exact h0 c hc
    · exact hb
  · exact ⟨h1, h0⟩
theorem cnt_short (L : List Bk) (h : L.length ≤ 8 ∧ ∀ c ∈ L, Short 7 c) : cntT L ≤ 4611686018427387904 := by
  unfold cntT
  refine Nat.le_trans (sum_le _ 7 ?_) ?_
  · intro x hx
    obtain ⟨c, hc, rfl⟩ := List.mem_map.1 hx
    exact (h.2 c hc).1
  · rw [List.length_map]
    have := h.1
    omega
theorem mk_unfit (B : Nat → List Bk) (h : ∀ k, (B k).length ≤ 8 ∧ ∀ c ∈ B k, Short 7 c) : UnFit (mkU B) := by
  have hf : ∀ f ∈ (mkU B).flows, f.name.length ≤ 4 ∧ ∃ k, f.blocks = B k := by
    intro f hf
    have : f = ⟨mainN, 0, 10, B 0⟩ ∨ f = ⟨[102], 1, 10, B 1⟩ ∨ f = ⟨[103], 2, 10, B 2⟩ := by simpa [mkU] using hf
    rcases this with rfl | rfl | rfl
    · exact ⟨by show mainN.length ≤ 4; decide, 0, rfl⟩
    · exact ⟨by show ([102] : List UInt8).length ≤ 4; decide, 1, rfl⟩
    · exact ⟨by show ([103] : List UInt8).length ≤ 4; decide, 2, rfl⟩
  refine ⟨⟨?_, ?_, fun a ha => ?_, fun f h1 => ?_⟩, fun f h1 => ?_, fun f h1 b hb x hx => ?_⟩
  · show 2 ≤ 1000000; decide
  · show 3 ≤ 1000000; decide
  · have : a = ⟨[97], 4⟩ ∨ a = ⟨[98], 10⟩ := by simpa [mkU, arrsAB] using ha
    rcases this with rfl | rfl <;> decide
  · have := (hf f h1).1; omega
  · obtain ⟨k, e⟩ := (hf f h1).2
    rw [e]
    exact cnt_short _ (h k)
  · obtain ⟨k, e⟩ := (hf f h1).2
    rw [e] at hb
    have := ((h k).2 b hb).2 x hx
    omega
theorem swap_fit (raw : List Bk) (k i : Nat) {b : Bk} (hb : b ∈ (flwF raw k).blocks) (w : Nat) (n : Int) : UnFit (mkU (swapB raw k i (spoil b w n))) :=
  mk_unfit _ fun j => swap_short raw k i (spoil_short (flw_short raw k b hb) w n) j
theorem ars_two {w : World} {g : Nat} (h : w.heap[g]? = some (.cells arB 60 (0, 0))) : ArsAt (fun k => k < w.heap.size) w (.slice (some ⟨g, 0, none⟩) 2 2) arrsAB := by
  refine ⟨by decide, _, _, rfl, fun i hi => ⟨_, rfl, (Array.getElem?_eq_some_iff.1 h).1, ?_⟩⟩
  have hi2 : i < 2 := hi
  rw [addr_add, Nat.zero_add]
  rcases (by omega : i = 0 ∨ i = 1) with rfl | rfl
  · exact ⟨cell_row h 0, cell_row h 1⟩
  · exact ⟨cell_row h 2, cell_row h 3⟩
theorem fit_set (raw : List Bk) (k i : Nat) (b : Bk) (hk : k < 3) : (fitU raw).flows.set k ⟨(flwF raw k).name, (flwF raw k).params, (flwF raw k).values, (flwF raw k).blocks.set i b⟩ = (mkU (swapB raw k i b)).flows := by
  rcases (by omega : k = 0 ∨ k = 1 ∨ k = 2) with rfl | rfl | rfl <;> rfl
/-- The unit with one block swapped, in memory. -/
theorem un_swapped {w : World} {raw : List Bk} {P : List (Fl × Value)} {g base i k : Nat} {vf vb : Value} {b : Bk} (hk : k < 3) (hP : P.map (·.1) = (fitU raw).flows)
    (har : w.heap[g]? = some (.cells arB 60 (0, 0)))
    (hrow : w.ownsRow base 45 4 vf 3 ((P.set k (⟨(flwF raw k).name, (flwF raw k).params, (flwF raw k).values, (flwF raw k).blocks.set i b⟩, vb)).flatMap cellsF))
    (hin : ∀ c ∈ P, BksAt (fun _ => True) w c.2 c.1.blocks) (hvb : BksAt (fun _ => True) w vb ((flwF raw k).blocks.set i b)) :
    UnAt (fun k => k < w.heap.size) w (.agg #[.slice (some ⟨g, 0, none⟩) 2 2, vf]) (mkU (swapB raw k i b)) := by
  refine ⟨_, _, rfl, ars_two har, ?_⟩
  have hl : P.length = 3 := by have := congrArg List.length hP; simpa [fitU] using this
  have h1 := row_fls (A := fun k => k < w.heap.size) hrow (by rw [List.length_set]; omega) (fun g hg => (hrow.lt g hg).2) (fun c hc => by
    rcases List.mem_or_eq_of_mem_set hc with hc | rfl
    · exact bks_wide (fun b hb => hb.2) (bks_lt (hin c hc))
    · exact bks_wide (fun b hb => hb.2) (bks_lt hvb))
  rw [List.map_set, hP] at h1
  rw [← fit_set raw k i b hk]
  exact h1
/-- A row appended to nil, at a step of a region that draws its order; nothing may be appended, too. -/
theorem step_app_row {T E : TypeId} {z : Value} {k sz : Nat} (hT : Tryd.prog.underlying T = some (.slice E)) (hinfo : (Tryd.prog.info? E).map (fun i => (i.zero, i.size, i.bytes)) = some (some z, k, sz)) (hz1 : z.cells.size = k) (hk : 0 < k) (hsz : sz ≤ 128)
    {ops : Array Oper} {o : Oper} {a : Act} {K : Act → World → Prop} {Q : Exit → Act → World → Prop} {X : Prop} {w : World} (hgd : o.guard = none) (s x : Operand)
    (ho : o.op = .call { callee := .builtin .append, args := #[s, x], argTypes := #[T, T] })
    (base : Nat) (hs : a.eval s = .slice none 0 0)
    (p : Option Addr) (m cap : Nat) (us : List Value) (hx : a.eval x = .slice p m cap) (hlen : us.length = m * k) (hu : ∀ ad, p = some ad → ∀ j u, us[j]? = some u → w.cell? (ad.add j) = some u) (hp : p = none → m = 0) (h1 : ∀ u ∈ us, u.oneCell' = true) (hm : m ≤ 1000000) (hbase : base ≤ w.heap.size)
    (h : ∀ v' w', w'.ownsRow base E k v' m us → w.grownBy w' none → K (a.put o.dst v') w') :
    if Region.wanted o (yielded ops a.tmps) = true then Oper.wp Tryd.prog o a w K Q else X := by
  have hw : Region.wanted o (yielded ops a.tmps) = true := by simp [Region.wanted, hgd]
  rw [if_pos hw]
  obtain ⟨i0, hi, iz0, iz1, iz2⟩ := info_parts hinfo
  cases p with
  | none =>
    have hm0 := hp rfl
    subst hm0
    have hus : us = [] := List.eq_nil_of_length_eq_zero (by rw [hlen, Nat.zero_mul])
    subst hus
    have hr := run_append_nothing (P := Tryd.prog) w T T o.type E i0 hT hi none 0 0 (Nat.le_refl _) (.slice none 0 cap) (Src.ofNil (P := Tryd.prog) w hT cap)
    unfold Oper.wp execOp
    simp only [ho, resolve, invoke, builtin, Sem.run_bind, Sem.run_pure, Result.andThen_ok, List.map_toArray, List.map_cons, List.map_nil, hs, hx, hr]
    exact h _ _ (World.ownsRow_nil _ _ _ _) (World.grownBy.refl _ _)
  | some ad =>
    obtain ⟨v', w', hr, h2, h3, _, _⟩ := run_append_own_at (P := Tryd.prog) w base T o.type E i0 z k sz hT hi iz0 iz1 iz2 hz1 hk (.slice none 0 0) 0 [] (World.ownsRow_nil _ _ _ _) ad m cap us hlen (hu ad rfl) h1 (by unfold maxLen; omega) (by
      have : (0 + m) * sz ≤ 1000001 * 128 := Nat.mul_le_mul (by omega) hsz
      omega) hbase
    unfold Oper.wp execOp
    simp only [ho, resolve, invoke, builtin, Sem.run_bind, Sem.run_pure, Result.andThen_ok, List.map_toArray, List.map_cons, List.map_nil, hs, hx, hr]
    rw [Nat.zero_add, List.nil_append] at h2
    exact h _ _ h2 h3
/-- A row appended to a row of one's own, at such a step. -/
theorem step_app_own {T E : TypeId} {z : Value} {k sz : Nat} (hT : Tryd.prog.underlying T = some (.slice E)) (hinfo : (Tryd.prog.info? E).map (fun i => (i.zero, i.size, i.bytes)) = some (some z, k, sz)) (hz1 : z.cells.size = k) (hk : 0 < k) (hsz : sz ≤ 128)
    {ops : Array Oper} {o : Oper} {a : Act} {K : Act → World → Prop} {Q : Exit → Act → World → Prop} {X : Prop} {w : World} (hgd : o.guard = none) (s x : Operand)
    (ho : o.op = .call { callee := .builtin .append, args := #[s, x], argTypes := #[T, T] })
    (base : Nat) (v : Value) (n : Nat) (xs : List Value) (hs : a.eval s = v) (hown : w.ownsRow base E k v n xs)
    (ad : Addr) (m cap : Nat) (us : List Value) (hx : a.eval x = .slice (some ad) m cap) (hm0 : 0 < m) (hlen : us.length = m * k) (hu : ∀ j u, us[j]? = some u → w.cell? (ad.add j) = some u) (h1 : ∀ u ∈ us, u.oneCell' = true) (hm : n + m ≤ 1000000) (hbase : base ≤ w.heap.size)
    (h : ∀ g c w', w'.ownsRow base E k (.slice (some ⟨g, 0, none⟩) (n + m) c) (n + m) (xs ++ us) → w.grownBy w' v.ownBlock → K (a.put o.dst (.slice (some ⟨g, 0, none⟩) (n + m) c)) w') :
    if Region.wanted o (yielded ops a.tmps) = true then Oper.wp Tryd.prog o a w K Q else X := by
  obtain ⟨i0, hi, iz0, iz1, iz2⟩ := info_parts hinfo
  exact step_append_lies w hgd s x T ho base E i0 z k sz hT hi iz0 iz1 iz2 hz1 hk v n xs hs hown ad m cap us hx hlen hu h1 hm0 (by unfold maxLen; omega) (by
      have : (n + m) * sz ≤ 1000001 * 128 := Nat.mul_le_mul (by omega) hsz
      omega) hbase _ rfl fun g c w' h2 h3 _ _ => h g c w' h2 h3
theorem info2 : (Tryd.prog.info? 3).map (fun i => (i.zero, i.size, i.bytes)) = some (some (.int .i64 0), 1, 8) := by kernel_rfl
/-- Two numbers, compared with themselves. -/
theorem two_same (a b : Int) (w : World) : (Op.equalIn 10000 52 (.agg #[.int .i64 a, .int .i64 b]) (.agg #[.int .i64 a, .int .i64 b])).run Tryd.prog w = .ok true w := by
  obtain ⟨i0, hi, _, hsz, _⟩ := info_parts info2
  obtain ⟨d, hd⟩ : ∃ d : Nat, 10000 = d + 1 + 1 := ⟨9998, rfl⟩
  rw [hd]
  rw [run_equalIn_array (P := Tryd.prog) (w := w) (d + 1) (t := 52) (e := 3) (n := 2) _ _ Tryd.underlying52 hi]
  have hc : Tryd.prog.cellsOf 3 = 1 := by kernel_rfl
  rw [hc]
  have hr : List.range 2 = [0, 1] := rfl
  rw [hr]
  simp [Op.eqItems, part, sizeOf, typeInfo, hi, hsz, Op.equalIn, run_underlying Tryd.underlying3]
end Go.Proofs.YtafapkljlajflaaDoor
