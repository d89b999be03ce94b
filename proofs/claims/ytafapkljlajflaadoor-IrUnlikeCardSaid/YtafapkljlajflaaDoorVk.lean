/- Fit's units may be printed: plain. -/
import Derived.Test.YtafapkljlajflaaDoorVj
import Derived.Test.YtafapkljlajflaaDoorVf
import Derived.Test.YtafapkljlajflaaDoorUc
namespace Go.Proofs.YtafapkljlajflaaDoor
open Go.RowKit
set_option linter.unusedVariables false
theorem pick64 (c n : Int) (h0 : 0 < n) (h : n ≤ 1000) : I64 (pickN c n) := by
  have h1 := pickN_lo c n h0
  have h2 := pickN_hi c n h0
  exact ⟨by omega, by omega⟩
theorem zero64 : I64 0 := ⟨by decide, by decide⟩
theorem ins_okF (r : Xn) (h : I64 r.n) : InsOk (insF r) := by
  have k0 := pickN_lo r.kind 9 (by decide)
  have k1 := pickN_hi r.kind 9 (by decide)
  have c0 := pickN_lo r.n 3 (by decide)
  have c1 := pickN_hi r.n 3 (by decide)
  refine ⟨?_, ?_, ⟨?_, ?_, ?_, ?_⟩, ?_, ?_, ?_⟩
  · show 1 ≤ 1 + pickN r.kind 9; omega
  · show 1 + pickN r.kind 9 ≤ 9; omega
  · show I64 (if _ then _ else _)
    split
    · exact pick64 _ _ (by decide) (by decide)
    · exact zero64
  · show I64 (if _ then _ else _)
    split
    · exact pick64 _ _ (by decide) (by decide)
    · exact zero64
  · show I64 (if _ then _ else _)
    split
    · exact pick64 _ _ (by decide) (by decide)
    · exact zero64
  · show I64 (if _ then _ else _)
    split
    · exact h
    · exact zero64
  · have := nm_short r; omega
  · show (if _ then _ else _ : List Int).length ≤ 6
    split
    · rw [argsOf_len]; omega
    · simp
  · intro a ha
    have ha : a ∈ (if 1 + pickN r.kind 9 = 9 then argsOf (pickN r.n 3).toNat r.a r.b else []) := ha
    split at ha
    · obtain ⟨i, _, rfl⟩ := List.mem_map.1 ha
      exact pick64 _ _ (by decide) (by decide)
    · cases ha
theorem trm_okF (t : Tm) (n : Int) (h0 : 0 < n) (h : n ≤ 1000) : TrmOk (trmF t n) := by
  have k0 := pickN_lo t.kind 4 (by decide)
  have k1 := pickN_hi t.kind 4 (by decide)
  refine ⟨?_, ?_, ?_, ?_, ?_, ?_⟩
  · show 1 ≤ 1 + pickN t.kind 4; omega
  · show 1 + pickN t.kind 4 ≤ 4; omega
  · show I64 (1 + pickN t.kind 4)
    exact ⟨by omega, by omega⟩
  · show I64 (if _ then _ else _)
    split
    · exact pick64 _ _ (by decide) (by decide)
    · exact zero64
  · show I64 (if _ then _ else _)
    split
    · exact pick64 _ _ h0 h
    · exact zero64
  · show I64 (if _ then _ else _)
    split
    · exact pick64 _ _ h0 h
    · exact zero64
theorem bksOf_raw (raw : List Bk) (k : Nat) : ∀ b ∈ bksOf raw k, b = zeroK ∨ b ∈ raw := by
  intro b hb
  unfold bksOf at hb
  split at hb
  · exact .inl (List.mem_singleton.1 hb)
  · obtain ⟨t, _, rfl⟩ := List.mem_map.1 hb
    rcases Nat.lt_or_ge (k + 3 * t) raw.length with h | h
    · right
      rw [List.getD_eq_getElem?_getD, List.getElem?_eq_getElem h]
      exact List.getElem_mem h
    · left
      rw [List.getD_eq_getElem?_getD, List.getElem?_eq_none h]
      rfl
theorem blk_okF (raw : List Bk) (hr : ∀ b ∈ raw, AllK b) (k : Nat) : ∀ b ∈ (flwF raw k).blocks, (∀ x ∈ b.ins, InsOk x) ∧ TrmOk b.term := by
  intro b hb
  obtain ⟨r, h1, rfl⟩ := flwF_blk raw k hb
  refine ⟨fun x hx => ?_, ?_⟩
  · obtain ⟨y, hy, rfl⟩ := List.mem_map.1 hx
    have hy := List.mem_of_mem_take hy
    refine ins_okF y ?_
    rcases bksOf_raw raw k r h1 with rfl | h2
    · cases hy
    · exact ((hr r h2).1 y hy).2.2.2.2.2
  · have hl : (flwF raw k).blocks.length = (bksOf raw k).length := flwF_len raw k
    have := bksOf_len raw k
    exact trm_okF _ _ (by omega) (by omega)
theorem joinV_cons_le (l : List Int) (h : ∀ a ∈ l, I64 a) (h6 : l.length ≤ 6) : (joinV l).length ≤ 144 := by
  have := joinV_le l h
  omega
theorem insT_le {x : Xn} (h : InsOk x) : (insT x).length ≤ 300 := by
  have h1 := valT_le h.nums.1
  have h2 := valT_le h.nums.2.1
  have h3 := valT_le h.nums.2.2.1
  have h4 := itoa_le h.nums.2.2.2
  have h5 := signL_le x.op
  have h6 := joinV_cons_le x.args h.an h.ar
  have h7 := h.nm
  have hs : (setT x).length ≤ 25 := by unfold setT; rw [List.length_append]; simp; omega
  unfold insT
  repeat' split
  all_goals (simp only [List.length_append, List.length_cons, List.length_nil]; omega)
theorem trmT_le {t : Tm} (h : TrmOk t) : (trmT t).length ≤ 80 := by
  have h1 := valT_le h.nums.2.1
  have h2 := blkT_le h.nums.2.2.1
  have h3 := blkT_le h.nums.2.2.2
  unfold trmT
  repeat' split
  all_goals (simp only [List.length_append, List.length_cons, List.length_nil]; omega)
theorem insLns_le (L : List Xn) (h : ∀ x ∈ L, InsOk x) : (L.flatMap insLn).length ≤ 302 * L.length := by
  induction L with
  | nil => simp
  | cons x L ih =>
    have h1 := insT_le (h x (by simp))
    have h2 := ih (fun y hy => h y (List.mem_cons_of_mem _ hy))
    rw [List.flatMap_cons, List.length_append, List.length_cons]
    have e : (insLn x).length = 1 + (insT x).length + 1 := by unfold insLn; rw [List.length_append, List.length_append]; rfl
    rw [e]
    omega
theorem bkT_le (i : Nat) (hi : i ≤ 1000000) (b : Bk) (h : (∀ x ∈ b.ins, InsOk x) ∧ TrmOk b.term) : (bkT i b).length ≤ 302 * b.ins.length + 106 := by
  have h1 := insLns_le b.ins h.1
  have h2 := trmT_le h.2
  have h3 := blkT_le (n := (i : Int)) ⟨by omega, by omega⟩
  unfold bkT
  simp only [List.length_append, List.length_cons, List.length_nil]
  omega
theorem bksT_le (m : Nat) : ∀ (L : List Bk) (i : Nat), i + L.length ≤ 1000000 → (∀ b ∈ L, ((∀ x ∈ b.ins, InsOk x) ∧ TrmOk b.term) ∧ b.ins.length ≤ m) → (bksT L i).length ≤ L.length * (302 * m + 106)
  | [], _, _, _ => by simp [bksT]
  | b :: r, i, hi, h => by
    have h1 := h b (by simp)
    have h2 := bkT_le i (by omega) b h1.1
    have h3 := bksT_le m r (i + 1) (by simp at hi; omega) (fun c hc => h c (List.mem_cons_of_mem _ hc))
    have h4 : 302 * b.ins.length ≤ 302 * m := Nat.mul_le_mul_left _ h1.2
    unfold bksT
    rw [List.length_append, List.length_cons, Nat.succ_mul]
    omega
theorem flT_le (m : Nat) (f : Fl) (h1 : I64 f.params) (h2 : I64 f.values) (h3 : f.name.length ≤ 100) (h4 : f.blocks.length ≤ 1000000) (h : ∀ b ∈ f.blocks, ((∀ x ∈ b.ins, InsOk x) ∧ TrmOk b.term) ∧ b.ins.length ≤ m) : (flT f).length ≤ 200 + f.blocks.length * (302 * m + 106) := by
  have k1 := itoa_le h1
  have k2 := itoa_le h2
  have k3 := bksT_le m f.blocks 0 (by omega) h
  unfold flT flHead
  simp only [List.length_append, List.length_cons, List.length_nil]
  omega
/-- Conditions of Print, of three functions with up to eight blocks. -/
theorem pr_mk (B : Nat → List Bk) (h : ∀ k, (B k).length ≤ 8 ∧ ∀ b ∈ B k, ((∀ x ∈ b.ins, InsOk x) ∧ TrmOk b.term) ∧ b.ins.length ≤ 100) : PrAll (mkU B) := by
  have hf : ∀ f ∈ (mkU B).flows, I64 f.params ∧ I64 f.values ∧ f.name.length ≤ 100 ∧ ∃ k, f.blocks = B k := by
    intro f hf
    have : f = ⟨mainN, 0, 10, B 0⟩ ∨ f = ⟨[102], 1, 10, B 1⟩ ∨ f = ⟨[103], 2, 10, B 2⟩ := by simpa [mkU] using hf
    rcases this with rfl | rfl | rfl
    · exact ⟨i64s 0 (by decide) (by decide), i64s 10 (by decide) (by decide), by show mainN.length ≤ 100; decide, 0, rfl⟩
    · exact ⟨i64s 1 (by decide) (by decide), i64s 10 (by decide) (by decide), by show ([102] : List UInt8).length ≤ 100; decide, 1, rfl⟩
    · exact ⟨i64s 2 (by decide) (by decide), i64s 10 (by decide) (by decide), by show ([103] : List UInt8).length ≤ 100; decide, 2, rfl⟩
  refine ⟨fun a ha => ?_, fun f h1 => ⟨(hf f h1).1, (hf f h1).2.1, (hf f h1).2.2.1⟩, fun f h1 b hb => ?_, fun f h1 => ?_, ?_⟩
  · have : a = ⟨[97], 4⟩ ∨ a = ⟨[98], 10⟩ := by simpa [mkU, arrsAB] using ha
    rcases this with rfl | rfl
    · exact ⟨i64s 4 (by decide) (by decide), by decide⟩
    · exact ⟨i64s 10 (by decide) (by decide), by decide⟩
  · obtain ⟨k, e⟩ := (hf f h1).2.2.2
    rw [e] at hb
    exact ((h k).2 b hb).1
  · obtain ⟨k, e⟩ := (hf f h1).2.2.2
    rw [e]
    have := (h k).1
    omega
  · have fl : ∀ f ∈ (mkU B).flows, (flT f).length ≤ 200 + 8 * (302 * 100 + 106) := by
      intro f h1
      obtain ⟨a1, a2, a3, k, e⟩ := hf f h1
      have h8 := (h k).1
      rw [← e] at h8
      have := flT_le 100 f a1 a2 a3 (by omega) (by rw [e]; exact (h k).2)
      have h9 : f.blocks.length * (302 * 100 + 106) ≤ 8 * (302 * 100 + 106) := Nat.mul_le_mul_right _ h8
      exact Nat.le_trans this (Nat.add_le_add_left h9 _)
    have f0 := fl ⟨mainN, 0, 10, B 0⟩ (by simp [mkU])
    have f1 := fl ⟨[102], 1, 10, B 1⟩ (by simp [mkU])
    have f2 := fl ⟨[103], 2, 10, B 2⟩ (by simp [mkU])
    have e1 : unT (mkU B) = (arrT ⟨[97], 4⟩ ++ (arrT ⟨[98], 10⟩ ++ [])) ++ (flT ⟨mainN, 0, 10, B 0⟩ ++ (flT ⟨[102], 1, 10, B 1⟩ ++ (flT ⟨[103], 2, 10, B 2⟩ ++ []))) := rfl
    have g1 : (arrT ⟨[97], 4⟩).length ≤ 100 := by
      have := itoa_le (i64s 4 (by decide) (by decide))
      unfold arrT
      simp only [List.length_append, List.length_cons, List.length_nil]
      omega
    have g2 : (arrT ⟨[98], 10⟩).length ≤ 100 := by
      have := itoa_le (i64s 10 (by decide) (by decide))
      unfold arrT
      simp only [List.length_append, List.length_cons, List.length_nil]
      omega
    have e2 : (unT (mkU B)).length = ((arrT ⟨[97], 4⟩).length + ((arrT ⟨[98], 10⟩).length + 0)) + ((flT ⟨mainN, 0, 10, B 0⟩).length + ((flT ⟨[102], 1, 10, B 1⟩).length + ((flT ⟨[103], 2, 10, B 2⟩).length + 0))) := by
      rw [e1]
      simp only [List.length_append, List.length_nil]
    generalize (flT ⟨mainN, 0, 10, B 0⟩).length = x0 at *
    generalize (flT ⟨[102], 1, 10, B 1⟩).length = x1 at *
    generalize (flT ⟨[103], 2, 10, B 2⟩).length = x2 at *
    generalize (arrT ⟨[97], 4⟩).length = y0 at *
    generalize (arrT ⟨[98], 10⟩).length = y1 at *
    omega
theorem pr_fit (raw : List Bk) (hr : ∀ b ∈ raw, AllK b) : PrAll (fitU raw) := by
  rw [fit_mkU]
  refine pr_mk _ fun k => ⟨?_, fun b hb => ⟨blk_okF raw hr k b hb, ?_⟩⟩
  · rw [flwF_len]; exact (bksOf_len raw k).2
  · have := (flw_short raw k b hb).1
    omega
theorem un_fit (raw : List Bk) : UnFit (fitU raw) := by
  rw [fit_mkU]
  refine mk_unfit _ fun k => ⟨?_, fun b hb => ?_⟩
  · show (flwF raw k).blocks.length ≤ 8
    rw [flwF_len]; exact (bksOf_len raw k).2
  · have := flw_short raw k b hb
    exact ⟨by have := this.1; omega, this.2⟩
end Go.Proofs.YtafapkljlajflaaDoor
