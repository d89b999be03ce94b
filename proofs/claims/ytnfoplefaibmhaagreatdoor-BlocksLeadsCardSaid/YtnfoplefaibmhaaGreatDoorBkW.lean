/- blocks.Next. -/
import Derived.Test.YtnfoplefaibmhaaGreatDoorRows
import Derived.WalkKit
import Derived.ProofKit
import Derived.OpenShut
import Derived.WalkLawsBesides
import Derived.WalkSpells
import Derived.Outline
import Derived.Handy
import Derived.Lib.Hide
import Derived.Lib.OthersKept
import Derived.KernelRfl
import Derived.Carry
import Derived.OwnWalk
import Derived.RegionTactic
import Derived.BigRegion
import Derived.BigQuiet
import Derived.Deep.QuietTactic
import Derived.Test.YtnfoplefaibmhaaGreatDoorBkD
namespace Go.Proofs.YtnfoplefaibmhaaGreatDoor
open Go.ChangeShapes Go.WideShapes Go.ChangeAt Go.RowKit
set_option linter.unusedVariables false
/-- The blocks in memory, m of them. -/
def SplitAt (w : World) (v : Value) (L : List In) (T : List Int) (m : Nat) : Prop :=
  ∃ p cap, v = .slice p m cap ∧ ∀ i, i < m → ∃ g, p = some ⟨g, 0, none⟩ ∧ w.cell? ⟨g, i * 2, none⟩ = some (.int .i64 (eN L T i : Nat)) ∧ w.cell? ⟨g, i * 2 + 1, none⟩ = some (.int .i64 (eN L T (i + 1) : Nat))
theorem SplitAt.ext {w w' : World} {v : Value} {L : List In} {T : List Int} {m : Nat} (h : SplitAt w v L T m) (g : Below w.heap.size w w') : SplitAt w' v L T m := by
  obtain ⟨p, cap, e, k⟩ := h
  refine ⟨p, cap, e, fun i hi => ?_⟩
  obtain ⟨a, ea, k0, k1⟩ := k i hi
  exact ⟨a, ea, (g.cell (at_lt k0)).trans k0, (g.cell (at_lt k1)).trans k1⟩
theorem row_split {w : World} {base : Nat} {e : TypeId} {v : Value} {n m : Nat} {L : List In} {T : List Int} (h : w.ownsRow base e 2 v n ((splitE L T m).flatMap cellsP)) : SplitAt w v L T m := by
  obtain ⟨_, p, cap, rfl, h3⟩ := row_get lenP (by decide) h
  refine ⟨p, cap, by rw [splitE_len], fun i hi => ?_⟩
  obtain ⟨g, rfl, _, hg⟩ := h3 i (by rw [splitE_len]; exact hi)
  rw [splitE_get] at hg
  exact ⟨g, rfl, hg 0 (by decide), hg 1 (by decide)⟩
def cellsV (c : List Int × Value) : List Value := [c.2]
theorem lenV (c : List Int × Value) : (cellsV c).length = 1 := rfl
theorem infoV : (Tryz.prog.info? 29).map (fun i => (i.zero, i.size, i.bytes)) = some (some (.slice none 0 0), 1, 24) := by kernel_rfl
theorem own_block {w : World} {base : Nat} {e : TypeId} {k : Nat} {v : Value} {n : Nat} {xs : List Value} (h : w.ownsRow base e k v n xs) (hn : 0 < n) : ∃ g cap, v = .slice (some ⟨g, 0, none⟩) n cap ∧ base ≤ g ∧ g < w.heap.size := by
  rcases h.2 with ⟨rfl, hz⟩ | ⟨g, cap, cur, rfl, hb, hg, _⟩
  · omega
  · exact ⟨g, cap, rfl, hb, (Array.getElem?_eq_some_iff.1 hg).1⟩
/-- One element more behind a row of one's own; where the row lies then. -/
theorem app_at {T E : TypeId} {z : Value} {k sz : Nat} (hT : Tryz.prog.underlying T = some (.slice E)) (hinfo : (Tryz.prog.info? E).map (fun i => (i.zero, i.size, i.bytes)) = some (some z, k, sz)) (hz1 : z.cells.size = k) (hk : 0 < k) (hsz : sz ≤ 128)
    {ops : Array Oper} {rest : List Oper} {o : Oper} {a : Act} {Q : Exit → Act → World → Prop} {w : World} (hgd : o.guard = none) (s x : Operand)
    (ho : o.op = .call { callee := .builtin .append, args := #[s, x], argTypes := #[T, T] })
    (base : Nat) (v : Value) (n : Nat) (xs : List Value) (hs : a.eval s = v) (hown : w.ownsRow base E k v n xs)
    (b cap : Nat) (us : List Value) (hlen : us.length = k) (hx : a.eval x = .slice (some ⟨b, 0, none⟩) 1 cap) (hu : w.heap[b]? = some (.cells us.toArray E (0, 0))) (h1 : ∀ u ∈ us, u.oneCell' = true) (n' : Nat) (hn' : n + 1 = n') (hn : n ≤ 1000000) (hbase : base ≤ w.heap.size)
    (h : ∀ g' cap' w', w'.ownsRow base E k (.slice (some ⟨g', 0, none⟩) n' cap') n' (xs ++ us) → w.grownBy w' v.ownBlock → (v.ownBlock = some g' ∨ g' = w.heap.size) → wpList Tryz.prog ops Q rest (a.put o.dst (.slice (some ⟨g', 0, none⟩) n' cap')) w') : wpList Tryz.prog ops Q (o :: rest) a w := by
  subst hn'
  obtain ⟨i0, hi, iz0, iz1, iz2⟩ := info_parts hinfo
  refine wpList_append_own_at w hgd s x T ho base E i0 z k sz hT hi iz0 iz1 iz2 hz1 hk v n xs hs hown ⟨b, 0, none⟩ 1 cap us hx (by omega) ?_ h1 ?_ ?_ hbase fun v' w' k1 k2 _ k3 => ?_
  · intro j u' hj
    have e : w.cell? ⟨b, j, none⟩ = some u' := by
      rw [cell_row hu]
      simpa using hj
    rw [addr_add, Nat.zero_add]
    exact e
  · unfold maxLen; omega
  · have : (n + 1) * sz ≤ 1000001 * 128 := Nat.mul_le_mul (by omega) hsz
    omega
  · obtain ⟨g', cap', rfl, _, _⟩ := own_block k1 (by omega)
    refine h g' cap' w' k1 k2 ?_
    rcases k3 with k3 | k3
    · exact .inl (k3.symm.trans rfl)
    · injection k3 with k3
      exact .inr k3
theorem own_grown {w w' : World} {base : Nat} {e : TypeId} {k : Nat} {v : Value} {n : Nat} {xs : List Value} (h : w.ownsRow base e k v n xs) {r : Option Nat} (g : w.grownBy w' r) (hr : ∀ b, v.ownBlock = some b → r ≠ some b) : w'.ownsRow base e k v n xs := by
  refine ⟨h.1, ?_⟩
  rcases h.2 with h | ⟨g0, cap, cur, rfl, h2, h3, h4⟩
  · exact .inl h
  · exact .inr ⟨g0, cap, cur, rfl, h2, (g.block g0 (Array.getElem?_eq_some_iff.1 h3).1 (fun e => hr g0 rfl e.symm)).trans h3, h4⟩
/-- Rows of numbers in a row, as they are made. -/
structure NxRow (B : Nat) (w : World) (v : Value) (L : List In) (T : List Int) (j : Nat) (M : List (List Int × Value)) : Prop where
  len : M.length = j
  nx : ∀ i c, M[i]? = some c → c.1 = nextI L T i
  own : w.ownsRow B 29 1 v j (M.flatMap cellsV)
  each : ∀ c ∈ M, w.ownsRow B 3 1 c.2 c.1.length (c.1.flatMap cellsN) ∧ ∀ g, c.2.ownBlock = some g → v.ownBlock ≠ some g
theorem NxRow.ext {B : Nat} {w w' : World} {v : Value} {L : List In} {T : List Int} {j : Nat} {M : List (List Int × Value)} (h : NxRow B w v L T j M) (g : Below w.heap.size w w') : NxRow B w' v L T j M :=
  ⟨h.len, h.nx, own_ext h.own g, fun c hc => ⟨own_ext (h.each c hc).1 g, (h.each c hc).2⟩⟩
theorem NxRow.nil (B : Nat) (w : World) (L : List In) (T : List Int) : NxRow B w (.slice none 0 0) L T 0 [] :=
  ⟨rfl, fun i c h => (by cases h), World.ownsRow_nil _ _ _ _, fun c hc => (by cases hc)⟩
theorem NxRow.snoc {B C : Nat} {wr wd w9 : World} {v v8 : Value} {L : List In} {T : List Int} {j g' cap' : Nat} {M : List (List Int × Value)} (h : NxRow B wr v L T j M) (hB : B ≤ wr.heap.size) (g : Below wr.heap.size wr wd) (hC : wr.heap.size ≤ C)
    (h8 : wd.ownsRow C 3 1 v8 (nextI L T j).length ((nextI L T j).flatMap cellsN)) (h9 : w9.ownsRow B 29 1 (.slice (some ⟨g', 0, none⟩) (j + 1) cap') (j + 1) (M.flatMap cellsV ++ [v8])) (hg : wd.grownBy w9 v.ownBlock) (hw : v.ownBlock = some g' ∨ g' = wd.heap.size) :
    NxRow B w9 (.slice (some ⟨g', 0, none⟩) (j + 1) cap') L T (j + 1) (M ++ [(nextI L T j, v8)]) := by
  have hd := h.ext g
  have hlt : ∀ b, v.ownBlock = some b → b < wr.heap.size := fun b hb => (h.own.lt b hb).2
  have hs := g.size
  refine ⟨by rw [List.length_append, h.len]; rfl, fun i c hc => ?_, by rw [List.flatMap_append]; exact h9, fun c hc => ?_⟩
  · rcases Nat.lt_or_ge i M.length with k | k
    · rw [List.getElem?_append_left k] at hc
      exact h.nx i c hc
    · rw [List.getElem?_append_right k] at hc
      have hi : i - M.length = 0 := by
        cases e : i - M.length with
        | zero => rfl
        | succ q => rw [e] at hc; cases hc
      rw [hi] at hc
      cases hc
      have : i = j := by have := h.len; omega
      rw [this]
  · rcases List.mem_append.1 hc with hc | hc
    · obtain ⟨k1, k2⟩ := hd.each c hc
      refine ⟨own_grown k1 hg k2, fun b hb e => ?_⟩
      have eb : b = g' := by injection e with e; exact e.symm
      have hbl := (k1.lt b hb).2
      rcases hw with hw | hw
      · exact k2 b hb (by rw [eb]; exact hw)
      · omega
    · obtain rfl := List.mem_singleton.1 hc
      refine ⟨own_base (own_grown h8 hg (fun b hb e => ?_)) (by omega), fun b hb e => ?_⟩
      · have := (h8.lt b hb).1
        have := hlt b e
        omega
      · have eb : b = g' := by injection e with e; exact e.symm
        have h10 := h8.lt b hb
        rcases hw with hw | hw
        · have := hlt g' hw; omega
        · omega
/-- Where each block leads, in memory. -/
def NextAt (w : World) (v : Value) (L : List In) (T : List Int) (m : Nat) : Prop :=
  ∃ p cap, v = .slice p m cap ∧ ∀ i, i < m → ∃ g, p = some ⟨g, 0, none⟩ ∧ ∃ u, w.cell? ⟨g, i, none⟩ = some u ∧ RowN w u (nextI L T i)
theorem NextAt.ext {w w' : World} {v : Value} {L : List In} {T : List Int} {m : Nat} (h : NextAt w v L T m) (g : Below w.heap.size w w') : NextAt w' v L T m := by
  obtain ⟨p, cap, e, k⟩ := h
  refine ⟨p, cap, e, fun i hi => ?_⟩
  obtain ⟨a, ea, u, k1, k2⟩ := k i hi
  exact ⟨a, ea, u, (g.cell (at_lt k1)).trans k1, k2.ext g⟩
theorem NxRow.done {B : Nat} {w : World} {v : Value} {L : List In} {T : List Int} {m : Nat} {M : List (List Int × Value)} (h : NxRow B w v L T m M) : NextAt w v L T m := by
  obtain ⟨_, p, cap, rfl, h3⟩ := row_get lenV (by decide) h.own
  refine ⟨p, cap, by rw [h.len], fun i hi => ?_⟩
  have hi' : i < M.length := by rw [h.len]; exact hi
  obtain ⟨g, rfl, _, hg⟩ := h3 i hi'
  have e := h.nx i _ (List.getElem?_eq_getElem hi')
  refine ⟨g, rfl, (M[i]'hi').2, ?_, ?_⟩
  · have := hg 0 (by decide)
    rw [Nat.mul_one] at this
    exact this
  · rw [← e]
    exact row_rown (h.each _ (List.getElem_mem hi')).1
theorem NSet.cell_ne {w : World} {b n : Nat} {F : Int → Prop} (h : NSet w b n F) {a : Addr} {v : Value} (hc : w.cell? a = some v) : a.block ≠ b := by
  obtain ⟨D, ⟨es, clock, hb, _⟩, _⟩ := h
  intro e
  rw [← e] at hb
  simp [World.cell?, hb] at hc
/-- 'm[k] = v' in a map's literal. -/
theorem wpN_ins {w : World} {ops : Array Oper} {rest : List Oper} {o : Oper} {a : Act} {Q : Exit → Act → World → Prop} (b n : Nat) (F : Int → Option Int) (hown : NMap w b n F) (hn : n < 140737488355328) (k : Int) (hk : I64 k) (c : Int) (hc : I64 c)
    (hg : o.guard = none) (m x v : Operand) (hop : o.op = Op.insert 56 m x v) (hm : a.eval m = .map (some b)) (hx : a.eval x = .int .i64 k) (hv : a.eval v = .int .i64 c)
    (hK : ∀ w', NMap w' b (n + 1) (putN F k c) → w.grownBy w' (some b) → wpList Tryz.prog ops Q rest (a.put o.dst undef) w') : wpList Tryz.prog ops Q (o :: rest) a w := by
  refine wpList_plain hg fun K' hK' => ?_
  obtain ⟨w', hrun, r1, r2⟩ := nmap_put hown hn k hk c hc
  unfold Oper.wp
  simp [execOp, hop, hm, hx, hv, hrun, Result.andThen]
  exact hK' _ _ (hK w' r1 r2)
theorem nset_made' (w : World) (o : Obj) : NSet ((w.alloc o).alloc (.map #[] 0)) (w.heap.size + 1) 0 (fun _ => False) := by
  have h := nset_made (w.alloc o)
  have e : (w.alloc o).heap.size = w.heap.size + 1 := by simp
  rw [e] at h
  exact h
theorem grown_cell {w w' : World} {r : Option Nat} (g : w.grownBy w' r) {a : Addr} {v : Value} (h : w.cell? a = some v) (hne : r ≠ some a.block) : w'.cell? a = some v := by
  have e := g.block a.block (at_lt h) (fun e => hne e.symm)
  simp only [World.cell?] at h ⊢
  rw [e]
  exact h
set_option maxHeartbeats 2000000 in
set_option maxRecDepth 100000 in
theorem Next_any (pa pl : Option Addr) (na ca nl cl : Nat) (L : List In) (T : List Int) (w : World) (hF : FlatOk (.agg #[.slice pa na ca, .slice pl nl cl]) w L T) (hL : L.length ≤ 40000) (hg : Goes L T) :
    Calls Tryz.prog 10 #[.agg #[.slice pa na ca, .slice pl nl cl]] w fun e w' => (∃ v', e = .returned v' ∧ NextAt w' v' L T (nB L T)) ∧ Below w.heap.size w w' := by
  have HF := Lib.hid hF
  have HG := Lib.hid hg
  have hnb := nB_le L T
  have hmm := @run_makeMap Tryz.prog
  clear hF hg
  go_enter Tryz.func10, Tryz.ntmps10
  go_wp2_with fail
  refine (HF.out _ (ext_alloc (Below.refl _ _) _)).mono ?_; rintro e w1 ⟨⟨p1, c1, p2, c2, rfl, h1, h2⟩, g1⟩
  obtain ⟨c0, c1'⟩ := two_cells ((g1.block w.heap.size (by simp)).trans (heap_new w _))
  have l1 : w.heap.size < w1.heap.size := at_lt c0
  have G1 := Lib.hid (ext_trans (ext_alloc (Below.refl _ _) _) g1)
  have H1 := Lib.hid h1
  have H2 := Lib.hid h2
  clear h1 h2 g1
  go_wp2_with fail
  refine (Split_any pa pl na ca nl cl L T w1 (FlatOk.ext HF.out G1.out) hL HG.out).mono ?_; rintro e w2 ⟨⟨v5, rfl, hrow⟩, g2⟩
  obtain ⟨p5, c5, rfl, hsp⟩ := row_split hrow
  have HSP := Lib.hid hsp
  have HI := Lib.hid (H1.out.ext g2)
  have HT := Lib.hid (H2.out.ext g2)
  have G2 := Lib.hid (ext_trans G1.out g2)
  have n64 : I64 (L.length : Int) := by unfold I64; omega
  have m64 : I64 ((nB L T : Nat) : Int) := by unfold I64; omega
  have HM0 := Lib.hid (nmap_made w2)
  clear hrow hsp g2 c0 c1' H1 H2 G1
  generalize hnn : nB L T = m at *
  have HM := Lib.hid hnn
  clear hnn
  go_wp2_with (refine wpN_ins w2.heap.size 0 (fun _ => none) HM0.out (by decide) (L.length : Int) n64 (m : Int) m64 rfl _ _ _ rfl rfl rfl rfl ?_; intro w3 hm3 hg3)
  have G3 := Lib.hid (below_grown (ext_alloc (Below.refl w2.heap.size w2) _) hg3 (by simp) (fun k hk => by cases hk; exact Nat.le_refl _))
  have HM3 : Hid (NMap w3 w2.heap.size 1 (bmF L T 0)) := Lib.hid (by rw [← HM.out] at hm3; exact hm3)
  clear hm3 hg3 HM0
  go_wp2_with fail
  go_loopw [31] (fun iv wr => ∃ j : Nat, iv = .int .i64 j ∧ j ≤ m ∧ Below w2.heap.size w2 wr ∧ NMap wr w2.heap.size (j + 1) (bmF L T j)) (fun iv wr => m - slotN iv)
  case atStart => exact ⟨0, rfl, Nat.zero_le _, G3.out, HM3.out⟩
  case round =>
    obtain ⟨j, rfl, hj, hb, hm⟩ := hrel
    have HB := Lib.hid hb
    have HX := Lib.hid hm
    have hs : w2.heap.size < wr.heap.size := hm.lt
    clear HM3 G3
    by_cases h : j < m
    · obtain ⟨g, rfl, k0, k1⟩ := HSP.out j h
      have k0 := (hb.cell (at_lt k0)).trans k0
      have k1 := (hb.cell (at_lt k1)).trans k1
      have l0 := at_lt k0
      have e64 : I64 ((eN L T j : Nat) : Int) := by have := HM.out; have := eN_le (L := L) (T := T) (show j ≤ nB L T by omega); unfold I64; omega
      have j64 : I64 (j : Int) := by unfold I64; omega
      have HBM : Hid (bmF L T (j + 1) = putN (bmF L T j) (eN L T j : Int) (j : Int)) := Lib.hid rfl
      clear hb hm
      generalize eN L T j = x at *
      generalize eN L T (j + 1) = y at *
      go_wp2_with (at_mapUpdate; refine wpN_put w2.heap.size (j + 1) (bmF L T j) (HX.out.ext (ext_alloc (Below.refl _ _) _)) (by omega) (x : Int) e64 (j : Int) j64 rfl _ _ _ rfl rfl rfl rfl ?_; intro w4 hm4 hg4)
      go_roundw
      case rel => exact ⟨j + 1, by go_num, by omega, below_grown (ext_alloc HB.out _) hg4 (by simp; omega) (fun k hk => by cases hk; exact Nat.le_refl _), by rw [HBM.out]; exact hm4⟩
      case measure => simp [slotN]; omega
    · obtain rfl : j = m := by omega
      have G5 := Lib.hid (ext_trans G2.out hb)
      have HSP5 : Hid (∀ i, i < j → ∃ g, p5 = some ⟨g, 0, none⟩ ∧ wr.cell? ⟨g, i * 2, none⟩ = some (.int .i64 (eN L T i : Nat)) ∧ wr.cell? ⟨g, i * 2 + 1, none⟩ = some (.int .i64 (eN L T (i + 1) : Nat))) := Lib.hid (fun i hi => by
        obtain ⟨a, e, k0, k1⟩ := HSP.out i hi
        exact ⟨a, e, (hb.cell (at_lt k0)).trans k0, (hb.cell (at_lt k1)).trans k1⟩)
      have HI5 := Lib.hid (HI.out.ext hb)
      have HT5 := Lib.hid (HT.out.ext hb)
      clear hb hm HB HSP HI HT h
      obtain ⟨w5, rfl⟩ : ∃ w5 : World, w5 = wr := ⟨_, rfl⟩
      go_wp2_with fail
      go_loopw [9, 43] (fun ov iv wr => ∃ i M, iv = .int .i64 (i : Nat) ∧ i ≤ j ∧ Below w5.heap.size w5 wr ∧ NxRow w5.heap.size wr ov L T i M) (fun _ iv wr => j - slotN iv)
      case atStart => exact ⟨0, [], rfl, Nat.zero_le _, Below.refl _ _, NxRow.nil _ _ _ _⟩
      case round =>
        obtain ⟨i, M, rfl, hi, hb, hnx⟩ := hrel
        have HB := Lib.hid hb
        have HN := Lib.hid hnx
        have hs5 := hb.size
        obtain ⟨hqn, pv, cv, hv, hqv⟩ := row_get lenV (by decide) hnx.own
        rw [hnx.len] at hv
        subst hv
        clear hqn hqv
        by_cases h : i < j
        · obtain ⟨g, rfl, k0, k1⟩ := HSP5.out i h
          have hin : i < nB L T := by have := HM.out; omega
          obtain ⟨x, t, hx, ht, hle⟩ := leads_at HG.out hin
          obtain ⟨q1, q2, q3⟩ := last_lt hin
          have k0 := (hb.cell (at_lt k0)).trans k0
          have k1 : wr.cell? ⟨g, i * 2 + 1, none⟩ = some (.int .i64 ((lastN L T i : Int) + 1)) := by rw [(hb.cell (at_lt k1)).trans k1, ← q2]; simp
          have l0 := at_lt k0
          have HLD := Lib.hid (fun W (g : Below wr.heap.size wr W) => leads_any _ _ L T (lastN L T i) x t W ((HI5.out.ext hb).ext g) ((HT5.out.ext hb).ext g) hL hx ht)
          rw [← hle] at HLD
          have HLB := Lib.hid (leads_bound HG.out hin)
          have HLL := leads_len HG.out hin
          have HNA := Lib.hid (fun k => NxF_all HG.out hin k)
          have HST := Lib.hid (fun q (hq : q < (leadsI L T i).length) k => NxF_step (L := L) (T := T) (i := i) hq k)
          have HBB := Lib.hid (fun at' => bm_bound (L := L) (T := T) (nB L T) (Nat.le_refl _) at')
          have HZ := Lib.hid (NxF_zero L T i)
          have HNR := Lib.hid (nextI_rising L T i)
          have hlast : lastN L T i < 40000 := by omega
          have HX6 := Lib.hid (fun W (g : Below wr.heap.size wr W) => (HX.out.ext hb).ext g)
          have hml := HX.out.lt
          rw [HM.out] at HST HBB
          clear hx ht hle q1 q2 q3 hb hnx hin
          generalize lastN L T i = last at *
          generalize eN L T i = e0 at *
          generalize leadsI L T i = ld at *
          go_wp2_with fail
          refine (HLD.out _ (ext_alloc (ext_alloc (Below.refl _ _) _) _)).mono ?_; rintro e w6 ⟨⟨v6, rfl, hn6⟩, g6⟩
          have HS6 := Lib.hid ((nset_made' wr _).ext g6)
          have G6 := Lib.hid (ext_trans (ext_alloc (ext_alloc (Below.refl wr.heap.size wr) _) _) g6)
          obtain ⟨hn0, p6, c6, rfl, hc6⟩ := hn6
          have HC6 := Lib.hid hc6
          have HNM6 := Lib.hid (HX6.out _ G6.out)
          have hs6 := G6.out.size
          have hls6 := HS6.out.lt
          clear hn0 hc6 g6 k0 k1 l0 HLD HX6
          obtain ⟨wo, rfl⟩ : ∃ wo : World, wo = wr := ⟨_, rfl⟩
          go_wp2_with fail
          go_loopw [56] (fun qv wr => ∃ q : Nat, qv = .int .i64 q ∧ q ≤ ld.length ∧ w6.grownBy wr (some (wo.heap.size + 1)) ∧ NSet wr (wo.heap.size + 1) q (NxF L T i q)) (fun qv wr => ld.length - slotN qv)
          case atStart => exact ⟨0, rfl, Nat.zero_le _, World.grownBy.refl _ _, HS6.out.to (fun k => (HZ.out k).symm)⟩
          case round =>
            obtain ⟨q, rfl, hq, hg, hs⟩ := hrel
            have HGQ := Lib.hid hg
            have HSQ := Lib.hid hs
            have HNQ := Lib.hid (HNM6.out.same (hg.block w2.heap.size HNM6.out.lt (fun e => by injection e with e; omega)))
            have hgs := hg.size
            by_cases h : q < ld.length
            · obtain ⟨b, rfl, k⟩ := HC6.out q h
              have kq := grown_cell hg k (fun e => by injection e with e; exact HS6.out.cell_ne k e.symm)
              have lq := at_lt kq
              have htb := HLB.out _ (List.getElem_mem h)
              have hbb := HBB.out (ld[q]'h)
              have HSTq := Lib.hid (HST.out q h)
              clear k hg hs
              generalize ld[q]'h = t at *
              have t64 : I64 t := by unfold I64; omega
              have k64 : I64 ((bmF L T j t).getD 0) := by unfold I64; omega
              go_wp2_with (at_lookup; refine wpN_look w2.heap.size (j + 1) (bmF L T j) HNQ.out t t64 rfl _ _ rfl rfl rfl ?_)
              refine (add_any (wo.heap.size + 1) q (NxF L T i q) _ _ HSQ.out (by omega) k64).mono ?_; rintro e w7 ⟨rfl, hs7, hg7⟩
              have HS7 := Lib.hid hs7
              have HG7 := Lib.hid (HGQ.out.trans hg7)
              clear hs7 hg7
              go_wp2_with fail
              go_roundw
              case rel => exact ⟨q + 1, by go_num, by omega, HG7.out, HS7.out.to (fun k => (HSTq.out k).symm)⟩
              case measure => simp [slotN]; omega
            · obtain rfl : q = ld.length := by omega
              have GQ := Lib.hid (below_grown G6.out hg (by omega) (fun k hk => by cases hk; omega))
              clear hg hs
              go_wp2_with fail
              refine (rising_any (wo.heap.size + 1) ld.length (NxF L T i ld.length) (nextI L T i) _ HSQ.out (by omega) HNR.out (fun k => HNA.out k)).mono ?_; rintro e w8 ⟨v8, rfl, hrow8, g8⟩
              obtain ⟨hqn, p8, c8, rfl, hqv⟩ := row_get lenN (by decide) hrow8
              have G8 := Lib.hid (ext_trans GQ.out g8)
              have HR8 := Lib.hid hrow8
              have hq8 := GQ.out.size
              have hs8 := g8.size
              clear hrow8 g8 hqn hqv
              go_wp2_with (at_builtin; refine app_at Tryz.underlying38 infoV rfl (by decide) (by decide) rfl _ _ rfl w5.heap.size _ i (M.flatMap cellsV) rfl (own_ext HN.out.own (ext_alloc G8.out _)) w8.heap.size 1 [.slice p8 (nextI L T i).length c8] rfl rfl (heap_new' _ _ _ (by simp)) (fun u hu => by rw [List.mem_singleton.1 hu]; rfl) (i + 1) rfl (by omega) (by simp; omega) ?_; intro g' cap' w9 hown9 hg9 hw9)
              go_roundw
              case rel => exact ⟨i + 1, M ++ [(nextI L T i, .slice p8 (nextI L T i).length c8)], by go_num, by omega, below_grown (ext_alloc (ext_trans HB.out G8.out) _) hg9 (by simp; omega) (fun k hk => (HN.out.own.lt k hk).1), NxRow.snoc HN.out hs5 (ext_alloc G8.out _) hq8 (own_ext HR8.out (ext_alloc (Below.refl _ _) _)) hown9 hg9 hw9⟩
              case measure => simp [slotN]; omega
        · obtain rfl : i = j := by omega
          clear hb hnx
          go_wp2_with fail
          go_ret
          exact ⟨⟨_, rfl, by rw [HM.out]; exact HN.out.done⟩, ext_trans G5.out HB.out⟩
end Go.Proofs.YtnfoplefaibmhaaGreatDoor
