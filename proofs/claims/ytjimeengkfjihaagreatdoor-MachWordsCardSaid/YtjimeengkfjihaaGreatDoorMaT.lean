/- The machine: move, back, call. -/
import Derived.Test.YtjimeengkfjihaaGreatDoorRows
import Derived.WalkKit
import Derived.ProofKit
import Derived.OpenShut
import Derived.WalkLawsBesides
import Derived.WalkSpells
import Derived.Outline
import Derived.Handy
import Derived.Lib.Hide
import Derived.Lib.OthersKept
import Derived.KernelRfl
import Derived.Carry
import Derived.IntWalk
import Derived.OwnWalk
import Derived.RegionTactic
import Derived.BigRegion
import Derived.BigQuiet
import Derived.Deep.QuietTactic
import Derived.Deep.RegionHeld3
import Derived.Test.YtjimeengkfjihaaGreatDoorMaQ
namespace Go.Proofs.YtjimeengkfjihaaGreatDoor
open Go.ChangeShapes Go.WideShapes Go.ChangeAt Go.RowKit
set_option linter.unusedVariables false
set_option maxHeartbeats 1000000 in
set_option maxRecDepth 100000 in
theorem move_ld {e : Mw} (ok : e.Ok) {m : Mac} {w : World} (h : MSp e m w) (d : Nat) (a b n : Int) (name : List UInt8) (p : Int) (hd : d < 32) (hp : I64 p) : Calls Tryz.prog 43 #[.pointer (some ⟨e.B, 0, none⟩), inV ⟨19, d, a, b, n, name⟩, .int .i64 p] w fun r w' => r = .returned (.tuple #[]) ∧ MS e (moveM e.W m ⟨19, d, a, b, n, name⟩ p) w' := by
  have HF := Lib.hid (fun w' (g : Below w.heap.size w w') => fault_m ok (h.ms.ext g))
  have HN := Lib.hid (fun w' => number_m e.W p w' ok.good.words.1 ok.good.words.2 hp)
  obtain ⟨pi, ci, po, co, nm, h, _, _⟩ := h
  have c3 := h.c0.2.2.2
  have hl := h.lt
  by_cases hw : wordN e.W p < 0
  · have HR : Hid (moveM e.W m ⟨19, d, a, b, n, name⟩ p = faultM m) := Lib.hid (by unfold moveM; rw [if_pos hw])
    have HF2 := Lib.hid (HF.out _ (ext_alloc (Below.refl w.heap.size w) (.cells #[.int .i64 19, .int .i64 d, .int .i64 a, .int .i64 b, .int .i64 n, .string (mk name)] 39)))
    clear h HF ok
    unfold inV
    go_enter Tryz.func43, Tryz.ntmps43
    go_wp2_with (go_at_call 38; refine (HN.out _).mono ?_; rintro r w' ⟨rfl, rfl⟩)
    refine HF2.out.mono ?_; rintro r w' ⟨rfl, g⟩
    have G := Lib.hid g
    clear g
    go_wp2
    go_end0
    exact ⟨rfl, by rw [HR.out]; exact G.out⟩
  · have HR : Hid (MS e (moveM e.W m ⟨19, d, a, b, n, name⟩ p) (w.setCell ⟨e.B, 4 + d, none⟩ (.int .i64 ((m.mem p).getD 0)))) := Lib.hid (by
      unfold moveM
      rw [if_neg hw, if_pos rfl]
      refine ⟨_, _, _, _, _, h.toR ok d hd ?_⟩
      cases k : m.mem p with
      | none => exact i64_0
      | some v => exact h.good.mem _ _ k)
    have c36 := h.mm
    have cr := h.reg d hd
    have f1 := h.fz (4 + d)
    have hlk := nmap_look (h.mem.ext (ext_drew (ext_alloc (Below.refl w.heap.size w) (.cells #[.int .i64 19, .int .i64 d, .int .i64 a, .int .i64 b, .int .i64 n, .string (mk name)] 39)))) p hp
    have hdi : (d : Int) < 32 := by omega
    have hd0 : (0 : Int) ≤ (d : Int) := by omega
    have hml : e.M < w.heap.size := h.mem.lt
    generalize (m.mem p).getD 0 = v at *
    clear h HF ok
    unfold inV
    go_enter Tryz.func43, Tryz.ntmps43
    go_wp2_with (go_at_call 38; refine (HN.out _).mono ?_; rintro r w' ⟨rfl, rfl⟩)
    go_region
    go_wp2
    go_end0
    exact ⟨rfl, HR.out.ext (ext_drew (ext_alloc (Below.refl _ _) _))⟩
/-- What was stored into the machine's memory. -/
theorem MAt.put {e : Mw} (ok : e.Ok) {m : Mac} {pi : Option Addr} {ci : Nat} {po : Option Addr} {co nm : Nat} {w w' : World} (h : MAt e m pi ci po co nm w) {F : Int → Option Int} (hm : NMap w' e.M (nm + 1) F) (hg : w.grownBy w' (some e.M)) (hF : ∀ p v, F p = some v → I64 v) (hnm : nm + 1 ≤ m.steps) : MAt e { m with mem := F } pi ci po co (nm + 1) w' :=
  ⟨(hg.block e.B h.lt (fun k => ok.bm (Option.some.inj k))).trans h.hb, h.fr.grown hg (fun k hk => .inl (.inr (Option.some.inj hk).symm)), hm, hnm, h.ol, h.out.kept hg (.inr (fun k => by
    have := (h.out.lt _ k).1
    have := ok.mb
    have := ok.bs
    omega)), h.ins, h.ic, below_grown h.bel hg h.bel.size (fun k hk => by have := Option.some.inj hk; have := ok.mz; omega), ⟨h.good.regs, hF, h.good.ins, h.good.pc⟩⟩
set_option maxHeartbeats 1000000 in
set_option maxRecDepth 100000 in
theorem move_sd {e : Mw} (ok : e.Ok) {m : Mac} {w : World} (h : MSp e m w) (hs : m.steps ≤ 1000000) (b : Nat) (d a n : Int) (name : List UInt8) (p : Int) (hd : b < 32) (hp : I64 p) : Calls Tryz.prog 43 #[.pointer (some ⟨e.B, 0, none⟩), inV ⟨20, d, a, b, n, name⟩, .int .i64 p] w fun r w' => r = .returned (.tuple #[]) ∧ MS e (moveM e.W m ⟨20, d, a, b, n, name⟩ p) w' := by
  have HF := Lib.hid (fun w' (g : Below w.heap.size w w') => fault_m ok (h.ms.ext g))
  have HN := Lib.hid (fun w' => number_m e.W p w' ok.good.words.1 ok.good.words.2 hp)
  obtain ⟨pi, ci, po, co, nm, h, hnm, _⟩ := h
  have c3 := h.c0.2.2.2
  have hl := h.lt
  by_cases hw : wordN e.W p < 0
  · have HR : Hid (moveM e.W m ⟨20, d, a, b, n, name⟩ p = faultM m) := Lib.hid (by unfold moveM; rw [if_pos hw])
    have HF2 := Lib.hid (HF.out _ (ext_alloc (Below.refl w.heap.size w) (.cells #[.int .i64 20, .int .i64 d, .int .i64 a, .int .i64 b, .int .i64 n, .string (mk name)] 39)))
    clear h HF ok hs hnm
    unfold inV
    go_enter Tryz.func43, Tryz.ntmps43
    go_wp2_with (go_at_call 38; refine (HN.out _).mono ?_; rintro r w' ⟨rfl, rfl⟩)
    refine HF2.out.mono ?_; rintro r w' ⟨rfl, g⟩
    have G := Lib.hid g
    clear g
    go_wp2
    go_end0
    exact ⟨rfl, by rw [HR.out]; exact G.out⟩
  · have hx := h.ext (ext_drew (ext_alloc (Below.refl w.heap.size w) (.cells #[.int .i64 20, .int .i64 d, .int .i64 a, .int .i64 b, .int .i64 n, .string (mk name)] 39)))
    obtain ⟨w2, hput, hm2, hg2⟩ := nmap_put hx.mem (by omega) p hp (getR m (b : Int)) (getR_i64 h.good _)
    have HR : Hid (MS e (moveM e.W m ⟨20, d, a, b, n, name⟩ p) w2) := Lib.hid (by
      unfold moveM
      rw [if_neg hw, if_neg (show ¬ (20 : Int) = 19 by decide)]
      refine ⟨_, _, _, _, _, hx.put ok hm2 hg2 (fun q v hv => ?_) hnm⟩
      unfold putN at hv
      split at hv
      · injection hv with hv; subst hv; exact getR_i64 h.good _
      · exact h.good.mem _ _ hv)
    have c36 := h.mm
    have cr := h.reg b hd
    have hdi : (b : Int) < 32 := by omega
    have hd0 : (0 : Int) ≤ (b : Int) := by omega
    have hml : e.M < w.heap.size := h.mem.lt
    generalize getR m (b : Int) = v at *
    clear h HF ok hx hm2 hg2 hs hnm
    unfold inV
    go_enter Tryz.func43, Tryz.ntmps43
    go_wp2_with (go_at_call 38; refine (HN.out _).mono ?_; rintro r w' ⟨rfl, rfl⟩)
    go_region
    go_wp2
    go_end0
    exact ⟨rfl, HR.out⟩
set_option maxHeartbeats 1000000 in
set_option maxRecDepth 100000 in
theorem back_m {e : Mw} (ok : e.Ok) {m : Mac} {w : World} (h : MS e m w) : Calls Tryz.prog 45 #[.pointer (some ⟨e.B, 0, none⟩)] w fun r w' => r = .returned (.tuple #[]) ∧ MS e (backM e.L m) w' := by
  have HF := Lib.hid (fault_m ok h)
  obtain ⟨pi, ci, po, co, nm, h⟩ := h
  have hl := h.lt
  have c5 : w.cell? ⟨e.B, 5, none⟩ = some (.int .i64 (getR m 1)) := h.reg 1 (by decide)
  have hr := getR_i64 h.good 1
  have c0 := h.c0.1
  have hlen := ok.good.len
  have hrl := h.fr.own ok.rl (fun b hb => ⟨ok.rlS b hb, by have := (ok.rl.lt b hb).1; have := ok.bb; have := ok.mb; unfold Mw.X; omega⟩)
  have HE : Hid (backB e.L (getR m 1) = false → backM e.L m = faultM m) := Lib.hid (fun k => by unfold backM; rw [if_neg (by simp [k])])
  have HT : Hid (backB e.L (getR m 1) = true → ∀ k : Nat, getR m 1 / 4 = (k : Int) → k ≤ e.L.length → MS e (backM e.L m) (w.setCell ⟨e.B, 38, none⟩ (.int .i64 (k : Int)))) := Lib.hid (fun hb k hk hkl => by
    unfold backM
    rw [if_pos hb, hk]
    exact ⟨_, _, _, _, _, h.toPc ok (k := k) hkl⟩)
  have c38 := h.pc
  have f38 := h.fz 38
  clear h ok
  generalize getR m 1 = t at *
  generalize e.L = L at *
  obtain ⟨hr1, hr2⟩ := hr
  by_cases hneg : t < 0
  · have HE2 := Lib.hid (HE.out (by unfold backB; rw [decide_eq_false (by omega)]; rfl))
    clear HE HT
    have hdv : t.tdiv 4 ≤ 0 := by
      have : 0 ≤ (-t).tdiv 4 := Int.tdiv_nonneg (by omega) (by decide)
      rw [Int.neg_tdiv] at this
      omega
    have hdl : -9223372036854775808 ≤ t.tdiv 4 := by
      have h1 : (t.tdiv 4).natAbs ≤ t.natAbs := by rw [Int.natAbs_tdiv]; exact Nat.div_le_self _ _
      omega
    have hw : IntKind.i64.wrap (t.tdiv 4) = t.tdiv 4 := IntWalk.i64_in _ (by omega)
    have hw2 : wrap64 (t.tdiv 4) = t.tdiv 4 := IntWalk.wrap64_in _ (by omega)
    have hd1 : t.tdiv 4 < 1 := by omega
    by_cases h8 : t.tmod 4 = 0
    · have hm2 : (t.tmod 4 == 0) = true := beq_iff_eq.2 h8
      have hm3 : (t.tmod 4 != 0) = false := by simp [h8]
      clear h8 hdv hdl
      go_enter Tryz.func45, Tryz.ntmps45
      go_wp2_with (go_at_call 84; refine HF.out.mono ?_; rintro r w' ⟨rfl, g⟩; have G := Lib.hid g; clear g)
      first | go_end0 | refine bodyPost_ret (results_none rfl _ _ _) rfl ?_
      exact ⟨rfl, by rw [HE2.out]; exact G.out⟩
    · have hm2 : (t.tmod 4 == 0) = false := beq_eq_false_iff_ne.2 h8
      have hm3 : (t.tmod 4 != 0) = true := bne_iff_ne.2 h8
      clear h8 hdv hdl
      go_enter Tryz.func45, Tryz.ntmps45
      go_wp2_with (go_at_call 84; refine HF.out.mono ?_; rintro r w' ⟨rfl, g⟩; have G := Lib.hid g; clear g)
      first | go_end0 | refine bodyPost_ret (results_none rfl _ _ _) rfl ?_
      exact ⟨rfl, by rw [HE2.out]; exact G.out⟩
  · have h0 : 0 ≤ t := by omega
    obtain ⟨k, hk⟩ : ∃ k : Nat, t / 4 = (k : Int) := ⟨(t / 4).toNat, by omega⟩
    by_cases h8 : t % 4 = 0
    · have hm2 : (t % 4 == 0) = true := beq_iff_eq.2 h8
      have hm3 : (t % 4 != 0) = false := by simp [h8]
      by_cases h1 : 1 ≤ k
      · by_cases h2 : k ≤ L.length
        · obtain ⟨q, rfl⟩ : ∃ q, k = q + 1 := ⟨k - 1, by omega⟩
          have hqL : q < L.length := by omega
          obtain ⟨x, hx⟩ : ∃ x, L[q]'hqL = x := ⟨_, rfl⟩
          have hgd : L.getD q zeroI = x := by rw [List.getD_eq_getElem?_getD, List.getElem?_eq_getElem hqL, hx]; rfl
          have hbb : backB L t = decide (x.op = 26) := by
            unfold backB
            rw [decide_eq_true (by omega : t % 4 = 0 ∧ 1 ≤ t / 4 ∧ t / 4 ≤ (L.length : Int)), hk]
            have : ((q + 1 : Nat) : Int).toNat - 1 = q := by omega
            rw [this, hgd, Bool.true_and]
          obtain ⟨_, p', c', hq, hc⟩ := row_get lenI (by decide) hrl
          obtain ⟨g, hg, _, hcg⟩ := hc q hqL
          injection hq with hq1 _ hq2
          rw [hq1, hg] at c0
          rw [hx] at hcg
          have q0 : w.cell? ⟨g, q * 6, none⟩ = some (.int .i64 x.op) := hcg 0 (by decide)
          have hgl : g < w.heap.size := at_lt q0
          have hkq : t / 4 = (q : Int) + 1 := by rw [hk]; rfl
          have hqi : (q : Int) < (L.length : Int) := by omega
          have hqg : decide ((L.length : Int) < (q : Int) + 1) = false := decide_eq_false (by omega)
          have hqg2 : ¬ (L.length : Int) < (q : Int) + 1 := by omega
          have hqo : ¬ (q : Int) + 1 < 1 := by omega
          clear hrl hc hcg hq1 hq2 hg hgd hx h8 hk h1
          by_cases h26 : x.op = 26
          · have HT2 := Lib.hid (HT.out (by rw [hbb]; exact decide_eq_true h26) (q + 1) (by rw [hkq]; rfl) (by omega))
            have h26b : (x.op == 26) = true := beq_iff_eq.2 h26
            have h26c : (x.op != 26) = false := by simp [h26]
            clear HE HT hbb h26
            go_enter Tryz.func45, Tryz.ntmps45
            go_wp2
            go_end0
            exact ⟨rfl, HT2.out⟩
          · have HE2 := Lib.hid (HE.out (by rw [hbb]; exact decide_eq_false h26))
            have h26b : (x.op == 26) = false := beq_eq_false_iff_ne.2 h26
            have h26c : (x.op != 26) = true := bne_iff_ne.2 h26
            clear HE HT hbb h26
            go_enter Tryz.func45, Tryz.ntmps45
            go_wp2_with (go_at_call 84; refine HF.out.mono ?_; rintro r w' ⟨rfl, g⟩; have G := Lib.hid g; clear g)
            first | go_end0 | refine bodyPost_ret (results_none rfl _ _ _) rfl ?_
            exact ⟨rfl, by rw [HE2.out]; exact G.out⟩
        · have HE2 := Lib.hid (HE.out (by unfold backB; rw [decide_eq_false (by omega)]; rfl))
          have hqg : decide ((L.length : Int) < (k : Int)) = true := decide_eq_true (by omega)
          have hqg3 : decide (L.length < k) = true := decide_eq_true (by omega)
          have hqo : ¬ (k : Int) < 1 := by omega
          clear HE HT hrl h8
          go_enter Tryz.func45, Tryz.ntmps45
          go_wp2_with (go_at_call 84; refine HF.out.mono ?_; rintro r w' ⟨rfl, g⟩; have G := Lib.hid g; clear g)
          first | go_end0 | refine bodyPost_ret (results_none rfl _ _ _) rfl ?_
          exact ⟨rfl, by rw [HE2.out]; exact G.out⟩
      · have HE2 := Lib.hid (HE.out (by unfold backB; rw [decide_eq_false (by omega)]; rfl))
        obtain rfl : k = 0 := by omega
        have hk0 : t / 4 = 0 := hk
        clear HE HT hrl h8 h1 hk
        go_enter Tryz.func45, Tryz.ntmps45
        go_wp2_with (go_at_call 84; refine HF.out.mono ?_; rintro r w' ⟨rfl, g⟩; have G := Lib.hid g; clear g)
        first | go_end0 | refine bodyPost_ret (results_none rfl _ _ _) rfl ?_
        exact ⟨rfl, by rw [HE2.out]; exact G.out⟩
    · have HE2 := Lib.hid (HE.out (by unfold backB; rw [decide_eq_false (by omega)]; rfl))
      have hm2 : (t % 4 == 0) = false := beq_eq_false_iff_ne.2 h8
      have hm3 : (t % 4 != 0) = true := bne_iff_ne.2 h8
      clear HE HT hrl h8 hk
      go_enter Tryz.func45, Tryz.ntmps45
      go_wp2_with (go_at_call 84; refine HF.out.mono ?_; rintro r w' ⟨rfl, g⟩; have G := Lib.hid g; clear g)
      first | go_end0 | refine bodyPost_ret (results_none rfl _ _ _) rfl ?_
      exact ⟨rfl, by rw [HE2.out]; exact G.out⟩
end Go.Proofs.YtjimeengkfjihaaGreatDoor
/- The machine: call. -/
namespace Go.Proofs.YtjimeengkfjihaaGreatDoor
open Go.ChangeShapes Go.WideShapes Go.ChangeAt Go.RowKit
set_option linter.unusedVariables false
theorem map_kept_n {w w' : World} {b n : Nat} {F : Int → Option Int} (h : NMap w b n F) {r : Option Nat} (g : w.grownBy w' r) (hr : r ≠ some b) : NMap w' b n F := h.same (g.block b h.lt (fun e => hr e.symm))
/-- One number more that is told. -/
theorem MAt.push {e : Mw} (ok : e.Ok) {m : Mac} {pi : Option Addr} {ci : Nat} {po : Option Addr} {co nm : Nat} {w w' : World} (h : MAt e m pi ci po co nm w) {n : Int} {p : Option Addr} {cap : Nat}
    (hown : w'.ownsRow e.S 3 1 (.slice p (m.out.length + 1) cap) (m.out.length + 1) (m.out.flatMap cellsN ++ cellsN n)) (hg : w.grownBy w' (Value.ownBlock (.slice po m.out.length co))) (hol : m.out.length + 1 ≤ m.steps) :
    MAt e { m with out := m.out ++ [n] } pi ci p cap nm (w'.setCell ⟨e.B, 41, none⟩ (.slice p (m.out.length + 1) cap)) := by
  have hlt := h.out.lt
  have hb := ok.bb
  have hm := ok.mb
  have hs := ok.bs
  have hB : w'.heap[e.B]? = _ := (hg.block e.B h.lt (fun k => by have := (hlt _ k.symm).1; omega)).trans h.hb
  have hl1 : (m.out ++ [n]).length = m.out.length + 1 := by simp
  have hf1 : (m.out ++ [n]).flatMap cellsN = m.out.flatMap cellsN ++ cellsN n := by simp
  refine ⟨(heap_setCell_same _ _ 41 _ _ _ hB).trans ?_, (h.fr.grown hg (fun k hk => .inr (hlt k hk).1)).set (.inl (.inl rfl)) _, ?_, h.nm, ?_, ?_, h.ins, h.ic, ext_set (below_grown h.bel hg h.bel.size (fun k hk => Nat.le_trans ok.sz (hlt k hk).1)) (by show e.z.heap.size ≤ e.B; exact ok.bz) _, ⟨h.good.regs, h.good.mem, h.good.ins, h.good.pc⟩⟩
  · rw [cellsM_out e _ _ (.slice p (m.out.length + 1) cap) m (m.out ++ [n])]
    show some (Obj.cells (cellsM e _ (.slice p (m.out.length + 1) cap) _).toArray _ _) = some (Obj.cells (cellsM e _ (.slice p (m.out ++ [n]).length cap) _).toArray _ _)
    rw [hl1]
  · exact (map_kept_n h.mem hg (fun k => by have := (hlt _ k).1; omega)).same (heap_setCell_other _ _ _ _ (by show e.M ≠ e.B; exact fun k => ok.bm k.symm))
  · show (m.out ++ [n]).length ≤ m.steps
    rw [hl1]; exact hol
  · show World.ownsRow _ _ _ _ (.slice p (m.out ++ [n]).length cap) (m.out ++ [n]).length ((m.out ++ [n]).flatMap cellsN)
    rw [hl1, hf1]
    exact own_far_m hown (fun k => by have := (hown.lt _ k).1; omega)
set_option maxHeartbeats 1000000 in
set_option maxRecDepth 100000 in
theorem call_m {e : Mw} (ok : e.Ok) {m : Mac} {w : World} (h : MSp e m w) (hs : m.steps ≤ 1000000) : Calls Tryz.prog 46 #[.pointer (some ⟨e.B, 0, none⟩)] w fun r w' => r = .returned (.tuple #[]) ∧ MS e (callM m) w' := by
  have HF := Lib.hid (fault_m ok h.ms)
  have HEN := Lib.hid (end_m ok h.ms (getR m 10))
  have HRD := Lib.hid (fun w' (g : Below w.heap.size w w') => read_m ok (h.ms.ext g))
  obtain ⟨pi, ci, po, co, nm, h, hnm, hol⟩ := h
  have hl := h.lt
  have c14 : w.cell? ⟨e.B, 14, none⟩ = some (.int .i64 (getR m 10)) := h.reg 10 (by decide)
  have c21 : w.cell? ⟨e.B, 21, none⟩ = some (.int .i64 (getR m 17)) := h.reg 17 (by decide)
  have HC : Hid (callM m = if getR m 17 = 1 then { m with out := m.out ++ [getR m 10] } else if getR m 17 = 2 then readM m else if getR m 17 = 3 then { m with stat := 1, code := getR m 10 }
    else if getR m 17 = 4 then endM m (getR m 10) else if getR m 17 = 5 then { m with stat := 5, code := getR m 10 } else faultM m) := Lib.hid rfl
  have H35 : Hid (∀ s, MS e { m with stat := s, code := getR m 10 } ((w.setCell ⟨e.B, 39, none⟩ (.int .i64 s)).setCell ⟨e.B, 40, none⟩ (.int .i64 (getR m 10)))) := Lib.hid (fun s => ⟨_, _, _, _, _, (h.toStat ok s).toCode ok _⟩)
  have H := Lib.hid h
  have c39 := h.stat
  have c40 := h.code
  have c41 := h.outc
  have f39 := h.fz 39
  have f40 := h.fz 40
  have hll : m.out.length ≤ 1000000 := by omega
  have hSw := h.fr.size
  generalize getR m 10 = n at *
  generalize getR m 17 = k at *
  clear h
  by_cases h1 : k = 1
  · subst h1
    have HC1 : Hid (callM m = { m with out := m.out ++ [n] }) := Lib.hid (by rw [HC.out, if_pos rfl])
    clear HC HF HEN HRD H35 c39 c40 f39 f40
    go_enter Tryz.func46, Tryz.ntmps46
    go_wp2_with (at_builtin; refine app_cells Tryz.underlying23 infoN rfl (by decide) (by decide) rfl _ _ rfl e.S _ m.out.length (m.out.flatMap cellsN) rfl (own_ext H.out.out (ext_alloc (Below.refl _ _) _)) w.heap.size 1 (cellsN n) rfl rfl (heap_new _ _) (oneN _) (by omega) (by simp; omega) ?_
                 intro v' w2 hown hg
                 obtain ⟨p, cap, hv⟩ := own_slice hown
                 subst hv
                 have hgx := grown_after hg (ext_alloc (Below.refl w.heap.size w) _)
                 have HP := Lib.hid (H.out.push ok hown hgx hol)
                 have hB2 := (hgx.block e.B hl (fun q => by have := (H.out.out.lt _ q.symm).1; have := ok.bb; have := ok.bs; omega)).trans H.out.hb
                 have f41 := frozen_row hB2 41
                 have c41 : w2.cell? ⟨e.B, 41, none⟩ = some (.slice po m.out.length co) := by rw [cell_row hB2]; exact cellsM_at e _ _ m 5
                 clear hown hg hgx hB2)
    first | go_end0 | refine bodyPost_ret (results_none rfl _ _ _) rfl ?_
    exact ⟨rfl, by rw [HC1.out]; exact ⟨_, _, _, _, _, HP.out⟩⟩
  by_cases h2 : k = 2
  · subst h2
    have HC1 : Hid (callM m = readM m) := Lib.hid (by rw [HC.out, if_neg (by decide), if_pos rfl])
    have HRD2 := Lib.hid (HRD.out _ (ext_drew (Below.refl _ _)))
    have HRE := Lib.hid (readM_eq m)
    have HI64 : Hid (I64 (m.ins.headD (-1))) := Lib.hid (by
      cases q : m.ins with
      | nil => exact ⟨by decide, by decide⟩
      | cons x r => exact H.out.good.ins x (by rw [q]; simp))
    generalize m.ins.headD (-1) = v at *
    clear HC HF HEN HRD H35 c39 c40 f39 f40 h1 H c41 hnm hol
    go_enter Tryz.func46, Tryz.ntmps46
    go_wp2_with fail
    go_region_with ((go_at_call 85; refine HRD2.out.mono ?_; rintro r w2 ⟨rfl, q1, q2, q3, q4, q5, g⟩; have G := Lib.hid (g.toR ok 10 (by decide) HI64.out); have c14 : w2.cell? ⟨e.B, 14, none⟩ = some (.int .i64 (getR { m with ins := m.ins.tail } 10)) := g.reg 10 (by decide); have f14 := g.fz 14; clear g))
    go_wp2
    first | go_end0 | refine bodyPost_ret (results_none rfl _ _ _) rfl ?_
    exact ⟨rfl, by rw [HC1.out, HRE.out]; exact ⟨_, _, _, _, _, G.out⟩⟩
  by_cases h3 : k = 3
  · subst h3
    have HC1 : Hid (callM m = { m with stat := 1, code := n }) := Lib.hid (by rw [HC.out, if_neg (by decide), if_neg (by decide), if_pos rfl])
    have H31 := Lib.hid (H35.out 1)
    clear HC HF HEN HRD H35 h1 h2 H c41
    go_enter Tryz.func46, Tryz.ntmps46
    go_wp2
    first | go_end0 | refine bodyPost_ret (results_none rfl _ _ _) rfl ?_
    exact ⟨rfl, by rw [HC1.out]; exact H31.out⟩
  by_cases h4 : k = 4
  · subst h4
    have HC1 : Hid (callM m = endM m n) := Lib.hid (by rw [HC.out, if_neg (by decide), if_neg (by decide), if_neg (by decide), if_pos rfl])
    clear HC HF HRD H35 h1 h2 h3 H c41
    go_enter Tryz.func46, Tryz.ntmps46
    go_wp2_with (go_at_call 86; refine HEN.out.mono ?_; rintro r w' ⟨rfl, g⟩; have G := Lib.hid g; clear g)
    first | go_end0 | refine bodyPost_ret (results_none rfl _ _ _) rfl ?_
    exact ⟨rfl, by rw [HC1.out]; exact G.out⟩
  by_cases h5 : k = 5
  · subst h5
    have HC1 : Hid (callM m = { m with stat := 5, code := n }) := Lib.hid (by rw [HC.out, if_neg (by decide), if_neg (by decide), if_neg (by decide), if_neg (by decide), if_pos rfl])
    have H31 := Lib.hid (H35.out 5)
    clear HC HF HEN HRD H35 h1 h2 h3 h4 H c41
    go_enter Tryz.func46, Tryz.ntmps46
    go_wp2
    first | go_end0 | refine bodyPost_ret (results_none rfl _ _ _) rfl ?_
    exact ⟨rfl, by rw [HC1.out]; exact H31.out⟩
  have HC1 : Hid (callM m = faultM m) := Lib.hid (by rw [HC.out, if_neg h1, if_neg h2, if_neg h3, if_neg h4, if_neg h5])
  have h1 := not_beq h1
  have h2 := not_beq h2
  have h3 := not_beq h3
  have h4 := not_beq h4
  have h5 := not_beq h5
  clear HC HEN HRD H35 H c41
  go_enter Tryz.func46, Tryz.ntmps46
  go_wp2_with (go_at_call 84; refine HF.out.mono ?_; rintro r w' ⟨rfl, g⟩; have G := Lib.hid g; clear g)
  first | go_end0 | refine bodyPost_ret (results_none rfl _ _ _) rfl ?_
  exact ⟨rfl, by rw [HC1.out]; exact G.out⟩
end Go.Proofs.YtjimeengkfjihaaGreatDoor
/- The machine: one instruction. -/
namespace Go.Proofs.YtjimeengkfjihaaGreatDoor
open Go.ChangeShapes Go.WideShapes Go.ChangeAt Go.RowKit
set_option linter.unusedVariables false
theorem MSp.ext {e : Mw} {m : Mac} {w w' : World} (h : MSp e m w) (g : Below w.heap.size w w') : MSp e m w' := by
  obtain ⟨pi, ci, po, co, nm, h, h1, h2⟩ := h
  exact ⟨pi, ci, po, co, nm, h.ext g, h1, h2⟩
theorem MSp.toPc {e : Mw} (ok : e.Ok) {m : Mac} {w : World} (h : MSp e m w) {k : Nat} (hk : k ≤ e.L.length) : MSp e { m with pc := k } (w.setCell ⟨e.B, 38, none⟩ (.int .i64 (k : Int))) := by
  obtain ⟨pi, ci, po, co, nm, h, h1, h2⟩ := h
  exact ⟨pi, ci, po, co, nm, h.toPc ok hk, h1, h2⟩
theorem six_m {w : World} {b : Nat} {v0 v1 v2 v3 v4 v5 : Value} {t : TypeId} (h : w.heap[b]? = some (.cells #[v0, v1, v2, v3, v4, v5] t (0, 0))) : w.cell? ⟨b, 0, none⟩ = some v0 ∧ w.cell? ⟨b, 1, none⟩ = some v1 ∧ w.cell? ⟨b, 2, none⟩ = some v2 ∧ w.cell? ⟨b, 3, none⟩ = some v3 ∧ w.cell? ⟨b, 4, none⟩ = some v4 ∧ w.cell? ⟨b, 5, none⟩ = some v5 := by
  refine ⟨?_, ?_, ?_, ?_, ?_, ?_⟩ <;> simp [World.cell?, h]
theorem step_else {F : List UInt8 → Option Int} {W : Int} {L : List In} {T : List Int} {m : Mac} {x : In} (h17 : x.op ≠ 17) (h19 : x.op ≠ 19) (h20 : x.op ≠ 20) (h21 : x.op ≠ 21) (h22 : x.op ≠ 22) (h23 : x.op ≠ 23) (h24 : x.op ≠ 24) (h25 : x.op ≠ 25) (h26 : x.op ≠ 26) (h27 : x.op ≠ 27) (h28 : x.op ≠ 28) :
    stepM F W L T m x = setR { m with pc := m.pc + 1 } x.d (madeI x.op x.n (getR m x.a) (getR m x.b)) := by
  unfold stepM
  simp only
  rw [if_neg h17, if_neg (by omega), if_neg h21, if_neg h22, if_neg h23, if_neg h24, if_neg h25, if_neg h26, if_neg h27, if_neg h28]
set_option maxHeartbeats 4000000 in
set_option maxRecDepth 100000 in
theorem step_m {e : Mw} (ok : e.Ok) {m : Mac} {w : World} (h : MSp e m w) (hs : m.steps ≤ 1000000) (hp : m.pc < e.L.length) :
    Calls Tryz.prog 31 #[.pointer (some ⟨e.B, 0, none⟩), inV (e.L.getD m.pc zeroI)] w fun r w' => r = .returned (.tuple #[]) ∧ MS e (stepM e.F e.W e.L e.T m (e.L.getD m.pc zeroI)) w' := by
  have hxm : e.L.getD m.pc zeroI ∈ e.L := by rw [List.getD_eq_getElem?_getD, List.getElem?_eq_getElem hp]; exact List.getElem_mem hp
  have hr := ok.good.right _ hxm
  have hnl := ok.nl _ hxm
  have ht : Hid (21 ≤ (e.L.getD m.pc zeroI).op → (e.L.getD m.pc zeroI).op ≤ 26 → ∃ k : Nat, e.T.getD m.pc 0 = (k : Int) ∧ k ≤ e.L.length) := Lib.hid (by
    have := ok.good.turn _ hp
    rw [List.getD_eq_getElem?_getD, List.getElem?_eq_getElem hp]; exact this)
  obtain ⟨⟨hd0, hd1⟩, ⟨ha0, ha1⟩, ⟨hb0, hb1⟩, ho1, ho2⟩ := right_regs hr.1
  have hn := hr.2
  generalize e.L.getD m.pc zeroI = x at *
  obtain ⟨op, d, a, b, n, name⟩ := x
  simp only at hd0 hd1 ha0 ha1 hb0 hb1 ho1 ho2 hn ht hnl
  obtain ⟨d, rfl⟩ : ∃ k : Nat, d = (k : Int) := ⟨d.toNat, by omega⟩
  obtain ⟨a, rfl⟩ : ∃ k : Nat, a = (k : Int) := ⟨a.toNat, by omega⟩
  obtain ⟨b, rfl⟩ : ∃ k : Nat, b = (k : Int) := ⟨b.toNat, by omega⟩
  have hd : d < 32 := by omega
  have ha : a < 32 := by omega
  have hb : b < 32 := by omega
  have H := Lib.hid h
  obtain ⟨pi, ci, po, co, nm, h, _, _⟩ := h
  have hl := h.lt
  have ca := h.reg a ha
  have cb := h.reg b hb
  have cp := h.pc
  have fp := h.fz 38
  have va64 := Lib.hid (getR_i64 h.good (a : Int))
  have hpl : m.pc ≤ 40000 := by have := ok.good.len; omega
  have HS : Hid (∃ va vb, va = getR m (a : Int) ∧ vb = getR m (b : Int)) := Lib.hid ⟨_, _, rfl, rfl⟩
  obtain ⟨va, hva⟩ : ∃ va, getR m (a : Int) = va := ⟨_, rfl⟩
  obtain ⟨vb, hvb⟩ : ∃ vb, getR m (b : Int) = vb := ⟨_, rfl⟩
  rw [hva] at ca va64
  rw [hvb] at cb
  have HVA := Lib.hid hva
  have HVB := Lib.hid hvb
  have OK := Lib.hid ok
  clear h hr hxm hva hvb HS ok
  unfold inV
  go_enter Tryz.func31, Tryz.ntmps31
  go_wp2_with fail
  go_quiet (fail)
  go_upto_region 3 with (fail)
  obtain ⟨w2, hw2⟩ : ∃ w2, (((w.alloc (.cells #[.int .i64 op, .int .i64 d, .int .i64 a, .int .i64 b, .int .i64 n, .string (mk name)] 39)).drewN nq).setCell ⟨e.B, 38, none⟩ (.int .i64 ((m.pc : Int) + 1))) = w2 := ⟨_, rfl⟩
  rw [hw2]
  have H2 : Hid (MSp e { m with pc := m.pc + 1 } w2) := Lib.hid (by rw [← hw2]; exact (H.out.ext (ext_drewN (ext_alloc (Below.refl _ _) _) _)).toPc OK.out (k := m.pc + 1) hp)
  have hbx : w2.heap[w.heap.size]? = some (.cells #[.int .i64 op, .int .i64 d, .int .i64 a, .int .i64 b, .int .i64 n, .string (mk name)] 39 (0, 0)) := by
    rw [← hw2]
    exact (heap_setCell_other _ _ _ _ (by show w.heap.size ≠ e.B; omega)).trans (heap_new w _)
  obtain ⟨k0, k1, k2, k3, k4, k5⟩ := six_m hbx
  have HBX := Lib.hid hbx
  have zb : w.heap.size < w2.heap.size := (Array.getElem?_eq_some_iff.1 hbx).1
  clear ca cb cp fp hw2 hbx
  by_cases h17 : op = 17
  · subst h17
    obtain ⟨qi, di, qo, do_, mm, g, _, _⟩ := H2.out
    have c2 := g.c0.2.2.1
    have hmp : IMap w2 e.P e.n e.F := OK.out.mp.same (g.fr.block e.P OK.out.pS (fun k => k.elim OK.out.pB OK.out.pM))
    have hlk := imap_look (hmp.ext (ext_drew (Below.refl _ _))) name hnl
    have cr := g.reg d hd
    have fr := g.fz (4 + d)
    have hB2 := g.lt
    have hI : I64 ((e.F name).getD 0) := by
      cases k : e.F name with
      | none => exact i64_0
      | some v => exact OK.out.good.begs _ _ k
    have HR : Hid (MS e (stepM e.F e.W e.L e.T m ⟨17, d, a, b, n, name⟩) (w2.setCell ⟨e.B, 4 + d, none⟩ (.int .i64 ((e.F name).getD 0)))) := Lib.hid ⟨_, _, _, _, _, g.toR OK.out d hd hI⟩
    have hdi : (d : Int) < 32 := by omega
    have hd00 : (0 : Int) ≤ (d : Int) := by omega
    generalize (e.F name).getD 0 = v at *
    clear g hmp hI H2
    go_wp2_with fail
    go_region
    go_wp2
    first | go_end0 | refine bodyPost_ret (results_none rfl _ _ _) rfl ?_
    first | exact ⟨rfl, HR.out.ext (ext_drew (Below.refl _ _))⟩ | exact ⟨rfl, HR.out⟩
  by_cases h19 : op = 19
  · subst h19
    have HM := Lib.hid (move_ld OK.out H2.out d a b n name (wrap64 (va + n)) hd (i64_wrap _))
    unfold inV at HM
    simp only at HM
    have HR : Hid (stepM e.F e.W e.L e.T m ⟨19, d, a, b, n, name⟩ = moveM e.W { m with pc := m.pc + 1 } ⟨19, d, a, b, n, name⟩ (wrap64 (va + n))) := Lib.hid (by rw [← HVA.out]; rfl)
    clear h17 H2
    go_wp2_with fail
    refine HM.out.mono ?_; rintro r w3 ⟨rfl, g⟩
    have G := Lib.hid g
    clear g
    go_wp2
    first | go_end0 | refine bodyPost_ret (results_none rfl _ _ _) rfl ?_
    exact ⟨rfl, by rw [HR.out]; exact G.out⟩
  by_cases h20 : op = 20
  · subst h20
    have HM := Lib.hid (move_sd OK.out H2.out hs b d a n name (wrap64 (va + n)) hb (i64_wrap _))
    unfold inV at HM
    simp only at HM
    have HR : Hid (stepM e.F e.W e.L e.T m ⟨20, d, a, b, n, name⟩ = moveM e.W { m with pc := m.pc + 1 } ⟨20, d, a, b, n, name⟩ (wrap64 (va + n))) := Lib.hid (by rw [← HVA.out]; rfl)
    clear h17 h19 H2
    go_wp2_with fail
    refine HM.out.mono ?_; rintro r w3 ⟨rfl, g⟩
    have G := Lib.hid g
    clear g
    go_wp2
    first | go_end0 | refine bodyPost_ret (results_none rfl _ _ _) rfl ?_
    exact ⟨rfl, by rw [HR.out]; exact G.out⟩
  by_cases h21 : op = 21
  · subst h21
    obtain ⟨k, hk, hkl⟩ := ht.out (by decide) (by decide)
    have HM := Lib.hid (turn_m OK.out H2.out.ms ⟨21, d, a, b, n, name⟩ (va == vb) (Nat.le_add_left 1 _) hk hkl)
    unfold inV at HM
    simp only at HM
    have HR : Hid (stepM e.F e.W e.L e.T m ⟨21, d, a, b, n, name⟩ = turnM e.T { m with pc := m.pc + 1 } (va == vb)) := Lib.hid (by rw [← HVA.out, ← HVB.out]; rfl)
    clear h17 h19 h20 H2 hk hkl
    go_wp2_with fail
    refine HM.out.mono ?_; rintro r w3 ⟨rfl, g⟩
    have G := Lib.hid g
    clear g
    go_wp2
    first | go_end0 | refine bodyPost_ret (results_none rfl _ _ _) rfl ?_
    exact ⟨rfl, by rw [HR.out]; exact G.out⟩
  by_cases h22 : op = 22
  · subst h22
    obtain ⟨k, hk, hkl⟩ := ht.out (by decide) (by decide)
    have HM := Lib.hid (turn_m OK.out H2.out.ms ⟨22, d, a, b, n, name⟩ (va != vb) (Nat.le_add_left 1 _) hk hkl)
    unfold inV at HM
    simp only at HM
    have HR : Hid (stepM e.F e.W e.L e.T m ⟨22, d, a, b, n, name⟩ = turnM e.T { m with pc := m.pc + 1 } (va != vb)) := Lib.hid (by rw [← HVA.out, ← HVB.out]; rfl)
    clear h17 h19 h20 h21 H2 hk hkl
    go_wp2_with fail
    refine HM.out.mono ?_; rintro r w3 ⟨rfl, g⟩
    have G := Lib.hid g
    clear g
    go_wp2
    first | go_end0 | refine bodyPost_ret (results_none rfl _ _ _) rfl ?_
    exact ⟨rfl, by rw [HR.out]; exact G.out⟩
  by_cases h23 : op = 23
  · subst h23
    obtain ⟨k, hk, hkl⟩ := ht.out (by decide) (by decide)
    have HM := Lib.hid (turn_m OK.out H2.out.ms ⟨23, d, a, b, n, name⟩ (decide (va < vb)) (Nat.le_add_left 1 _) hk hkl)
    unfold inV at HM
    simp only at HM
    have HR : Hid (stepM e.F e.W e.L e.T m ⟨23, d, a, b, n, name⟩ = turnM e.T { m with pc := m.pc + 1 } (decide (va < vb))) := Lib.hid (by rw [← HVA.out, ← HVB.out]; rfl)
    clear h17 h19 h20 h21 h22 H2 hk hkl
    go_wp2_with fail
    refine HM.out.mono ?_; rintro r w3 ⟨rfl, g⟩
    have G := Lib.hid g
    clear g
    go_wp2
    first | go_end0 | refine bodyPost_ret (results_none rfl _ _ _) rfl ?_
    exact ⟨rfl, by rw [HR.out]; exact G.out⟩
  by_cases h24 : op = 24
  · subst h24
    obtain ⟨k, hk, hkl⟩ := ht.out (by decide) (by decide)
    have HM := Lib.hid (turn_m OK.out H2.out.ms ⟨24, d, a, b, n, name⟩ (decide (vb ≤ va)) (Nat.le_add_left 1 _) hk hkl)
    unfold inV at HM
    simp only at HM
    have HR : Hid (stepM e.F e.W e.L e.T m ⟨24, d, a, b, n, name⟩ = turnM e.T { m with pc := m.pc + 1 } (decide (vb ≤ va))) := Lib.hid (by rw [← HVA.out, ← HVB.out]; rfl)
    clear h17 h19 h20 h21 h22 h23 H2 hk hkl
    go_wp2_with fail
    refine HM.out.mono ?_; rintro r w3 ⟨rfl, g⟩
    have G := Lib.hid g
    clear g
    go_wp2
    first | go_end0 | refine bodyPost_ret (results_none rfl _ _ _) rfl ?_
    exact ⟨rfl, by rw [HR.out]; exact G.out⟩
  by_cases h25 : op = 25
  · subst h25
    obtain ⟨k, hk, hkl⟩ := ht.out (by decide) (by decide)
    have HM := Lib.hid (turn_m OK.out H2.out.ms ⟨25, d, a, b, n, name⟩ true (Nat.le_add_left 1 _) hk hkl)
    unfold inV at HM
    simp only at HM
    have HR : Hid (stepM e.F e.W e.L e.T m ⟨25, d, a, b, n, name⟩ = turnM e.T { m with pc := m.pc + 1 } true) := Lib.hid (by rfl)
    clear h17 h19 h20 h21 h22 h23 h24 H2 hk hkl
    go_wp2_with fail
    refine HM.out.mono ?_; rintro r w3 ⟨rfl, g⟩
    have G := Lib.hid g
    clear g
    go_wp2
    first | go_end0 | refine bodyPost_ret (results_none rfl _ _ _) rfl ?_
    exact ⟨rfl, by rw [HR.out]; exact G.out⟩
  by_cases h26 : op = 26
  · subst h26
    obtain ⟨k, hk, hkl⟩ := ht.out (by decide) (by decide)
    obtain ⟨qi, di, qo, do_, mm, g, _, _⟩ := H2.out
    have c5 : w2.cell? ⟨e.B, 5, none⟩ = some (.int .i64 (getR { m with pc := m.pc + 1 } 1)) := g.reg 1 (by decide)
    have f5 := g.fz 5
    have c38 : w2.cell? ⟨e.B, 38, none⟩ = some (.int .i64 ((m.pc : Int) + 1)) := g.pc
    have hB2 := g.lt
    have h3 : MS e (setR { m with pc := m.pc + 1 } 1 (4 * ((m.pc : Int) + 1))) (w2.setCell ⟨e.B, 5, none⟩ (.int .i64 (4 * ((m.pc : Int) + 1)))) := ⟨_, _, _, _, _, g.toR OK.out 1 (by decide) (show I64 (4 * ((m.pc : Int) + 1)) by unfold I64; omega)⟩
    have HM := Lib.hid (fun w' (gg : Below (w2.setCell ⟨e.B, 5, none⟩ (.int .i64 (4 * ((m.pc : Int) + 1)))).heap.size (w2.setCell ⟨e.B, 5, none⟩ (.int .i64 (4 * ((m.pc : Int) + 1)))) w') => turn_m OK.out (h3.ext gg) ⟨26, d, a, b, n, name⟩ true (Nat.le_add_left 1 _) hk hkl)
    unfold inV at HM
    simp only at HM
    have HR : Hid (stepM e.F e.W e.L e.T m ⟨26, d, a, b, n, name⟩ = turnM e.T (setR { m with pc := m.pc + 1 } 1 (4 * ((m.pc : Int) + 1))) true) := Lib.hid rfl
    have hw1 : IntKind.i64.wrap (4 * ((m.pc : Int) + 1)) = 4 * ((m.pc : Int) + 1) := IntWalk.i64_in _ (by omega)
    clear h17 h19 h20 h21 h22 h23 h24 h25 H2 hk hkl g h3
    go_wp2_with fail
    go_region
    go_wp2_with fail
    refine (HM.out _ (ext_drew (Below.refl _ _))).mono ?_; rintro r w3 ⟨rfl, g⟩
    have G := Lib.hid g
    clear g
    go_wp2
    first | go_end0 | refine bodyPost_ret (results_none rfl _ _ _) rfl ?_
    exact ⟨rfl, by rw [HR.out]; exact G.out⟩
  by_cases h27 : op = 27
  · subst h27
    have HM := Lib.hid (back_m OK.out H2.out.ms)
    have HR : Hid (stepM e.F e.W e.L e.T m ⟨27, d, a, b, n, name⟩ = backM e.L { m with pc := m.pc + 1 }) := Lib.hid rfl
    clear h17 h19 h20 h21 h22 h23 h24 h25 h26 H2
    go_wp2_with fail
    refine HM.out.mono ?_; rintro r w3 ⟨rfl, g⟩
    have G := Lib.hid g
    clear g
    go_wp2
    first | go_end0 | refine bodyPost_ret (results_none rfl _ _ _) rfl ?_
    exact ⟨rfl, by rw [HR.out]; exact G.out⟩
  by_cases h28 : op = 28
  · subst h28
    have HM := Lib.hid (call_m OK.out H2.out hs)
    have HR : Hid (stepM e.F e.W e.L e.T m ⟨28, d, a, b, n, name⟩ = callM { m with pc := m.pc + 1 }) := Lib.hid rfl
    clear h17 h19 h20 h21 h22 h23 h24 h25 h26 h27 H2
    go_wp2_with fail
    refine HM.out.mono ?_; rintro r w3 ⟨rfl, g⟩
    have G := Lib.hid g
    clear g
    go_wp2
    first | go_end0 | refine bodyPost_ret (results_none rfl _ _ _) rfl ?_
    exact ⟨rfl, by rw [HR.out]; exact G.out⟩
  have HR : Hid (stepM e.F e.W e.L e.T m ⟨op, d, a, b, n, name⟩ = setR { m with pc := m.pc + 1 } d (madeI op n va vb)) := Lib.hid ((step_else h17 h19 h20 h21 h22 h23 h24 h25 h26 h27 h28).trans (by rw [HVA.out, HVB.out]))
  have HM := Lib.hid (fun w' => made_any ⟨op, d, a, b, n, name⟩ va vb w')
  unfold inV at HM
  simp only at HM
  have hI := Lib.hid (i64_made op vb hn va64.out)
  generalize madeI op n va vb = v at *
  have h17 := not_beq h17
  have h19 := not_beq h19
  have h20 := not_beq h20
  have h21 := not_beq h21
  have h22 := not_beq h22
  have h23 := not_beq h23
  have h24 := not_beq h24
  have h25 := not_beq h25
  have h26 := not_beq h26
  have h27 := not_beq h27
  have h28 := not_beq h28
  have hdi : (d : Int) < 32 := by omega
  have hd00 : (0 : Int) ≤ (d : Int) := by omega
  go_wp2_with fail
  go_region_with ((go_at_call 47; refine (HM.out _).mono ?_; rintro r w3 ⟨rfl, g3⟩; have g4 := ext_trans (ext_drew (Below.refl w2.heap.size w2)) g3; obtain ⟨k0, k1, k2, k3, k4, k5⟩ := six_m ((g4.block _ zb).trans HBX.out); obtain ⟨qi, di, qo, do_, mm, g, _, _⟩ := H2.out.ext g4; have cr := g.reg d hd; have fr := g.fz (4 + d); have hB2 := g.lt; have G := Lib.hid (show MS e (setR { m with pc := m.pc + 1 } d v) _ from ⟨_, _, _, _, _, g.toR OK.out d hd hI.out⟩); clear g g3 g4))
  all_goals
    go_wp2
    first | go_end0 | refine bodyPost_ret (results_none rfl _ _ _) rfl ?_
    exact ⟨rfl, by rw [HR.out]; exact G.out⟩
end Go.Proofs.YtjimeengkfjihaaGreatDoor
