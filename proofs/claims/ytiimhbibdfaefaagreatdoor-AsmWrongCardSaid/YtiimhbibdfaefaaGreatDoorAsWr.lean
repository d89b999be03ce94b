/- The walk of AsmWrong. -/
import Derived.Test.YtiimhbibdfaefaaGreatDoorRows
import Derived.WalkKit
import Derived.ProofKit
import Derived.OpenShut
import Derived.WalkLawsBesides
import Derived.WalkSpells
import Derived.Outline
import Derived.Handy
import Derived.Lib.Hide
import Derived.Lib.OthersKept
import Derived.KernelRfl
import Derived.Carry
import Derived.RegionTactic
import Derived.BigRegion
import Derived.BigQuiet
import Derived.Deep.QuietTactic
import Derived.Deep.RegionHeld3
import Derived.Deep.AppendLies
import Derived.Deep.RegionHeldLaw
import Derived.Test.YtiimhbibdfaefaaGreatDoorAsB
import Derived.Test.YtiimhbibdfaefaaGreatDoorAs6
import Derived.Test.YtiimhbibdfaefaaGreatDoorAsP
namespace Go.Proofs.YtiimhbibdfaefaaGreatDoor
open Go.ChangeShapes Go.WideShapes Go.ChangeAt Go.RowKit
set_option linter.unusedVariables false
theorem pick8_any (c n : Int) (w : World) (h1 : I64 c) (h3 : 0 < n) :
    Calls Tryz.prog 12 #[.int .i64 c, .int .i64 n] w fun e w' => e = .returned (.int .i64 (pickN c n)) ∧ w = w' := by
  obtain ⟨h1, h2⟩ := h1
  have hn : (n == 0) = false := by simpa using (show n ≠ 0 by omega)
  by_cases h : c < 0
  · have e : pickN c n = -((c + 1).tmod n) := by rw [pickN, if_pos h, ← Int.neg_tmod, Int.tmod_eq_emod_of_nonneg (by omega)]
    have E := Lib.hid e; clear e
    go_enter Tryz.func12, Tryz.ntmps12
    go_wp2
    go_ret
    exact ⟨by rw [E.out]; rfl, rfl⟩
  · have e : pickN c n = c % n := by simp [pickN, h]
    have E := Lib.hid e; clear e
    go_enter Tryz.func12, Tryz.ntmps12
    go_wp2
    go_ret
    exact ⟨by rw [E.out]; rfl, rfl⟩
/-- At a step of a region: an append of lines, none or more. -/
theorem step_app_lines {ops : Array Oper} {o : Oper} {a : Act} {w : World} {K : Act → World → Prop} {Q : Exit → Act → World → Prop} {E : Prop} (hgd : o.guard = none) (s x : Operand)
    (ho : o.op = .call { callee := .builtin .append, args := #[s, x], argTypes := #[23, 23] })
    (base : Nat) (v : Value) (n : Nat) (X : List Ln) (hs : a.eval s = v) (hown : w.ownsRow base 29 7 v n (X.flatMap cellsL))
    (ad : Addr) (m c : Nat) (L : List Ln) (hx : a.eval x = .slice (some ad) m c) (hL : L.length = m) (hnews : ∀ j u, (L.flatMap cellsL)[j]? = some u → w.cell? (ad.add j) = some u)
    (n' : Nat) (hn' : n + m = n') (hn : n + m ≤ 1000000) (hbase : base ≤ w.heap.size)
    (h : ∀ p cap w', w'.ownsRow base 29 7 (.slice p n' cap) n' ((X ++ L).flatMap cellsL) → w.grownBy w' v.ownBlock → K (a.put o.dst (.slice p n' cap)) w') :
    if Region.wanted o (yielded ops a.tmps) = true then Oper.wp Tryz.prog o a w K Q else E := by
  subst hn'
  have hw : Region.wanted o (yielded ops a.tmps) = true := by simp [Region.wanted, hgd]
  rw [if_pos hw]
  obtain ⟨i0, hi0, hz0, hz1, hz2⟩ := info_parts infoL
  have h1 : ∀ u ∈ L.flatMap cellsL, u.oneCell' = true := by
    intro u hu
    obtain ⟨l, _, hu⟩ := List.mem_flatMap.1 hu
    exact oneL l u hu
  obtain ⟨v', w', hr, k2, k3, _, k5⟩ := run_append_own_at (P := Tryz.prog) w base 23 o.type 29 i0 _ 7 72 Tryz.underlying23 hi0 hz0 hz1 hz2 rfl (by omega) v n (X.flatMap cellsL) hown ad m c (L.flatMap cellsL) (by rw [flat_len cellsL 7 lenL, hL]) hnews h1 (by unfold maxLen; omega) (by omega) hbase
  rw [← List.flatMap_append] at k2
  obtain ⟨p, cap, rfl⟩ := own_slice k2
  unfold Oper.wp execOp
  simp only [ho, resolve, invoke, builtin, Sem.run_bind, Sem.run_pure, Result.andThen_ok, List.map_toArray, List.map_cons, List.map_nil, hs, hx, hr]
  exact h p cap w' k2 k3
/-- The same, of a part that may be empty. -/
theorem step_app_part {ops : Array Oper} {o : Oper} {a : Act} {w : World} {K : Act → World → Prop} {Q : Exit → Act → World → Prop} {E : Prop} (hgd : o.guard = none) (s x : Operand)
    (ho : o.op = .call { callee := .builtin .append, args := #[s, x], argTypes := #[23, 23] })
    (base : Nat) (v : Value) (n : Nat) (X : List Ln) (hs : a.eval s = v) (hown : w.ownsRow base 29 7 v n (X.flatMap cellsL))
    (pp : Option Addr) (m c : Nat) (L : List Ln) (hx : a.eval x = .slice pp m c) (hL : L.length = m) (hp : ∃ ad, pp = some ad ∧ ∀ j u, (L.flatMap cellsL)[j]? = some u → w.cell? (ad.add j) = some u)
    (n' : Nat) (hn' : n + m = n') (hn : n + m ≤ 1000000) (hbase : base ≤ w.heap.size)
    (h : ∀ p cap w', w'.ownsRow base 29 7 (.slice p n' cap) n' ((X ++ L).flatMap cellsL) → w.grownBy w' v.ownBlock → K (a.put o.dst (.slice p n' cap)) w') :
    if Region.wanted o (yielded ops a.tmps) = true then Oper.wp Tryz.prog o a w K Q else E := by
  obtain ⟨ad, rfl, hnews⟩ := hp
  exact step_app_lines hgd s x ho base v n X hs hown ad m c L hx hL hnews n' hn' hn hbase h
theorem fitC_pos (raw : List Ln) (hr : AllRaw raw) : 0 < (fitC raw).lines.length := by
  obtain ⟨hg, _, hne, _⟩ := fit2_good raw hr
  have e : (fitC raw).lines.length = (fit2 (fit1 raw 40)).2.length := by unfold fitC; simp
  rw [e]
  cases hn : (fit2 (fit1 raw 40)).1 with
  | nil => exact absurd hn hne
  | cons s r =>
    have hs := hg.lab s (by rw [hn]; simp)
    have := hg.has s (lab_ne hs)
    rw [hn] at this
    cases hl : (fit2 (fit1 raw 40)).2 with
    | nil => rw [hl] at this; simp [hasLab] at this
    | cons => simp
theorem row_some {w : World} {base : Nat} {e : TypeId} {k n cap : Nat} {p : Option Addr} {xs : List Value} (h : w.ownsRow base e k (.slice p n cap) n xs) (hn : 0 < n) : ∃ g, p = some ⟨g, 0, none⟩ ∧ base ≤ g ∧ g < w.heap.size := by
  obtain ⟨g, c, hv, h1, h2⟩ := h.form hn
  injection hv with hp _ _
  exact ⟨g, hp, h1, h2⟩
theorem row_cap {w : World} {base : Nat} {e : TypeId} {k n cap : Nat} {p : Option Addr} {xs : List Value} (h : w.ownsRow base e k (.slice p n cap) n xs) : n ≤ cap := by
  rcases h.2 with ⟨hv, h0⟩ | ⟨g, c, cur, hv, _, _, hnc, _⟩
  · omega
  · injection hv with _ _ hc
    omega
/-- A part of a row: its cells. -/
theorem part_cells {w : World} {base : Nat} {e : TypeId} {g n cap : Nat} {M : List Ln} (h : w.ownsRow base e 7 (.slice (some ⟨g, 0, none⟩) n cap) n (M.flatMap cellsL)) (i m : Nat) (hi : i + m ≤ M.length) : ∀ j u, (((M.drop i).take m).flatMap cellsL)[j]? = some u → w.cell? ((⟨g, 0, none⟩ : Addr).add (i * 7 + j)) = some u := by
  have hl : ∀ j u, (M.flatMap cellsL)[j]? = some u → w.cell? ((⟨g, 0, none⟩ : Addr).add j) = some u := h.cells (g := g) rfl
  intro j u hj
  refine hl _ _ ?_
  have e : M = M.take i ++ ((M.drop i).take m ++ (M.drop i).drop m) := by rw [List.take_append_drop, List.take_append_drop]
  have hA : ((M.take i).flatMap cellsL).length = i * 7 := by rw [flat_len cellsL 7 lenL, List.length_take]; congr 1; omega
  conv => lhs; rw [e]
  rw [List.flatMap_append, List.flatMap_append, List.getElem?_append_right (by omega), hA]
  have : i * 7 + j - i * 7 = j := by omega
  rw [this, List.getElem?_append_left (List.getElem?_eq_some_iff.1 hj).1]
  exact hj
theorem bad_cells {w : World} {T : Nat} {e : TypeId} (h : w.heap[T]? = some (.cells (badA.flatMap cellsL).toArray e (0, 0))) (q : Nat) (hq : q < 6) :
    w.cell? ⟨T, q * 7, none⟩ = some (.string (mk (badN q).label)) ∧ w.cell? ⟨T, q * 7 + 1, none⟩ = some (.int .i64 (badN q).ins.op) ∧ w.cell? ⟨T, q * 7 + 2, none⟩ = some (.int .i64 (badN q).ins.d) ∧ w.cell? ⟨T, q * 7 + 3, none⟩ = some (.int .i64 (badN q).ins.a) ∧ w.cell? ⟨T, q * 7 + 4, none⟩ = some (.int .i64 (badN q).ins.b) ∧ w.cell? ⟨T, q * 7 + 5, none⟩ = some (.int .i64 (badN q).ins.n) ∧ w.cell? ⟨T, q * 7 + 6, none⟩ = some (.string (mk (badN q).ins.name)) := by
  have hb : badN q = badA[q]'hq := by unfold badN; rw [List.getD_eq_getElem?_getD, List.getElem?_eq_getElem (show q < badA.length from hq)]; rfl
  have key : ∀ t, t < 7 → w.cell? ⟨T, q * 7 + t, none⟩ = (cellsL (badN q))[t]? := by
    intro t ht
    rw [cell_row h, hb, ← flat_get cellsL 7 lenL badA q hq t ht, ← Array.getElem?_toList]
  exact ⟨key 0 (by decide), key 1 (by decide), key 2 (by decide), key 3 (by decide), key 4 (by decide), key 5 (by decide), key 6 (by decide)⟩
theorem one_line (x : Ln) : [x].flatMap cellsL = cellsL x := by simp
theorem insL_lines (c : Cd) (k : Nat) (b : Ln) : (([] ++ (c.lines.drop 0).take k) ++ [b]) ++ (c.lines.drop k).take (c.lines.length - k) = (insL c k b).lines := by
  unfold insL
  rw [List.take_of_length_le (l := c.lines.drop k) (by rw [List.length_drop]; omega)]
  simp
theorem grown_low {B : Nat} {a w w' : World} {r : Option Nat} (h : Below B a w) (hB : B ≤ a.heap.size) (g : w.grownBy w' r) (hr : ∀ k, r = some k → B ≤ k) : Below B a w' := below_grown h g (Nat.le_trans hB h.size) hr
theorem bad_fit : ∀ q : Fin 6, (badN q.val).label.length ≤ 100 ∧ (badN q.val).ins.name.length ≤ 100 := by decide +kernel
theorem insL_fit {c : Cd} (h : CdFit c) (k q : Nat) (hq : q < 6) : CdFit (insL c k (badN q)) := by
  obtain ⟨h1, h2⟩ := bad_fit ⟨q, hq⟩
  refine ⟨fun l hl => ?_, h.2⟩
  unfold insL at hl
  rcases List.mem_append.1 hl with hl | hl
  · exact h.1 l (List.mem_of_mem_take hl)
  · rcases List.mem_cons.1 hl with rfl | hl
    · have h1 : (badN q).label.length ≤ 100 := h1
      have h2 : (badN q).ins.name.length ≤ 100 := h2
      exact ⟨by omega, by omega⟩
    · exact h.1 l (List.mem_of_mem_drop hl)
theorem insL_len (c : Cd) (k : Nat) (b : Ln) (hk : k ≤ c.lines.length) : (insL c k b).lines.length = c.lines.length + 1 := by unfold insL; simp; omega
theorem insL_at {w : World} {B B2 : Nat} {c : Cd} {k : Nat} {b : Ln} {pa pl : Option Addr} {ca cl : Nat} (hk : k ≤ c.lines.length) (hl : c.lines.length ≤ 41) (har : c.arrays = arrsAB) (h1 : w.ownsRow B 53 2 (.slice pa 2 ca) 2 (arrsAB.flatMap cellsA)) (h2 : w.ownsRow B2 29 7 (.slice pl (c.lines.length + 1) cl) (c.lines.length + 1) ((insL c k b).lines.flatMap cellsL)) :
    CdAt w (.agg #[.slice pa 2 ca, .slice pl (c.lines.length + 1) cl]) (insL c k b) := by
  have hn := insL_len c k b hk
  have e : (insL c k b).arrays = arrsAB := har
  refine ⟨_, _, rfl, ?_, row_lns h2 (by omega), by rw [e]; decide, by omega⟩
  rw [e]
  exact row_ars (L := arrsAB) h1 (by decide)
theorem badE_ne (q : Nat) : badE q ≠ 0 := by unfold badE; split <;> decide
theorem own_low {w w' : World} {B base : Nat} {e : TypeId} {k : Nat} {v : Value} {n : Nat} {xs : List Value} (h : w.ownsRow base e k v n xs) (g : Below B w w') (hb : ∀ b, v.ownBlock = some b → b < B) : w'.ownsRow base e k v n xs := by
  refine ⟨h.1, ?_⟩
  rcases h.2 with h | ⟨g0, cap, cur, h1, h2, h3, h4⟩
  · exact .inl h
  · exact .inr ⟨g0, cap, cur, h1, h2, (g.block g0 (hb g0 (by rw [h1]; rfl))).trans h3, h4⟩
theorem wrong_rel {w3 w6 : World} {B : Nat} {va vl : Value} {p : Option Addr} {cap k : Nat} {c : Cd} {b : Ln} (hB : w3.heap[B]? = some (.cells #[va, vl] 25 (0, 0))) (hz : B < w3.heap.size) (gg : Below w3.heap.size w3 w6)
    (h : w6.ownsRow w3.heap.size 29 7 (.slice p (c.lines.length + 1) cap) (c.lines.length + 1) (((([] ++ (c.lines.drop 0).take k) ++ [b]) ++ (c.lines.drop k).take (c.lines.length - k)).flatMap cellsL)) :
    ∃ p2 cap2, (w6.setCell ⟨B, 1, none⟩ (.slice p (c.lines.length + 1) cap)).heap[B]? = some (.cells #[va, .slice p2 (c.lines.length + 1) cap2] 25 (0, 0)) ∧ (w6.setCell ⟨B, 1, none⟩ (.slice p (c.lines.length + 1) cap)).ownsRow w3.heap.size 29 7 (.slice p2 (c.lines.length + 1) cap2) (c.lines.length + 1) ((insL c k b).lines.flatMap cellsL) ∧ Below B w3 (w6.setCell ⟨B, 1, none⟩ (.slice p (c.lines.length + 1) cap)) := by
  rw [insL_lines] at h
  refine ⟨p, cap, ?_, own_set h (by show B < w3.heap.size; exact hz), (gg.mono (Nat.le_of_lt hz)).setCell (by show B ≤ B; omega) _⟩
  exact (heap_setCell_same _ _ 1 _ _ _ ((gg.block _ hz).trans hB)).trans rfl
set_option maxHeartbeats 4000000 in
set_option maxRecDepth 100000 in
theorem wrong_walk (rv : Value) (raw : List Ln) (wh wt : Int) (w : World) (h : LnsAt w rv raw) (hr : AllRaw raw) (hwh : I64 wh) (hwt : I64 wt) (hv : Env w) : Calls Tryz.prog 6 #[rv, .int .i64 wh, .int .i64 wt] w fun e w' => e = .returned (.bool true) ∧ Below w.heap.size w w' := by
  have HR := Lib.hid hr
  have HAW := Lib.hid (awake8_any w hv)
  have HFI := Lib.hid (fun w' (g : Below w.heap.size w w') => lawfit_any rv raw w' (h.ext g) hr)
  have hml := fitC_len raw hr
  have hmp := fitC_pos raw hr
  have HBF := Lib.hid (bad_fault raw hr)
  have HFT0 := Lib.hid (fitC_fit raw hr)
  have HAR : Hid ((fitC raw).arrays = arrsAB) := Lib.hid (fitC_arrs raw)
  obtain ⟨k, hk, hk2⟩ := pickN_nat wh ((fitC raw).lines.length + 1) (by omega)
  obtain ⟨q, hq, hq2⟩ := pickN_nat wt 6 (by decide)
  have P1 : Hid (∀ w, Calls Tryz.prog 12 #[.int .i64 wh, .int .i64 (((fitC raw).lines.length : Int) + 1)] w fun e w' => e = .returned (.int .i64 (k : Int)) ∧ w = w') :=
    Lib.hid (fun w => (pick8_any wh _ w hwh (by omega)).mono fun e w' h => ⟨by rw [← hk]; exact h.1, h.2⟩)
  have P2 : Hid (∀ w, Calls Tryz.prog 12 #[.int .i64 wt, .int .i64 6] w fun e w' => e = .returned (.int .i64 (q : Int)) ∧ w = w') :=
    Lib.hid (fun w => (pick8_any wt 6 w hwt (by decide)).mono fun e w' h => ⟨by rw [← hq]; exact h.1, h.2⟩)
  have HBF2 := Lib.hid (HBF.out k q (by omega) hq2)
  have HFT := Lib.hid (insL_fit HFT0.out k q hq2)
  obtain ⟨hn, p, cap, rfl, _⟩ := h
  have HV := Lib.hid hv
  clear hr hv HR hk hq HBF hwh hwt HFT0
  generalize fitC raw = c at *
  go_enter Tryz.func6, Tryz.ntmps6
  go_wp2_with fail
  refine HAW.out.mono ?_; rintro e w1 ⟨rfl, g1⟩
  have G1 := Lib.hid g1
  clear g1
  go_wp2_with fail
  refine (HFI.out _ G1.out).mono ?_; rintro e w2 ⟨hres, g2⟩
  obtain ⟨pa, ca, pl, cl, rfl, ha, hl⟩ := hres.shape
  have HA := Lib.hid ha
  have HL := Lib.hid hl
  have G2 := Lib.hid (ext_trans G1.out g2)
  clear hres g2 ha hl
  obtain ⟨g, hg, hgb, hgl⟩ := row_some HL.out hmp
  subst hg
  go_wp2_with fail
  refine (P1.out _).mono ?_; rintro e w3 ⟨rfl, rfl⟩
  go_wp2_with fail
  refine (P2.out _).mono ?_; rintro e w3 ⟨rfl, hw3⟩
  have hB0 : w3.heap[w2.heap.size]? = some (.cells #[.slice pa 2 ca, .slice (some ⟨g, 0, none⟩) c.lines.length cl] 25 (0, 0)) := by
    rw [← hw3]; exact (Lib.alloc_old _ _ _ (by simp)).trans (heap_new w2 _)
  have hT0 : w3.heap[w2.heap.size + 1]? = some (.cells (badA.flatMap cellsL).toArray 29 (0, 0)) := by
    rw [← hw3]; exact heap_new' _ _ _ (by simp)
  have HX3 := Lib.hid (show Below w2.heap.size w2 w3 by rw [← hw3]; exact ext_alloc (ext_alloc (Below.refl _ _) _) _)
  have HL3 := Lib.hid (own_ext HL.out HX3.out)
  have HA3 := Lib.hid (own_ext HA.out HX3.out)
  have G3 := Lib.hid (ext_trans G2.out HX3.out)
  have HB3 := Lib.hid hB0
  have HT3 := Lib.hid hT0
  have hz3 : w2.heap.size + 1 < w3.heap.size := (Array.getElem?_eq_some_iff.1 hT0).1
  clear hw3 hB0 hT0
  go_upto_if 43 with (fail)
  go_cut [12] from 20 to 43 (fun a wc => a = .int .i64 (badE q) ∧ wc = w3)
  case first =>
    by_cases hq3 : 3 < q
    · have hq3i : (3 : Int) < (q : Int) := by omega
      have he : badE q = 61 := by unfold badE; rw [if_pos hq3]
      go_wp2_with fail
      go_meet
      case rel => exact ⟨by rw [he], rfl⟩
    · have hq3i : ¬ (3 : Int) < (q : Int) := by omega
      have he : badE q = 60 := by unfold badE; rw [if_neg hq3]
      go_wp2_with fail
      go_meet
      case rel => exact ⟨by rw [he], rfl⟩
  case rest =>
    obtain ⟨rfl, hw⟩ := hcut
    have hw := hw.symm
    subst hw
    have HQ := Lib.hid (fun w' (g : Below w3.heap.size w3 w') => bad_cells ((g.block _ hz3).trans HT3.out) q hq2)
    have HD := Lib.hid (fun w' (g : Below w3.heap.size w3 w') => And.intro (two_cells ((g.block _ (by omega)).trans HB3.out)).2 (two_frozen ((g.block _ (by omega)).trans HB3.out)).2)
    have gg : Below w3.heap.size w3 w3 := Below.refl _ _
    obtain ⟨q0, q1, q2, q3, q4, q5, q6⟩ := HQ.out _ gg
    obtain ⟨c1, f1⟩ := HD.out _ gg
    have z0 : w2.heap.size < w3.heap.size := by omega
    generalize badN q = bl at *
    obtain ⟨lb, ⟨o, d, a, b, n, nm⟩⟩ := bl
    simp only at q0 q1 q2 q3 q4 q5 q6 HQ
    have hcap := row_cap HL3.out
    have hki : (k : Int) ≤ (cl : Int) := by omega
    have hkl : (k : Int) ≤ (c.lines.length : Int) := by omega
    have hqi : (q : Int) < 6 := by omega
    have HP1 : Hid (∀ wx, Below w3.heap.size w3 wx → ∀ j u, (((c.lines.drop 0).take k).flatMap cellsL)[j]? = some u → wx.cell? ((⟨g, 0, none⟩ : Addr).add j) = some u) := Lib.hid (fun wx hx j u hj => by
      have := part_cells (own_ext HL3.out hx) 0 k (by omega) j u hj
      simpa using this)
    have HP3 : Hid (∀ wx, Below w3.heap.size w3 wx → ∀ j u, (((c.lines.drop k).take (c.lines.length - k)).flatMap cellsL)[j]? = some u → wx.cell? ⟨g, k * 7 + j, none⟩ = some u) := Lib.hid (fun wx hx j u hj => by
      have := part_cells (own_ext HL3.out hx) k (c.lines.length - k) (by omega) j u hj
      rw [addr_add, Nat.zero_add] at this
      exact this)
    go_wp2_with fail
    go_cut [44] from 45 to 60 (fun _ wx => ∃ p2 cap2, wx.heap[w2.heap.size]? = some (.cells #[.slice pa 2 ca, .slice p2 (c.lines.length + 1) cap2] 25 (0, 0)) ∧ wx.ownsRow w3.heap.size 29 7 (.slice p2 (c.lines.length + 1) cap2) (c.lines.length + 1) ((insL c k ⟨lb, ⟨o, d, a, b, n, nm⟩⟩).lines.flatMap cellsL) ∧ Below w2.heap.size w3 wx)
    case first =>
      go_region_law ((first
          | (refine step_app_lines (by rfl) _ _ (by rfl) w3.heap.size _ 0 [] (by rfl) (World.ownsRow_nil _ _ _ _) ⟨g, 0, none⟩ k cl ((c.lines.drop 0).take k) (by rfl) (by simp; omega) (HP1.out _ (by first | exact gg | exact ext_drew gg | exact ext_alloc gg _ | exact ext_alloc (ext_drew gg) _)) k (by omega) (by omega) (by simp) ?_; intro p4 cap4 w4 ho4 hg4; have hb4 := (hg4.block _ (by simp) (by simp [Value.ownBlock])).trans (heap_alloc_new _ _); have gg := grown_low (by first | exact gg | exact ext_drew gg | exact ext_alloc gg _ | exact ext_alloc (ext_drew gg) _) (Nat.le_refl _) hg4 (fun k hk => by cases hk); obtain ⟨q0, q1, q2, q3, q4, q5, q6⟩ := HQ.out _ gg; obtain ⟨c1, f1⟩ := HD.out _ gg; have z1 := gg.size; have z1b : w2.heap.size < w4.heap.size := (by omega))
          | (refine step_app_lines (by rfl) _ _ (by rfl) w3.heap.size _ 0 [] (by rfl) (World.ownsRow_nil _ _ _ _) ⟨g, 0, none⟩ k cl ((c.lines.drop 0).take k) (by rfl) (by simp; omega) (HP1.out _ (by first | exact gg | exact ext_drew gg | exact ext_alloc gg _ | exact ext_alloc (ext_drew gg) _)) k (by omega) (by omega) (by simp) ?_; intro p4 cap4 w4 ho4 hg4; have gg := grown_low (by first | exact gg | exact ext_drew gg) (Nat.le_refl _) hg4 (fun k hk => by cases hk); obtain ⟨q0, q1, q2, q3, q4, q5, q6⟩ := HQ.out _ gg; obtain ⟨c1, f1⟩ := HD.out _ gg; have z1 := gg.size; have z1b : w2.heap.size < w4.heap.size := (by omega))
          | (refine step_app_lines (by rfl) _ _ (by rfl) w3.heap.size _ k _ (by rfl) ho4 _ 1 1 [⟨lb, ⟨o, d, a, b, n, nm⟩⟩] (by rfl) (by rfl) (fun j u hj => World.news_of_block hb4 j u hj) (k + 1) (by omega) (by omega) (by omega) ?_; intro p5 cap5 w5 ho5 hg5; have gg := grown_low gg (Nat.le_refl _) hg5 (fun k hk => (ho4.lt k hk).1); obtain ⟨q0, q1, q2, q3, q4, q5, q6⟩ := HQ.out _ gg; obtain ⟨c1, f1⟩ := HD.out _ gg; have z2 := gg.size; have z2b : w2.heap.size < w5.heap.size := (by omega))
          | (refine step_app_lines (by rfl) _ _ (by rfl) w3.heap.size _ k _ (by rfl) (own_ext ho4 (ext_alloc (Below.refl _ _) _)) _ 1 1 [⟨lb, ⟨o, d, a, b, n, nm⟩⟩] (by rfl) (by rfl) (fun j u hj => World.news_of_block (heap_alloc_new w4 _) j u hj) (k + 1) (by omega) (by omega) (by simp; omega) ?_; intro p5 cap5 w5 ho5 hg5; have gg := grown_low (ext_alloc gg _) (Nat.le_refl _) hg5 (fun k hk => (ho4.lt k hk).1); obtain ⟨q0, q1, q2, q3, q4, q5, q6⟩ := HQ.out _ gg; obtain ⟨c1, f1⟩ := HD.out _ gg; have z2 := gg.size; have z2b : w2.heap.size < w5.heap.size := (by omega))
          | (refine step_app_part (by rfl) _ _ (by rfl) w3.heap.size _ (k + 1) _ (by rfl) ho5 _ (c.lines.length - k) _ ((c.lines.drop k).take (c.lines.length - k)) (by rfl) (by simp) (by split; (exact ⟨_, rfl, fun j u hj => by exfalso; have hz : c.lines.length - k = 0 := (by omega); rw [hz] at hj; simp at hj⟩); (exact ⟨_, rfl, fun j u hj => by rw [addr_add]; exact HP3.out _ gg j u hj⟩)) (c.lines.length + 1) (by omega) (by omega) (by omega) ?_; intro p6 cap6 w6 ho6 hg6; have gg := grown_low gg (Nat.le_refl _) hg6 (fun k hk => (ho5.lt k hk).1); obtain ⟨c1, f1⟩ := HD.out _ gg; have z3 := gg.size)))
      all_goals
        have HR := Lib.hid (wrong_rel HB3.out z0 gg ho6)
        clear gg ho6 ho4 ho5 hg4 hg5 hg6 c1 f1 q0 q1 q2 q3 q4 q5 q6
        go_wp2_with fail
        all_goals
          go_meet
          case rel => exact HR.out
    case rest =>
      obtain ⟨p2, cap2, hB2, hO2, hb2⟩ := hcut
      have HO2 := Lib.hid hO2
      have HA2 := Lib.hid (own_low HA3.out hb2 (fun b hb => (HA.out.lt b hb).2))
      have G4 := Lib.hid (G3.out.trans (hb2.mono G2.out.size))
      obtain ⟨d0, d1⟩ := two_cells hB2
      have HB2 := Lib.hid hB2
      have z4 : w2.heap.size < wc.heap.size := (Array.getElem?_eq_some_iff.1 hB2).1
      have HCD := Lib.hid (insL_at (b := ⟨lb, ⟨o, d, a, b, n, nm⟩⟩) (by omega) hml HAR.out HA2.out HO2.out)
      have hne := badE_ne q
      have HNE : Hid ((faultL (insL c k ⟨lb, ⟨o, d, a, b, n, nm⟩⟩)).1 ≠ 0) := Lib.hid (by rw [HBF2.out]; exact hne)
      have HCK : Hid (∀ w', Below wc.heap.size wc w' → Calls Tryz.prog 13 #[.agg #[.slice pa 2 ca, .slice p2 (c.lines.length + 1) cap2]] w' fun e w'' => e = .returned (.tuple #[.int .i64 (badE q), .int .i64 (k : Int)]) ∧ Below w'.heap.size w' w'') := Lib.hid (fun w' g => by
        have := acheck_any _ _ w' (HCD.out.ext g) HFT.out
        rw [HBF2.out] at this
        have hm : max (k : Int) 0 = k := by omega
        simp only [hm] at this
        exact this)
      have HPR := Lib.hid (fun w' (g : Below wc.heap.size wc w') => aprint_no _ _ w' (HCD.out.ext g) HFT.out HNE.out)
      have HFL := Lib.hid (fun w' (g : Below wc.heap.size wc w') => flat_no _ _ w' (HCD.out.ext g) HFT.out HNE.out)
      clear hO2 hb2 hB2 c1 f1 q0 q1 q2 q3 q4 q5 q6 hne
      generalize badE q = bq at *
      go_wp2_with fail
      refine (HCK.out _ (Below.refl _ _)).mono ?_; rintro e w4 ⟨rfl, g4⟩
      have d0 := (g4.cell (cell_lt d0)).trans d0
      have d1 := (g4.cell (cell_lt d1)).trans d1
      have X4 := Lib.hid g4
      clear g4
      go_wp2_with fail
      refine (HPR.out _ X4.out).mono ?_; rintro e w5 ⟨rfl, g5⟩
      have d0 := (g5.cell (cell_lt d0)).trans d0
      have d1 := (g5.cell (cell_lt d1)).trans d1
      have X5 := Lib.hid (ext_trans X4.out g5)
      clear g5
      go_wp2_with fail
      refine (HFL.out _ X5.out).mono ?_; rintro e w6 ⟨rfl, g6⟩
      have X6 := Lib.hid (ext_trans X5.out g6)
      clear g6 d0 d1
      have t0 : (mk []).toList = [] := mk_tl _
      go_wp2_with fail
      go_ret
      exact ⟨rfl, ext_trans G4.out X6.out⟩
end Go.Proofs.YtiimhbibdfaefaaGreatDoor
