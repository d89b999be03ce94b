/- IrNames, walked. -/
import Derived.Test.YtafapkljlajflaaDoorRows
import Derived.WalkKit
import Derived.ProofKit
import Derived.OpenShut
import Derived.WalkLawsBesides
import Derived.WalkSpells
import Derived.Outline
import Derived.Handy
import Derived.Lib.Hide
import Derived.Lib.OthersKept
import Derived.KernelRfl
import Derived.Carry
import Derived.RegionTactic
import Derived.BigRegion
import Derived.OwnWalk
import Derived.Deep.Cut
import Derived.IntWalk
import Derived.Deep.QuietTactic
import Derived.BigQuiet
import Derived.Deep.RegionHeld3
import Derived.Deep.RegionLaw
import Derived.Deep.RegionHeldLaw
import Derived.Deep.CutRange
import Derived.Deep.CutBlock
import Derived.Test.YtafapkljlajflaaDoorVm
import Derived.Test.YtafapkljlajflaaDoorVk
import Derived.Test.YtafapkljlajflaaDoorVl
import Derived.Test.YtafapkljlajflaaDoorUl
import Derived.Test.YtafapkljlajflaaDoorUe
namespace Go.Proofs.YtafapkljlajflaaDoor
open Go.ChangeShapes Go.WideShapes Go.ChangeAt Go.RowKit
set_option linter.unusedVariables false
set_option linter.unusedSimpArgs false
def zB : Bk := ⟨[], ⟨1, 0, 0, 0⟩⟩
theorem one_fit (r : Xn) : fitU [⟨[r], ⟨0, 0, 0, 0⟩⟩] = oneU [insF r] := by
  rw [fit_mkU]
  unfold oneU
  congr 1
  funext k
  show (bksOf [⟨[r], ⟨0, 0, 0, 0⟩⟩] k).map (fun b => blkF b (bksOf [⟨[r], ⟨0, 0, 0, 0⟩⟩] k).length) = _
  by_cases hk : k = 0
  · subst hk
    have e : bksOf [⟨[r], ⟨0, 0, 0, 0⟩⟩] 0 = [⟨[r], ⟨0, 0, 0, 0⟩⟩] := by
      unfold bksOf
      rw [if_neg (by show ¬ cntK 1 0 = 0; decide)]
      have hc : cntK 1 0 = 1 := by decide
      show rawK _ 0 (cntK 1 0) = _
      rw [hc]
      rfl
    rw [e, if_pos rfl]
    rfl
  · have e : bksOf [⟨[r], ⟨0, 0, 0, 0⟩⟩] k = [zeroK] := by
      unfold bksOf
      rw [if_pos]
      show min 8 ((1 + 2 - k) / 3) = 0
      have : (1 + 2 - k) / 3 = 0 := Nat.div_eq_of_lt (by omega)
      rw [this]; rfl
    rw [e, if_neg hk]
    rfl
theorem allK_one (r : Xn) (h : AllX r) : ∀ b ∈ [(⟨[r], ⟨0, 0, 0, 0⟩⟩ : Bk)], AllK b := by
  intro b hb
  rw [List.mem_singleton.1 hb]
  refine ⟨fun x hx => ?_, zero64, zero64, zero64, zero64⟩
  rw [List.mem_singleton.1 hx]
  exact h
theorem post_cons : ∃ t, postT = 106 :: t := by
  have h := post_head
  cases e : postT with
  | nil => rw [e] at h; cases h
  | cons c t =>
    rw [e] at h
    injection h with h
    exact ⟨t, by rw [h]⟩
/-- What the law's loops read of the two texts. -/
structure TX (a n : Nat) (T V : List UInt8) (seg : List UInt8) : Prop where
  of ::
  lt : a + n < T.length
  lv : T.length = V.length + n
  n2 : 2 ≤ n
  av : a < V.length
  sm : ∀ j (h : j < a) (h1 : j < T.length) (h2 : j < V.length), T[j]'h1 = V[j]'h2
  ne : ∀ (h1 : a < T.length) (h2 : a < V.length), T[a]'h1 ≠ V[a]'h2
  sl : seg.length = n + 1
  sg : ∀ j (h : j < seg.length) (h1 : a + j < T.length), T[a + j]'h1 = seg[j]'h
theorem tx_of (x : Xn) (h : Tens x) (hab : x.kind = 6 → x.name.getD 0 0 ≠ 106) {T V : List UInt8} (hT : T = preT ++ (insT x ++ ([10, 9] ++ postT))) (hV : V = preT ++ postT) : TX preT.length ((insT x).length + 2) T V (insT x ++ [10, 9, 106]) := by
  obtain ⟨p, hp⟩ := post_cons
  obtain ⟨c, t, hi, hc⟩ := ins_head x h hab
  subst hT hV
  rw [hp]
  have hl : (preT ++ (insT x ++ ([10, 9] ++ 106 :: p))).length = preT.length + ((insT x).length + (2 + (p.length + 1))) := by simp; omega
  have hl2 : (preT ++ 106 :: p).length = preT.length + (p.length + 1) := by simp
  refine ⟨by rw [hl]; omega, by rw [hl, hl2]; omega, by omega, by rw [hl2]; omega, fun j hj h1 h2 => ?_, fun h1 h2 => ?_, by simp, fun j hj h1 => ?_⟩
  · rw [List.getElem_append_left hj, List.getElem_append_left hj]
  · rw [List.getElem_append_right (Nat.le_refl _), List.getElem_append_right (Nat.le_refl _)]
    simp only [Nat.sub_self, hi, List.cons_append, List.getElem_cons_zero]
    exact hc
  · have e : preT ++ (insT x ++ ([10, 9] ++ 106 :: p)) = preT ++ ((insT x ++ [10, 9, 106]) ++ p) := by simp
    have h3 : (preT ++ (insT x ++ ([10, 9] ++ 106 :: p)))[preT.length + j]? = (insT x ++ [10, 9, 106])[j]? := by
      rw [e, List.getElem?_append_right (by omega)]
      have : preT.length + j - preT.length = j := by omega
      rw [this, List.getElem?_append_left hj]
    rw [List.getElem?_eq_getElem h1, List.getElem?_eq_getElem hj] at h3
    exact Option.some.inj h3
theorem scan_step (seg : List UInt8) (j : Nat) (h : j + 1 < seg.length) : scanV (seg.drop j) = if seg[j]'(by omega) = 118 ∧ digitB (seg[j + 1]'h) = true then (((seg[j + 1]'h).toNat : Int) - 48) :: scanV (seg.drop (j + 1)) else scanV (seg.drop (j + 1)) := by
  rw [List.drop_eq_getElem_cons (by omega : j < seg.length), List.drop_eq_getElem_cons h]
  rfl
theorem then_gen2 {P : World → Prop} {K : Act → World → Prop} {Q : Exit → Act → World → Prop} {a : Act} {W : World} (h : P W) (k : ∀ W, P W → Exit.then K Q .normal a W) : Exit.then K Q .normal a W := k W h
/-- The world behind the store into the first block. -/
structure SS (w3 w4 : World) (G lo cap gA cA : Nat) (ins : List Value) (ws : World) : Prop where
  of ::
  ox : ws.ownsRow w4.heap.size 36 8 (.slice (some ⟨gA, 0, none⟩) 1 cA) 1 ins
  ob : ws.ownsRow lo 43 5 (.slice (some ⟨G, 0, none⟩) 1 cap) 1 (cellsB (zB, .slice (some ⟨gA, 0, none⟩) 1 cA))
  kp : ∀ b, b < w4.heap.size → b ≠ G → ws.heap[b]? = w4.heap[b]?
/-- The unit of no raw blocks, as it lies in memory. -/
structure NU (B : Nat) (w : World) (gF cf G cap lo m : Nat) (c0 : Fl × Value) (rest : List (Fl × Value)) : Prop where
  of ::
  ar : w.heap[B + 1]? = some (.cells arB 60 (0, 0))
  ow : w.ownsRow (B + 4) 45 4 (.slice (some ⟨gF, 0, none⟩) 3 cf) 3 ((c0 :: rest).flatMap cellsF)
  nm : c0.1.name = mainN ∧ c0.1.params = 0 ∧ c0.1.values = 10
  vl : c0.2 = .slice (some ⟨G, 0, none⟩) 1 cap
  rs : rest.map (·.1) = [⟨[102], 1, 10, [zB]⟩, ⟨[103], 2, 10, [zB]⟩]
  rw_ : w.ownsRow lo 43 5 (.slice (some ⟨G, 0, none⟩) 1 cap) 1 (cellsB (zB, .slice none 0 0))
  lo1 : B + 4 ≤ lo
  lo2 : lo ≤ G
  lo3 : G < m
  lo4 : m ≤ w.heap.size
  gf1 : B + 4 ≤ gF
  gf2 : gF < w.heap.size
  gf3 : gF ≠ G
  ot : ∀ c ∈ rest, BksAt (fun b => m ≤ b) w c.2 c.1.blocks
theorem nu_of {B : Nat} {v : Value} {w : World} (h : FitOwn2 B [] v w) : ∃ gF cf G cap lo m c0 rest, v = .agg #[.slice (some ⟨B + 1, 0, none⟩) 2 2, .slice (some ⟨gF, 0, none⟩) 3 cf] ∧ NU B w gF cf G cap lo m c0 rest := by
  obtain ⟨P, pf, cf, rfl, har, hP, how, hbk, hap⟩ := h
  obtain ⟨gF, cf', hq, hg1, hg2⟩ := own_block how (by decide)
  injection hq with hq1 hq2 hq3
  subst hq1 hq3
  rw [one_nil] at hP
  have hP : P.map (·.1) = [⟨mainN, 0, 10, [zB]⟩, ⟨[102], 1, 10, [zB]⟩, ⟨[103], 2, 10, [zB]⟩] := hP
  cases P with
  | nil => cases hP
  | cons c0 rest =>
    rw [List.map_cons] at hP
    injection hP with hc hr
    obtain ⟨lo, m, h1, h2, h3, ⟨h4, _, G, n, cap, M, e, g1, g2, g3, g4, g5⟩, h6⟩ := hap c0 rest rfl
    rw [hc] at g4
    have g4 : M.map (·.1) = [zB] := g4
    cases M with
    | nil => cases g4
    | cons m0 mr =>
      rw [List.map_cons] at g4
      injection g4 with k1 k2
      have k3 : mr = [] := List.map_eq_nil_iff.1 k2
      subst k3
      obtain ⟨mb, mv⟩ := m0
      have k1 : mb = zB := k1
      subst k1
      have hv : mv = .slice none 0 0 := (g5 (zB, mv) (by simp)).2 rfl
      subst hv
      have hn : n = 1 := (row_get lenB (by decide) g3).1
      subst hn
      rw [e] at g3
      have hgg : gF < lo ∨ m ≤ gF := h4 gF rfl
      refine ⟨gF, cf, G, cap, lo, m, c0, rest, rfl, har, how, ⟨by rw [hc], by rw [hc], by rw [hc]⟩, e, hr, by simpa using g3, h1, g1, g2, h3, hg1, hg2, by omega, fun c hcr => ?_⟩
      obtain ⟨lo', hi', p1, p2, p3⟩ := h6 c hcr
      exact bks_wide (fun b hb => by have := hb.1; omega) p3.2.1
/-- The unit with an instruction in its first block, in memory. -/
theorem un_one {w : World} {B gF cf : Nat} {base : Nat} {c0 : Fl × Value} {rest : List (Fl × Value)} {y : Xn} (har : w.heap[B + 1]? = some (.cells arB 60 (0, 0)))
    (how : w.ownsRow base 45 4 (.slice (some ⟨gF, 0, none⟩) 3 cf) 3 ((c0 :: rest).flatMap cellsF)) (hnm : c0.1.name = mainN ∧ c0.1.params = 0 ∧ c0.1.values = 10) (hrs : rest.map (·.1) = [⟨[102], 1, 10, [zB]⟩, ⟨[103], 2, 10, [zB]⟩])
    (hb : BksAt (fun _ => True) w c0.2 [⟨[y], ⟨1, 0, 0, 0⟩⟩]) (hot : ∀ c ∈ rest, BksAt (fun _ => True) w c.2 c.1.blocks) :
    UnAt (fun k => k < w.heap.size) w (.agg #[.slice (some ⟨B + 1, 0, none⟩) 2 2, .slice (some ⟨gF, 0, none⟩) 3 cf]) (oneU [y]) := by
  refine ⟨_, _, rfl, ars_two har, ?_⟩
  obtain ⟨⟨nm, pa, vl, bl⟩, cv⟩ := c0
  obtain ⟨n1, n2, n3⟩ := hnm
  simp only at n1 n2 n3
  subst n1 n2 n3
  have h1 : w.ownsRow base 45 4 (.slice (some ⟨gF, 0, none⟩) 3 cf) 3 ((((⟨mainN, 0, 10, [⟨[y], ⟨1, 0, 0, 0⟩⟩]⟩ : Fl), cv) :: rest).flatMap cellsF) := how
  have hl : rest.length = 2 := by have := congrArg List.length hrs; simpa using this
  have h2 := row_fls (A := fun k => k < w.heap.size) h1 (by rw [List.length_cons]; omega) (fun g hg => (how.lt g hg).2) (fun c hc => by
    rcases List.mem_cons.1 hc with rfl | hc
    · exact bks_wide (fun b hb => hb.2) (bks_lt hb)
    · exact bks_wide (fun b hb => hb.2) (bks_lt (hot c hc)))
  rw [List.map_cons, hrs] at h2
  exact h2
set_option maxRecDepth 100000 in
set_option maxHeartbeats 16000000 in
theorem irnames_any (r : Xn) (hr : AllX r) (va : Value) (w : World) (hv : Env w) :
    Calls Tryd.prog 4 #[rawV r va] w fun e w' => e = .returned (.bool true) ∧ Below w.heap.size w w' := by
  have HA := Lib.hid (fun (w' : World) (g : Below w.heap.size w w') => awake_any w' (hv.ext g))
  have HV := Lib.hid hv
  have HL := Lib.hid (fun g w' hg => lins_any r hr va g w' hg)
  have HF := Lib.hid (fun (w' : World) => lfit_own2 [] (fun b hb => by cases hb) (.slice none 0 0) w' RowAt.nil)
  have HTN := Lib.hid (tens_fit r)
  have HST := Lib.hid (st_fit r)
  have HIO := Lib.hid (ins_okF r hr.2.2.2.2.2)
  have HUW : Hid (wrongU (oneU [insF r]) = (0, 0, 0)) := Lib.hid (by rw [← one_fit]; exact fit_ok _)
  have HUF : Hid (UnFit (oneU [insF r])) := Lib.hid (by rw [← one_fit]; exact un_fit _)
  have HPF : Hid (PrAll (oneU [insF r])) := Lib.hid (by rw [← one_fit]; exact pr_fit _ (allK_one r hr))
  have HUW0 := Lib.hid (fit_ok [])
  have HUF0 := Lib.hid (un_fit [])
  have HPF0 := Lib.hid (pr_fit [] (fun b hb => by cases hb))
  have HT0 : Hid (unT (fitU []) = preT ++ postT) := Lib.hid (by rw [one_nil]; exact one_txt0)
  have HT1 := Lib.hid (one_txt (insF r))
  unfold rawV at HL
  unfold XnRes at HL
  generalize insF r = y at *
  clear hr hv
  obtain ⟨rk, rd, ra, rb, ro, rn, rm, rl⟩ := r
  obtain ⟨yk, yd, ya, yb, yo, yn, ym, yl⟩ := y
  simp only at HL
  unfold rawV
  go_enter Tryd.func4, Tryd.ntmps4
  go_wp2_with fail
  refine (HA.out _ (ext_alloc (Below.refl _ _) _)).mono ?_; rintro e w1 ⟨rfl, g1⟩
  have G1 : Hid (Below w.heap.size w w1) := Lib.hid (ext_trans (ext_alloc (Below.refl w.heap.size w) _) g1)
  have HX1 := Lib.hid ((g1.block w.heap.size (by simp)).trans (heap_new w _))
  clear g1
  obtain ⟨c0, c1, c2, c3, c4, c5, c6, c7⟩ := eight_cells' HX1.out
  have hz1 : w.heap.size < w1.heap.size := (Array.getElem?_eq_some_iff.1 HX1.out).1
  have HNM : NmsAt (w1.alloc (.cells #[.string (mk mainN), .string (mk [102]), .string (mk [103])] 9)) w1.heap.size := heap_new _ _
  have HLC := Lib.hid (HL.out _ _ HNM)
  clear HNM
  go_wp2_with fail
  refine (HLC.out).mono ?_; rintro e w2 ⟨⟨vy, rfl, hy⟩, g2⟩
  have G2 : Hid (Below w1.heap.size w1 w2) := Lib.hid (ext_trans (ext_alloc (Below.refl _ _) _) g2)
  have HY : Hid (NumsAt (fun b => w1.heap.size ≤ b) w2 vy yl) := Lib.hid (nums_wide (fun b hb => by have : (w1.alloc _).heap.size ≤ b := hb; simp at this; omega) hy)
  obtain ⟨py, cy, hvy⟩ := row_slice hy
  subst hvy
  obtain ⟨ny, hny⟩ : ∃ z, yl.length = z := ⟨_, rfl⟩
  have HNY := Lib.hid hny
  rw [hny] at HY ⊢
  clear g2 hy HLC hny c0 c1 c2 c3 c4 c5 c6 c7
  obtain ⟨wx, hwx⟩ : ∃ wx, w2.alloc (.cells #[.int .i64 yk, .int .i64 yd, .int .i64 ya, .int .i64 yb, .int .i64 yo, .int .i64 yn, .string (mk ym), .slice py ny cy] 36) = wx := ⟨_, rfl⟩
  have HXX : Hid (wx.heap[w2.heap.size]? = some (.cells #[.int .i64 yk, .int .i64 yd, .int .i64 ya, .int .i64 yb, .int .i64 yo, .int .i64 yn, .string (mk ym), .slice py ny cy] 36 (0, 0))) := Lib.hid (by rw [← hwx]; exact heap_new _ _)
  have GX : Hid (Below w2.heap.size w2 wx) := Lib.hid (by rw [← hwx]; exact ext_alloc (Below.refl _ _) _)
  go_wp2_with fail
  try rw [hwx]
  clear hwx
  refine (HF.out _).mono ?_; rintro e w3 ⟨⟨v, rfl, hfo⟩, g3⟩
  have G3 := Lib.hid g3
  obtain ⟨gF, cf, G, cap, lo, m, c0, rest, rfl, hnu⟩ := nu_of hfo
  have HNU := Lib.hid hnu
  clear g3 hfo hnu
  obtain ⟨w4, hw4⟩ : ∃ w4, w3.alloc (.cells #[.slice (some ⟨wx.heap.size + 1, 0, none⟩) 2 2, .slice (some ⟨gF, 0, none⟩) 3 cf] 27) = w4 := ⟨_, rfl⟩
  have HU4 : Hid (w4.heap[w3.heap.size]? = some (.cells #[.slice (some ⟨wx.heap.size + 1, 0, none⟩) 2 2, .slice (some ⟨gF, 0, none⟩) 3 cf] 27 (0, 0))) := Lib.hid (by rw [← hw4]; exact heap_new _ _)
  have G4 : Hid (Below w3.heap.size w3 w4) := Lib.hid (by rw [← hw4]; exact ext_alloc (Below.refl _ _) _)
  go_upto_region 4 with (fail)
  try rw [hw4]
  clear hw4
  have hsX : w2.heap.size < wx.heap.size := (Array.getElem?_eq_some_iff.1 HXX.out).1
  have hs3 : wx.heap.size ≤ w3.heap.size := G3.out.size
  have hs4 : w3.heap.size < w4.heap.size := (Array.getElem?_eq_some_iff.1 HU4.out).1
  have hG3 : G < w3.heap.size := by have := HNU.out.lo3; have := HNU.out.lo4; omega
  have hgF3 := HNU.out.gf2
  have hX4 : Hid (w4.heap[w2.heap.size]? = some (.cells #[.int .i64 yk, .int .i64 yd, .int .i64 ya, .int .i64 yb, .int .i64 yo, .int .i64 yn, .string (mk ym), .slice py ny cy] 36 (0, 0))) := Lib.hid ((G4.out.block _ (by omega)).trans ((G3.out.block _ hsX).trans HXX.out))
  have HR4 : Hid (w4.ownsRow lo 43 5 (.slice (some ⟨G, 0, none⟩) 1 cap) 1 (cellsB (zB, .slice none 0 0))) := Lib.hid (own_ext HNU.out.rw_ G4.out)
  have q3 : w4.cell? ⟨gF, 3, none⟩ = some (.slice (some ⟨G, 0, none⟩) 1 cap) := by
    obtain ⟨_, p, c', hq, hc⟩ := row_get lenF (by decide) (own_ext HNU.out.ow G4.out)
    obtain ⟨g, hg, _, hgo, h3⟩ := hc 0 (by simp)
    injection hgo with hgo
    have hgo : gF = g := hgo
    subst hgo
    have := h3 3 (by decide)
    rw [Nat.zero_mul, Nat.zero_add] at this
    rw [this]
    show some c0.2 = _
    rw [HNU.out.vl]
  have q0 : w4.cell? ⟨G, 0, none⟩ = some (.slice none 0 0) := by
    obtain ⟨_, p, c', hq, hc⟩ := row_get (L := [(zB, Value.slice none 0 0)]) lenB (by decide) (HR4.out)
    obtain ⟨g, hg, _, hgo, h3⟩ := hc 0 (by simp)
    injection hgo with hgo
    have hgo : G = g := hgo
    subst hgo
    exact h3 0 (by decide)
  have z0 : w4.frozen? ⟨G, 0, none⟩ = false := HR4.out.frozenAt _
  obtain ⟨u0, u1⟩ := two_cells HU4.out
  obtain ⟨x0, x1, x2, x3, x4, x5, x6, x7⟩ := eight_cells' hX4.out
  have hl1 : G < w4.heap.size := by omega
  have hl2 : gF < w4.heap.size := by omega
  have hl3 : w2.heap.size < w4.heap.size := by omega
  have HO1 : Hid (∀ u ∈ [Value.int .i64 yk, .int .i64 yd, .int .i64 ya, .int .i64 yb, .int .i64 yo, .int .i64 yn, .string (mk ym), .slice py ny cy], u.oneCell' = true) := Lib.hid (by
    intro u hu
    simp at hu
    rcases hu with rfl | rfl | rfl | rfl | rfl | rfl | rfl | rfl <;> rfl)
  have hUG : w3.heap.size ≠ G := by omega
  have q0d : w4.drew.cell? ⟨G, 0, none⟩ = some (.slice none 0 0) := q0
  have hXG : w2.heap.size ≠ G := by have := HNU.out.lo1; have := HNU.out.lo2; omega
  have HKA : Hid (∀ (w' : World), (∀ b, b < w4.heap.size → b ≠ G → w'.heap[b]? = w4.heap[b]?) → w'.cell? ⟨w3.heap.size, 1, none⟩ = some (.slice (some ⟨gF, 0, none⟩) 3 cf) ∧ w'.cell? ⟨gF, 3, none⟩ = some (.slice (some ⟨G, 0, none⟩) 1 cap) ∧ w'.cell? ⟨w2.heap.size, 0, none⟩ = some (.int .i64 yk) ∧ w'.cell? ⟨w2.heap.size, 1, none⟩ = some (.int .i64 yd) ∧ w'.cell? ⟨w2.heap.size, 2, none⟩ = some (.int .i64 ya) ∧ w'.cell? ⟨w2.heap.size, 3, none⟩ = some (.int .i64 yb) ∧ w'.cell? ⟨w2.heap.size, 4, none⟩ = some (.int .i64 yo) ∧ w'.cell? ⟨w2.heap.size, 5, none⟩ = some (.int .i64 yn) ∧ w'.cell? ⟨w2.heap.size, 6, none⟩ = some (.string (mk ym)) ∧ w'.cell? ⟨w2.heap.size, 7, none⟩ = some (.slice py ny cy)) := Lib.hid (fun w' g => ⟨(World.cell?_of_block (g _ hs4 hUG)).trans u1, (World.cell?_of_block (g _ hl2 HNU.out.gf3)).trans q3, (World.cell?_of_block (g _ hl3 hXG)).trans x0, (World.cell?_of_block (g _ hl3 hXG)).trans x1, (World.cell?_of_block (g _ hl3 hXG)).trans x2, (World.cell?_of_block (g _ hl3 hXG)).trans x3, (World.cell?_of_block (g _ hl3 hXG)).trans x4, (World.cell?_of_block (g _ hl3 hXG)).trans x5, (World.cell?_of_block (g _ hl3 hXG)).trans x6, (World.cell?_of_block (g _ hl3 hXG)).trans x7⟩)
  go_cut [5] from 19 (fun s5 wc => s5 = .pointer (some ⟨w3.heap.size, 0, none⟩) ∧ ∃ gA cA, SS w3 w4 G lo cap gA cA [.int .i64 yk, .int .i64 yd, .int .i64 ya, .int .i64 yb, .int .i64 yo, .int .i64 yn, .string (mk ym), .slice py ny cy] wc ∧ Below wx.heap.size wx wc)
  case first =>
    refine wp_region_held_drew (S := (fun (w' : World) => w'.cell? ⟨w3.heap.size, 1, none⟩ = some (.slice (some ⟨gF, 0, none⟩) 3 cf) ∧ w'.cell? ⟨gF, 3, none⟩ = some (.slice (some ⟨G, 0, none⟩) 1 cap) ∧ w'.cell? ⟨w2.heap.size, 0, none⟩ = some (.int .i64 yk) ∧ w'.cell? ⟨w2.heap.size, 1, none⟩ = some (.int .i64 yd) ∧ w'.cell? ⟨w2.heap.size, 2, none⟩ = some (.int .i64 ya) ∧ w'.cell? ⟨w2.heap.size, 3, none⟩ = some (.int .i64 yb) ∧ w'.cell? ⟨w2.heap.size, 4, none⟩ = some (.int .i64 yo) ∧ w'.cell? ⟨w2.heap.size, 5, none⟩ = some (.int .i64 yn) ∧ w'.cell? ⟨w2.heap.size, 6, none⟩ = some (.string (mk ym)) ∧ w'.cell? ⟨w2.heap.size, 7, none⟩ = some (.slice py ny cy))) (by kernel_rfl) ?_ (fun hHeld => ?_)
    focus
      (try dsimp only)
      first | exact HKA.out _ (fun b hb _ => (ext_drew (Below.refl w4.heap.size w4)).block b hb) | exact HKA.out _ (fun b hb _ => (ext_drew (ext_alloc (Below.refl w4.heap.size w4) _)).block b hb) | exact HKA.out _ (fun b hb _ => GA.out.block b hb) | exact HKA.out _ (fun b hb hne => (heap_setCell_other _ _ _ _ hne).trans (GA.out.block b hb))
    refine wpAnyH_take (i := 0) (v := ?_) rfl (by kernel_rfl) (by kernel_rfl) (by kernel_rfl) (fun _ _ _ h => h) (Or.inl ⟨by rfl, ?_⟩) (by assumption) ?_
    rotate_left
    focus
      intro w' hSw
      try dsimp only at hSw
      go_simp
      try with_reducible rfl
    try simp only [Act.put, List.setIfInBounds_toArray, List.set_cons_zero, List.set_cons_succ]
    refine wpAnyH_take (i := 1) (v := ?_) rfl (by kernel_rfl) (by kernel_rfl) (by kernel_rfl) (fun _ _ _ h => h) (Or.inl ⟨by rfl, ?_⟩) (by assumption) ?_
    rotate_left
    focus
      intro w' hSw
      try dsimp only at hSw
      go_simp
      try with_reducible rfl
    try simp only [Act.put, List.setIfInBounds_toArray, List.set_cons_zero, List.set_cons_succ]
    refine wpAnyH_take (i := 2) (v := ?_) rfl (by kernel_rfl) (by kernel_rfl) (by kernel_rfl) (fun _ _ _ h => h) (Or.inl ⟨by rfl, ?_⟩) (by assumption) ?_
    rotate_left
    focus
      intro w' hSw
      try dsimp only at hSw
      go_simp
      try with_reducible rfl
    try simp only [Act.put, List.setIfInBounds_toArray, List.set_cons_zero, List.set_cons_succ]
    refine wpAnyH_take (i := 3) (v := ?_) rfl (by kernel_rfl) (by kernel_rfl) (by kernel_rfl) (fun _ _ _ h => h) (Or.inl ⟨by rfl, ?_⟩) (by assumption) ?_
    rotate_left
    focus
      intro w' hSw
      try dsimp only at hSw
      go_simp
      try with_reducible rfl
    try simp only [Act.put, List.setIfInBounds_toArray, List.set_cons_zero, List.set_cons_succ]
    refine wpAnyH_take (i := 4) (v := ?_) rfl (by kernel_rfl) (by kernel_rfl) (by kernel_rfl) (fun _ _ _ h => h) (Or.inl ⟨by rfl, ?_⟩) (by assumption) ?_
    rotate_left
    focus
      intro w' hSw
      try dsimp only at hSw
      go_simp
      try with_reducible rfl
    try simp only [Act.put, List.setIfInBounds_toArray, List.set_cons_zero, List.set_cons_succ]
    refine wpAnyH_take (i := 5) (v := ?_) rfl (by kernel_rfl) (by kernel_rfl) (by kernel_rfl) (fun _ _ _ h => h) (Or.inl ⟨by rfl, ?_⟩) (by assumption) ?_
    rotate_left
    focus
      intro w' hSw
      try dsimp only at hSw
      go_simp
      try with_reducible rfl
    try simp only [Act.put, List.setIfInBounds_toArray, List.set_cons_zero, List.set_cons_succ]
    refine wpAnyH_take (i := 6) (v := ?_) rfl (by kernel_rfl) (by kernel_rfl) (by kernel_rfl) (fun _ _ _ h => h) (Or.inl ⟨by rfl, ?_⟩) (by assumption) ?_
    rotate_left
    focus
      intro w' hSw
      try dsimp only at hSw
      go_simp
      try with_reducible rfl
    try simp only [Act.put, List.setIfInBounds_toArray, List.set_cons_zero, List.set_cons_succ]
    refine wpAnyH_take (i := 7) (v := ?_) rfl (by kernel_rfl) (by kernel_rfl) (by kernel_rfl) (fun _ _ _ h => h) (Or.inl ⟨by rfl, ?_⟩) (by assumption) ?_
    rotate_left
    focus
      intro w' hSw
      try dsimp only at hSw
      go_simp
      try with_reducible rfl
    try simp only [Act.put, List.setIfInBounds_toArray, List.set_cons_zero, List.set_cons_succ]
    refine wpAnyH_take (i := 8) (v := ?_) rfl (by kernel_rfl) (by kernel_rfl) (by kernel_rfl) (fun _ _ _ h => h) (Or.inl ⟨by rfl, ?_⟩) (by assumption) ?_
    rotate_left
    focus
      intro w' hSw
      try dsimp only at hSw
      go_simp
      try with_reducible rfl
    try simp only [Act.put, List.setIfInBounds_toArray, List.set_cons_zero, List.set_cons_succ]
    refine wpAnyH_take (i := 9) (v := ?_) rfl (by kernel_rfl) (by kernel_rfl) (by kernel_rfl) (fun _ _ _ h => h) (Or.inl ⟨by rfl, ?_⟩) (by assumption) ?_
    rotate_left
    focus
      intro w' hSw
      try dsimp only at hSw
      go_simp
      try with_reducible rfl
    try simp only [Act.put, List.setIfInBounds_toArray, List.set_cons_zero, List.set_cons_succ]
    refine wpAnyH_take (i := 10) (v := ?_) rfl (by kernel_rfl) (by kernel_rfl) (by kernel_rfl) (fun _ _ _ h => h) (Or.inl ⟨by rfl, ?_⟩) (by assumption) ?_
    rotate_left
    focus
      intro w' hSw
      try dsimp only at hSw
      go_simp
      try with_reducible rfl
    try simp only [Act.put, List.setIfInBounds_toArray, List.set_cons_zero, List.set_cons_succ]
    refine wpAnyH_take (i := 11) (v := ?_) rfl (by kernel_rfl) (by kernel_rfl) (by kernel_rfl) (fun _ _ _ h => h) (Or.inl ⟨by rfl, ?_⟩) (by assumption) ?_
    rotate_left
    focus
      intro w' hSw
      try dsimp only at hSw
      go_simp
      try with_reducible rfl
    try simp only [Act.put, List.setIfInBounds_toArray, List.set_cons_zero, List.set_cons_succ]
    refine wpAnyH_take (i := 13) (v := ?_) rfl (by kernel_rfl) (by kernel_rfl) (by kernel_rfl) (fun _ _ _ h => h) (Or.inl ⟨by rfl, ?_⟩) (by assumption) ?_
    rotate_left
    focus
      intro w' hSw
      try dsimp only at hSw
      go_simp
      try with_reducible rfl
    try simp only [Act.put, List.setIfInBounds_toArray, List.set_cons_zero, List.set_cons_succ]
    refine wpAnyH_ready (rs := [12, 14]) (by kernel_rfl) (by simp) ?_
    refine AllReadyH.cons rfl (fun K hK => ?_) ?_
    focus
      go_simp
      refine hK.out _ _ ?_ (fun hHeld => ?_)
      focus
        (try dsimp only)
        first | exact HKA.out _ (fun b hb _ => (ext_drew (Below.refl w4.heap.size w4)).block b hb) | exact HKA.out _ (fun b hb _ => (ext_drew (ext_alloc (Below.refl w4.heap.size w4) _)).block b hb) | exact HKA.out _ (fun b hb _ => GA.out.block b hb) | exact HKA.out _ (fun b hb hne => (heap_setCell_other _ _ _ _ hne).trans (GA.out.block b hb))
      clear hK K
      refine wpAnyH_ready (rs := [14]) (by kernel_rfl) (by simp) ?_
      refine AllReadyH.cons rfl (fun K hK => ?_) ?_
      focus
        go_simp
        refine hK.out _ _ ?_ (fun hHeld => ?_)
        focus
          (try dsimp only)
          first | exact HKA.out _ (fun b hb _ => (ext_drew (Below.refl w4.heap.size w4)).block b hb) | exact HKA.out _ (fun b hb _ => (ext_drew (ext_alloc (Below.refl w4.heap.size w4) _)).block b hb) | exact HKA.out _ (fun b hb _ => GA.out.block b hb) | exact HKA.out _ (fun b hb hne => (heap_setCell_other _ _ _ _ hne).trans (GA.out.block b hb))
        clear hK K
        refine wpAnyH_ready (rs := [15]) (by kernel_rfl) (by simp) ?_
        refine AllReadyH.cons rfl (fun K hK => ?_) ?_
        focus
          refine step_app_row Tryd.underlying39 infoX rfl (by decide) (by decide) rfl _ _ rfl w4.heap.size rfl _ 1 1 [.int .i64 yk, .int .i64 yd, .int .i64 ya, .int .i64 yb, .int .i64 yo, .int .i64 yn, .string (mk ym), .slice py ny cy] rfl rfl (by intro ad had; cases had; exact World.news_of_block (heap_new' _ _ _ (by simp))) (fun e => by cases e) HO1.out (by decide) (by simp) ?_; intro vA wA ownA grA; obtain ⟨gA, cA, hvA, hgA1, hgA2⟩ := own_block ownA (by decide); subst hvA; have HOA := Lib.hid ownA; have GA : Hid (Below w4.heap.size w4 wA) := Lib.hid (below_grown (by first | exact ext_alloc (ext_drew (Below.refl _ _)) _ | exact ext_drew (ext_alloc (Below.refl _ _) _)) grA (by simp) (fun k hk => by cases hk)); have q0A : wA.cell? ⟨G, 0, none⟩ = some (.slice none 0 0) := (GA.out.cell (p := ⟨G, 0, none⟩) hl1).trans q0; have z0A : wA.frozen? ⟨G, 0, none⟩ = false := (World.frozen?_of_block (w := w4) (w' := wA) (a := ⟨G, 0, none⟩) (GA.out.block G hl1)).trans z0
          refine hK.out _ _ ?_ (fun hHeld => ?_)
          focus
            (try dsimp only)
            first | exact HKA.out _ (fun b hb _ => (ext_drew (Below.refl w4.heap.size w4)).block b hb) | exact HKA.out _ (fun b hb _ => (ext_drew (ext_alloc (Below.refl w4.heap.size w4) _)).block b hb) | exact HKA.out _ (fun b hb _ => GA.out.block b hb) | exact HKA.out _ (fun b hb hne => (heap_setCell_other _ _ _ _ hne).trans (GA.out.block b hb))
          clear hK K
          refine wpAnyH_take (i := 16) (v := ?_) rfl (by kernel_rfl) (by kernel_rfl) (by kernel_rfl) (fun _ _ _ h => h) (Or.inl ⟨by rfl, ?_⟩) (by assumption) ?_
          rotate_left
          focus
            intro w' hSw
            try dsimp only at hSw
            go_simp
            try with_reducible rfl
          try simp only [Act.put, List.setIfInBounds_toArray, List.set_cons_zero, List.set_cons_succ]
          refine wpAnyH_take (i := 17) (v := ?_) rfl (by kernel_rfl) (by kernel_rfl) (by kernel_rfl) (fun _ _ _ h => h) (Or.inl ⟨by rfl, ?_⟩) (by assumption) ?_
          rotate_left
          focus
            intro w' hSw
            try dsimp only at hSw
            go_simp
            try with_reducible rfl
          try simp only [Act.put, List.setIfInBounds_toArray, List.set_cons_zero, List.set_cons_succ]
          refine wpAnyH_ready (rs := [18]) (by kernel_rfl) (by simp) ?_
          refine AllReadyH.cons rfl (fun K hK => ?_) ?_
          focus
            go_simp
            refine hK.out _ _ ?_ (fun hHeld => ?_)
            focus
              (try dsimp only)
              first | exact HKA.out _ (fun b hb _ => (ext_drew (Below.refl w4.heap.size w4)).block b hb) | exact HKA.out _ (fun b hb _ => (ext_drew (ext_alloc (Below.refl w4.heap.size w4) _)).block b hb) | exact HKA.out _ (fun b hb _ => GA.out.block b hb) | exact HKA.out _ (fun b hb hne => (heap_setCell_other _ _ _ _ hne).trans (GA.out.block b hb))
            clear hK K
            refine wpAnyH_done (by kernel_rfl) ?_ _
          rotate_left
          focus
            exact AllReadyH.nil
        rotate_left
        focus
          exact AllReadyH.nil
      rotate_left
      focus
        exact AllReadyH.nil
    rotate_left
    refine AllReadyH.cons rfl (fun K hK => ?_) ?_
    focus
      go_simp
      refine hK.out _ _ ?_ (fun hHeld => ?_)
      focus
        (try dsimp only)
        first | exact HKA.out _ (fun b hb _ => (ext_drew (Below.refl w4.heap.size w4)).block b hb) | exact HKA.out _ (fun b hb _ => (ext_drew (ext_alloc (Below.refl w4.heap.size w4) _)).block b hb) | exact HKA.out _ (fun b hb _ => GA.out.block b hb) | exact HKA.out _ (fun b hb hne => (heap_setCell_other _ _ _ _ hne).trans (GA.out.block b hb))
      clear hK K
      refine wpAnyH_ready (rs := [12]) (by kernel_rfl) (by simp) ?_
      refine AllReadyH.cons rfl (fun K hK => ?_) ?_
      focus
        go_simp
        refine hK.out _ _ ?_ (fun hHeld => ?_)
        focus
          (try dsimp only)
          first | exact HKA.out _ (fun b hb _ => (ext_drew (Below.refl w4.heap.size w4)).block b hb) | exact HKA.out _ (fun b hb _ => (ext_drew (ext_alloc (Below.refl w4.heap.size w4) _)).block b hb) | exact HKA.out _ (fun b hb _ => GA.out.block b hb) | exact HKA.out _ (fun b hb hne => (heap_setCell_other _ _ _ _ hne).trans (GA.out.block b hb))
        clear hK K
        refine wpAnyH_ready (rs := [15]) (by kernel_rfl) (by simp) ?_
        refine AllReadyH.cons rfl (fun K hK => ?_) ?_
        focus
          refine step_app_row Tryd.underlying39 infoX rfl (by decide) (by decide) rfl _ _ rfl w4.heap.size rfl _ 1 1 [.int .i64 yk, .int .i64 yd, .int .i64 ya, .int .i64 yb, .int .i64 yo, .int .i64 yn, .string (mk ym), .slice py ny cy] rfl rfl (by intro ad had; cases had; exact World.news_of_block (heap_new' _ _ _ (by simp))) (fun e => by cases e) HO1.out (by decide) (by simp) ?_; intro vA wA ownA grA; obtain ⟨gA, cA, hvA, hgA1, hgA2⟩ := own_block ownA (by decide); subst hvA; have HOA := Lib.hid ownA; have GA : Hid (Below w4.heap.size w4 wA) := Lib.hid (below_grown (by first | exact ext_alloc (ext_drew (Below.refl _ _)) _ | exact ext_drew (ext_alloc (Below.refl _ _) _)) grA (by simp) (fun k hk => by cases hk)); have q0A : wA.cell? ⟨G, 0, none⟩ = some (.slice none 0 0) := (GA.out.cell (p := ⟨G, 0, none⟩) hl1).trans q0; have z0A : wA.frozen? ⟨G, 0, none⟩ = false := (World.frozen?_of_block (w := w4) (w' := wA) (a := ⟨G, 0, none⟩) (GA.out.block G hl1)).trans z0
          refine hK.out _ _ ?_ (fun hHeld => ?_)
          focus
            (try dsimp only)
            first | exact HKA.out _ (fun b hb _ => (ext_drew (Below.refl w4.heap.size w4)).block b hb) | exact HKA.out _ (fun b hb _ => (ext_drew (ext_alloc (Below.refl w4.heap.size w4) _)).block b hb) | exact HKA.out _ (fun b hb _ => GA.out.block b hb) | exact HKA.out _ (fun b hb hne => (heap_setCell_other _ _ _ _ hne).trans (GA.out.block b hb))
          clear hK K
          refine wpAnyH_take (i := 16) (v := ?_) rfl (by kernel_rfl) (by kernel_rfl) (by kernel_rfl) (fun _ _ _ h => h) (Or.inl ⟨by rfl, ?_⟩) (by assumption) ?_
          rotate_left
          focus
            intro w' hSw
            try dsimp only at hSw
            go_simp
            try with_reducible rfl
          try simp only [Act.put, List.setIfInBounds_toArray, List.set_cons_zero, List.set_cons_succ]
          refine wpAnyH_take (i := 17) (v := ?_) rfl (by kernel_rfl) (by kernel_rfl) (by kernel_rfl) (fun _ _ _ h => h) (Or.inl ⟨by rfl, ?_⟩) (by assumption) ?_
          rotate_left
          focus
            intro w' hSw
            try dsimp only at hSw
            go_simp
            try with_reducible rfl
          try simp only [Act.put, List.setIfInBounds_toArray, List.set_cons_zero, List.set_cons_succ]
          refine wpAnyH_ready (rs := [18]) (by kernel_rfl) (by simp) ?_
          refine AllReadyH.cons rfl (fun K hK => ?_) ?_
          focus
            go_simp
            refine hK.out _ _ ?_ (fun hHeld => ?_)
            focus
              (try dsimp only)
              first | exact HKA.out _ (fun b hb _ => (ext_drew (Below.refl w4.heap.size w4)).block b hb) | exact HKA.out _ (fun b hb _ => (ext_drew (ext_alloc (Below.refl w4.heap.size w4) _)).block b hb) | exact HKA.out _ (fun b hb _ => GA.out.block b hb) | exact HKA.out _ (fun b hb hne => (heap_setCell_other _ _ _ _ hne).trans (GA.out.block b hb))
            clear hK K
            refine wpAnyH_done (by kernel_rfl) ?_ _
          rotate_left
          focus
            exact AllReadyH.nil
        rotate_left
        focus
          exact AllReadyH.nil
      rotate_left
      focus
        exact AllReadyH.nil
    rotate_left
    focus
      exact AllReadyH.nil
    all_goals
      have hSS : SS w3 w4 G lo cap gA cA [.int .i64 yk, .int .i64 yd, .int .i64 ya, .int .i64 yb, .int .i64 yo, .int .i64 yn, .string (mk ym), .slice py ny cy] (wA.setCell ⟨G, 0, none⟩ (.slice (some ⟨gA, 0, none⟩) 1 cA)) := by
        refine ⟨own_set HOA.out hl1, ?_, fun b hb hne => (heap_setCell_other _ _ _ _ hne).trans (GA.out.block b hb)⟩
        have h1 := (own_ext HR4.out GA.out).stored 0 (.slice (some ⟨gA, 0, none⟩) 1 cA)
        exact h1.1
      have hbS : Below wx.heap.size wx (wA.setCell ⟨G, 0, none⟩ (.slice (some ⟨gA, 0, none⟩) 1 cA)) := ext_set (ext_trans G3.out (ext_trans G4.out GA.out)) (by have := HNU.out.lo1; have := HNU.out.lo2; show wx.heap.size ≤ G; omega) _
      go_wp2_with fail
      go_meet
      case rel => exact ⟨rfl, gA, cA, hSS, hbS⟩
  case rest =>
    obtain ⟨rfl, gA, cA, hSS, hbS⟩ := hcut
    obtain ⟨w5, rfl⟩ : ∃ w5, w5 = wc := ⟨_, rfl⟩
    have HS := Lib.hid hSS
    have G5 := Lib.hid hbS
    clear hSS hbS HKA q0 q0d z0 q3 u0 u1 x0 x1 x2 x3 x4 x5 x6 x7
    have HU5 : Hid (w5.heap[w3.heap.size]? = some (.cells #[.slice (some ⟨wx.heap.size + 1, 0, none⟩) 2 2, .slice (some ⟨gF, 0, none⟩) 3 cf] 27 (0, 0))) := Lib.hid ((HS.out.kp _ hs4 hUG).trans HU4.out)
    have HX5 : Hid (w5.heap[w2.heap.size]? = some (.cells #[.int .i64 yk, .int .i64 yd, .int .i64 ya, .int .i64 yb, .int .i64 yo, .int .i64 yn, .string (mk ym), .slice py ny cy] 36 (0, 0))) := Lib.hid ((HS.out.kp _ hl3 hXG).trans hX4.out)
    have HUN : Hid (UnAt (fun b => b < w5.heap.size) w5 (.agg #[.slice (some ⟨wx.heap.size + 1, 0, none⟩) 2 2, .slice (some ⟨gF, 0, none⟩) 3 cf]) (oneU [⟨yk, yd, ya, yb, yo, yn, ym, yl⟩])) := Lib.hid (by
      have hB := HNU.out.lo1
      have hB2 := HNU.out.lo2
      have hB3 := HNU.out.lo3
      have har : (wx.heap.size + 1) < w3.heap.size := (Array.getElem?_eq_some_iff.1 HNU.out.ar).1
      refine un_one ((HS.out.kp _ (by omega) (by omega)).trans ((G4.out.block _ har).trans HNU.out.ar)) (own_kept (own_ext HNU.out.ow G4.out) (fun g hg hl => HS.out.kp g hl (by injection hg with hg; have hg : gF = g := hg; have := HNU.out.gf3; omega))) HNU.out.nm HNU.out.rs ?_ ?_
      · rw [HNU.out.vl]
        have hx : XnsAt (fun _ => True) w5 (.slice (some ⟨gA, 0, none⟩) 1 cA) [⟨yk, yd, ya, yb, yo, yn, ym, yl⟩] := by
          refine row_xns (L := [((⟨yk, yd, ya, yb, yo, yn, ym, yl⟩ : Xn), Value.slice py ny cy)]) (n := 1) HS.out.ox (by simp) (fun _ _ => trivial) (fun c hc => ?_)
          rw [List.mem_singleton.1 hc]
          have hn := nums_lt HY.out
          have h2 : NumsAt (fun b => b < w2.heap.size) w2 (.slice py ny cy) yl := nums_wide (fun b hb => hb.2) hn
          refine nums_wide (fun _ _ => trivial) (nums_kept (nums_kept h2 (fun b hb hl => ((ext_trans GX.out (ext_trans G3.out G4.out)).block b hl))) (fun b hb hl => HS.out.kp b hl (by have : b < w2.heap.size := hb; omega)))
        exact row_bks (L := [((⟨[⟨yk, yd, ya, yb, yo, yn, ym, yl⟩], ⟨1, 0, 0, 0⟩⟩ : Bk), Value.slice (some ⟨gA, 0, none⟩) 1 cA)]) (n := 1) HS.out.ob (by simp) (fun _ _ => trivial) (fun c hc => by rw [List.mem_singleton.1 hc]; exact hx)
      · intro c hc
        refine bks_wide (fun _ _ => trivial) (bks_kept (bks_kept (HNU.out.ot c hc) (kept_below G4.out)) (fun b hb hl => HS.out.kp b hl (by have : m ≤ b := hb; omega))))
    obtain ⟨u0, u1⟩ := two_cells HU5.out
    have hs5 : w3.heap.size < w5.heap.size := (Array.getElem?_eq_some_iff.1 HU5.out).1
    have hv5 : Env w5 := (HV.out.ext (ext_trans G1.out (ext_trans G2.out (ext_trans GX.out (Below.refl _ _))))).ext G5.out
    have HPR := Lib.hid (print_all _ _ w5 HUN.out HUF.out HUW.out HPF.out hv5)
    obtain ⟨T, hT⟩ : ∃ T, unT (oneU [⟨yk, yd, ya, yb, yo, yn, ym, yl⟩]) = T := ⟨_, rfl⟩
    have HLN := Lib.hid HPF.out.ln
    have HTT : Hid (T = preT ++ (insT ⟨yk, yd, ya, yb, yo, yn, ym, yl⟩ ++ ([10, 9] ++ postT))) := Lib.hid (by rw [← hT]; exact HT1.out)
    rw [hT] at HPR HLN
    clear hT hv5
    go_wp2_with fail
    refine (HPR.out).mono ?_; rintro e w6 ⟨rfl, g6⟩
    have G6 : Hid (Below wx.heap.size wx w6) := Lib.hid (ext_trans G5.out g6)
    have HX6 := Lib.hid ((g6.block _ (Array.getElem?_eq_some_iff.1 HX5.out).1).trans HX5.out)
    clear g6 u0 u1 HPR
    go_wp2_with fail
    refine (HF.out w6).mono ?_; rintro e w7 ⟨⟨v, rfl, hfo⟩, g7⟩
    have G7 : Hid (Below wx.heap.size wx w7) := Lib.hid (ext_trans G6.out g7)
    have HX7 := Lib.hid ((g7.block _ (Array.getElem?_eq_some_iff.1 HX6.out).1).trans HX6.out)
    have hv7 : Env w7 := (HV.out.ext (ext_trans G1.out (ext_trans G2.out GX.out))).ext G7.out
    have HPR := Lib.hid (print_all _ _ w7 (un_lt hfo.one.un) HUF0.out HUW0.out HPF0.out hv7)
    obtain ⟨V, hV⟩ : ∃ T, unT (fitU []) = T := ⟨_, rfl⟩
    have HVV : Hid (V = preT ++ postT) := Lib.hid (by rw [← hV]; exact HT0.out)
    rw [hV] at HPR
    clear hV g7 hfo hv7
    go_wp2_with fail
    refine (HPR.out).mono ?_; rintro e w8 ⟨rfl, g8⟩
    have G8 : Hid (Below wx.heap.size wx w8) := Lib.hid (ext_trans G7.out g8)
    have HX8 := Lib.hid ((g8.block _ (Array.getElem?_eq_some_iff.1 HX7.out).1).trans HX7.out)
    clear g8 HPR
    have htx := tx_of _ HTN.out HST.out HTT.out HVV.out
    have HSC : Hid (scanV (insT ⟨yk, yd, ya, yb, yo, yn, ym, yl⟩ ++ [10, 9, 106]) = wantL ⟨yk, yd, ya, yb, yo, yn, ym, yl⟩) := Lib.hid (scan_ins _ HTN.out _ (by decide))
    generalize insT ⟨yk, yd, ya, yb, yo, yn, ym, yl⟩ ++ [10, 9, 106] = seg at *
    generalize (insT ⟨yk, yd, ya, yb, yo, yn, ym, yl⟩).length + 2 = nn at *
    generalize preT.length = aa at *
    have HTX := Lib.hid htx
    have t1 := htx.lt
    have t2 := htx.lv
    have t3 := htx.av
    have t4 := htx.sl
    have t5 := HLN.out
    have t6 := htx.n2
    clear htx
    have zT : (mk T).size = T.length := rfl
    have zV : (mk V).size = V.length := rfl
    have hlen : ¬ ((T.length : Int) ≤ V.length) := by omega
    go_upto_block 0 with (fail)
    go_cut [10] from 60 (fun iv wc => iv = .int .i64 aa ∧ Below w8.heap.size w8 wc)
    case first =>
     go_wp2_with fail
     go_loopw [10] (fun iv wr => ∃ j : Nat, iv = .int .i64 j ∧ j ≤ aa ∧ Below w8.heap.size w8 wr) (fun iv wr => aa - slotN iv)
     case atStart => exact ⟨0, rfl, Nat.zero_le _, Below.refl _ _⟩
     case round =>
       obtain ⟨j, rfl, hj, hbw⟩ := hrel
       have HW := Lib.hid hbw
       clear hbw
       have hj1 : j < T.length := by omega
       have hj2 : j < V.length := by omega
       have hji1 : (j : Int) < T.length := by omega
       have hji2 : (j : Int) < V.length := by omega
       have hdj : decide ((j : Int) < V.length) = true := decide_eq_true hji2
       by_cases hja : j < aa
       · have HEQ : Hid (∀ p q, ((((mk T)[j]'p).toNat : Int) == (((mk V)[j]'q).toNat : Int)) = true) := Lib.hid (fun p q => by rw [byte_is T j hj1 p, byte_is V j hj2 q, HTX.out.sm j hja hj1 hj2]; simp)
         go_upto_region 10 with (fail)
         go_region_held3 (fun _ => True) (exact trivial) ((fail))
         all_goals
           go_wp2_with fail
           focus
             go_roundw
             case rel => exact ⟨j + 1, by go_num, by omega, ext_drew HW.out⟩
             case measure => simp [slotN]; omega
           focus
             rename_i hb
             rw [HEQ.out] at hb
             cases hb
       · obtain rfl : j = aa := by omega
         have HNE : Hid (∀ p q, ((((mk T)[j]'p).toNat : Int) == (((mk V)[j]'q).toNat : Int)) = false) := Lib.hid (fun p q => by
           rw [byte_is T j hj1 p, byte_is V j hj2 q]
           refine beq_eq_false_iff_ne.2 (fun e => HTX.out.ne hj1 hj2 (UInt8.toNat_inj.1 (by omega))))
         go_upto_region 10 with (fail)
         go_region_held3 (fun _ => True) (exact trivial) ((fail))
         all_goals
           go_wp2_with fail
           focus
             rename_i hb
             rw [HNE.out] at hb
             cases hb
           focus
             go_meet
             case rel => exact ⟨rfl, ext_drew HW.out⟩
    case rest =>
     obtain ⟨rfl, hbc⟩ := hcut
     obtain ⟨w9, rfl⟩ : ∃ w9, w9 = wc := ⟨_, rfl⟩
     have G9 : Hid (Below wx.heap.size wx w9) := Lib.hid (ext_trans G8.out hbc)
     have HX9 := Lib.hid ((hbc.block _ (Array.getElem?_eq_some_iff.1 HX8.out).1).trans HX8.out)
     clear hbc
     obtain ⟨W, hW⟩ : ∃ L, wantL ⟨yk, yd, ya, yb, yo, yn, ym, yl⟩ = L := ⟨_, rfl⟩
     have HWW := Lib.hid hW
     rw [hW] at HSC
     clear hW
     have hlenI : ((aa : Int) + T.length) - V.length = ((aa + nn : Nat) : Int) := by omega
     go_upto_block 2 with (fail)
     go_cut [11] from 12 (fun gv wc => (wc.ownsRow w9.heap.size 3 1 gv W.length (W.flatMap cellsN) ∧ W.length ≤ nn) ∧ Below w9.heap.size w9 wc)
     case first =>
      go_wp2_with fail
      go_loopw [11, 12] (fun gv iv wr => ∃ (q : Nat) (L : List Int), iv = .int .i64 q ∧ aa ≤ q ∧ q ≤ aa + nn ∧ Hid (L ++ scanV (seg.drop (q - aa)) = W) ∧ wr.ownsRow w9.heap.size 3 1 gv L.length (L.flatMap cellsN) ∧ L.length ≤ q - aa ∧ Below w9.heap.size w9 wr) (fun gv iv wr => (aa + nn) - slotN iv)
      case atStart => exact ⟨aa, [], rfl, Nat.le_refl _, by omega, Lib.hid (by rw [Nat.sub_self]; exact HSC.out), World.ownsRow_nil _ _ _ _, by simp, Below.refl _ _⟩
      case round =>
        obtain ⟨q, L, rfl, hq1, hq2, HL, hown, hll, hbw⟩ := hrel
        have HO := Lib.hid hown
        have HW := Lib.hid hbw
        have hsr := hbw.size
        obtain ⟨pv, cv, hvv⟩ := own_slice hown
        subst hvv
        clear hown hbw
        by_cases hqn : q < aa + nn
        · have hqi : (q : Int) < ((aa + nn : Nat) : Int) := by omega
          have hqT : (q : Int) < T.length := by omega
          have hqT1 : (q : Int) + 1 < T.length := by omega
          have hqT2 : q + 1 < T.length := by omega
          have hj1 : q - aa + 1 < seg.length := by omega
          have hTq : T[q]'(by omega) = seg[q - aa]'(by omega) := by
            have h := HTX.out.sg (q - aa) (by omega) (by omega)
            have e : aa + (q - aa) = q := by omega
            simp only [e] at h
            exact h
          have hTq1 : T[q + 1]'hqT2 = seg[q - aa + 1]'hj1 := by
            have h := HTX.out.sg (q - aa + 1) hj1 (by omega)
            have e : aa + (q - aa + 1) = q + 1 := by omega
            simp only [e] at h
            exact h
          have hstep := scan_step seg (q - aa) hj1
          obtain ⟨cb, hcb⟩ : ∃ c, seg[q - aa]'(by omega) = c := ⟨_, rfl⟩
          obtain ⟨db, hdb⟩ : ∃ c, seg[q - aa + 1]'hj1 = c := ⟨_, rfl⟩
          rw [hcb] at hTq hstep
          rw [hdb] at hTq1 hstep
          have hcT : ∀ p, (((mk T)[q]'p).toNat : Int) = (cb.toNat : Int) := fun p => by rw [byte_is T q (by omega) p, hTq]
          have hdT : ∀ p, (((mk T)[q + 1]'p).toNat : Int) = (db.toNat : Int) := fun p => by rw [byte_is T (q + 1) hqT2 p, hTq1]
          have eq1 : q + 1 - aa = q - aa + 1 := by omega
          have HSTP := Lib.hid hstep
          have hc118 : (cb.toNat : Int) = 118 ↔ cb = 118 := ⟨fun h => UInt8.toNat_inj.1 (by show cb.toNat = 118; omega), fun h => by rw [h]; rfl⟩
          have hdig : digitB db = true ↔ 48 ≤ (db.toNat : Int) ∧ (db.toNat : Int) ≤ 57 := by unfold digitB; rw [decide_eq_true_iff]; omega
          have HC := Lib.hid hc118
          have HDG := Lib.hid hdig
          obtain ⟨cc, hcc⟩ : ∃ c : Int, (cb.toNat : Int) = c := ⟨_, rfl⟩
          obtain ⟨dd, hdd⟩ : ∃ c : Int, (db.toNat : Int) = c := ⟨_, rfl⟩
          rw [hcc] at hcT HC
          rw [hdd] at hdT HDG
          have hd0 : 0 ≤ dd := by omega
          have hd255 : dd < 256 := by have := db.toNat_lt; omega
          have HDD := Lib.hid hdd
          clear hstep hc118 hdig hTq hTq1 hcb hdb hcc hdd
          have nostep : ¬ (cc = 118 ∧ 48 ≤ dd ∧ dd ≤ 57) → Hid (L ++ scanV (seg.drop (q + 1 - aa)) = W) := fun h => Lib.hid (by
            have h1 := HL.out
            rw [HSTP.out, if_neg (fun k => h ⟨HC.out.2 k.1, (HDG.out.1 k.2).1, (HDG.out.1 k.2).2⟩)] at h1
            rw [eq1]
            exact h1)
          have HNS := Lib.hid nostep
          clear nostep
          by_cases k1 : cc = 118
          · by_cases k2 : 48 ≤ dd
            · by_cases k3 : dd ≤ 57
              · have HYS : Hid ((L ++ [dd - 48]) ++ scanV (seg.drop (q + 1 - aa)) = W) := Lib.hid (by
                  have h1 := HL.out
                  rw [HSTP.out, if_pos ⟨HC.out.1 k1, HDG.out.2 ⟨k2, k3⟩⟩, HDD.out] at h1
                  rw [eq1, List.append_assoc]
                  exact h1)
                go_wp2_with (at_builtin; refine app_at Tryd.underlying34 infoN rfl (by decide) (by decide) rfl _ _ rfl w9.heap.size _ L.length _ rfl (own_ext HO.out (ext_alloc (Below.refl _ _) _)) wr.heap.size 1 (cellsN (dd - 48)) rfl rfl (heap_new _ _) (oneN _) (L.length + 1) rfl (by omega) (by simp; omega) ?_; intro gN cN w10 hown10 hg10 _)
                have G10 : Hid (Below w9.heap.size w9 w10) := Lib.hid (below_grown (ext_alloc HW.out _) hg10 (by simp; omega) (fun k hk => (HO.out.lt k hk).1))
                have HO10 : Hid (w10.ownsRow w9.heap.size 3 1 (.slice (some ⟨gN, 0, none⟩) (L.length + 1) cN) (L ++ [dd - 48]).length ((L ++ [dd - 48]).flatMap cellsN)) := Lib.hid (by
                  rw [List.flatMap_append, List.length_append]
                  simpa using hown10)
                clear hown10 hg10
                go_wp2_with fail
                go_roundw
                case rel => exact ⟨q + 1, _, by go_num, by omega, by omega, HYS, HO10.out, by rw [List.length_append]; simp; omega, G10.out⟩
                case measure => simp [slotN]; omega
              · go_wp2_with fail
                go_roundw
                case rel => exact ⟨q + 1, L, by go_num, by omega, by omega, HNS.out (fun k => k3 k.2.2), HO.out, by omega, HW.out⟩
                case measure => simp [slotN]; omega
            · go_wp2_with fail
              go_roundw
              case rel => exact ⟨q + 1, L, by go_num, by omega, by omega, HNS.out (fun k => k2 k.2.1), HO.out, by omega, HW.out⟩
              case measure => simp [slotN]; omega
          · go_wp2_with fail
            go_roundw
            case rel => exact ⟨q + 1, L, by go_num, by omega, by omega, HNS.out (fun k => k1 k.1), HO.out, by omega, HW.out⟩
            case measure => simp [slotN]; omega
        · obtain rfl : q = aa + nn := by omega
          have HLW : Hid (L = W) := Lib.hid (by
            have h := HL.out
            have e : aa + nn - aa = nn := by omega
            rw [e, List.drop_eq_getElem_cons (by omega), List.drop_eq_nil_of_le (by omega)] at h
            have e2 : scanV [seg[nn]'(by omega)] = [] := rfl
            rw [e2, List.append_nil] at h
            exact h)
          go_wp2_with fail
          go_meet
          case rel =>
            have e := HLW.out
            subst e
            exact ⟨⟨HO.out, by omega⟩, HW.out⟩
     case rest =>
      obtain ⟨⟨hgo, hWn⟩, hbc⟩ := hcut
      have HGO := Lib.hid hgo
      have HBC := Lib.hid hbc
      clear hgo hbc
      have HX10 := Lib.hid ((HBC.out.block _ (Array.getElem?_eq_some_iff.1 HX9.out).1).trans HX9.out)
      have GC : Hid (Below wx.heap.size wx wc) := Lib.hid (ext_trans G9.out HBC.out)
      have HSE := Lib.hid (fun (w' : World) => sets_any ⟨yk, yd, ya, yb, yo, yn, ym, yl⟩ (.slice py ny cy) w')
      have hy2 : NumsAt (fun b => b < w2.heap.size) w2 (.slice py ny cy) yl := nums_wide (fun b hb => hb.2) (nums_lt HY.out)
      have HUS : Hid (∀ w', Below wx.heap.size wx w' → Calls Tryd.prog 14 #[xnV ⟨yk, yd, ya, yb, yo, yn, ym, yl⟩ (.slice py ny cy)] w' fun e w'' => NumRes w'.heap.size (usesL ⟨yk, yd, ya, yb, yo, yn, ym, yl⟩) e w'' ∧ Below w'.heap.size w' w'') := Lib.hid (fun w' g => uses_any _ _ HIO.out.lo HIO.out.hi w' (nums_wide (fun b (hb : b < w2.heap.size) => (by have := g.size; have := GX.out.size; omega : b < w'.heap.size)) (nums_kept (nums_kept hy2 (kept_below GX.out)) (fun b hb hl => g.block b (by have : b < w2.heap.size := hb; omega)))) HIO.out.ar)
      have hlu : (usesL ⟨yk, yd, ya, yb, yo, yn, ym, yl⟩).length ≤ 10 := by
        have h6 := HIO.out.ar
        have h6 : yl.length ≤ 6 := h6
        unfold usesL
        simp only [List.length_append]
        have e1 : ∀ (b : Bool) (x : Int), (if b = true then [x] else []).length ≤ 1 := fun b x => by split <;> simp
        have g1 := e1 (hA yk) ya
        have g2 := e1 (hB yk) yb
        have g3 : (if yk = 9 then yl else []).length ≤ 6 := by
          split
          · exact h6
          · simp
        omega
      have hWW := HWW.out
      unfold wantL at hWW
      generalize usesL ⟨yk, yd, ya, yb, yo, yn, ym, yl⟩ = ul at *
      generalize setsL ⟨yk, yd, ya, yb, yo, yn, ym, yl⟩ = sl at *
      unfold xnV at HSE HUS
      simp only at HSE HUS
      rw [HNY.out] at *
      obtain ⟨x0, x1, x2, x3, x4, x5, x6, x7⟩ := eight_cells' HX10.out
      have hxc : w2.heap.size < wc.heap.size := (Array.getElem?_eq_some_iff.1 HX10.out).1
      have HWS := Lib.hid hWW
      clear hWW hy2
      by_cases hs : 0 ≤ sl
      · go_wp2_with fail
        refine (HSE.out _).mono ?_; rintro e w10 ⟨rfl, g10⟩
        have G10c : Hid (Below wc.heap.size wc w10) := Lib.hid g10
        have HXa := Lib.hid ((g10.block _ hxc).trans HX10.out)
        clear g10 x0 x1 x2 x3 x4 x5 x6 x7
        obtain ⟨x0, x1, x2, x3, x4, x5, x6, x7⟩ := eight_cells' HXa.out
        have hxa : w2.heap.size < w10.heap.size := (Array.getElem?_eq_some_iff.1 HXa.out).1
        go_wp2_with fail
        refine (HSE.out _).mono ?_; rintro e w11 ⟨rfl, g11⟩
        have G11c : Hid (Below wc.heap.size wc w11) := Lib.hid (ext_trans G10c.out g11)
        have HX11 := Lib.hid ((g11.block _ hxa).trans HXa.out)
        clear g11
        go_wp2_with (at_builtin; refine app_at Tryd.underlying34 infoN rfl (by decide) (by decide) rfl _ _ rfl w11.heap.size _ 0 [] rfl (World.ownsRow_nil _ _ _ _) w11.heap.size 1 (cellsN sl) rfl rfl (heap_new _ _) (oneN _) 1 rfl (by omega) (by simp) ?_; intro gN cN w12 hown12 hg12 _; have HO12 := Lib.hid hown12; have G12 : Hid (Below w11.heap.size w11 w12) := Lib.hid (below_grown (ext_alloc (Below.refl _ _) _) hg12 (by simp) (fun k hk => by cases hk)); have HX12 := Lib.hid ((G12.out.block _ (Array.getElem?_eq_some_iff.1 HX11.out).1).trans HX11.out); clear hown12 hg12 x0 x1 x2 x3 x4 x5 x6 x7; obtain ⟨x0, x1, x2, x3, x4, x5, x6, x7⟩ := eight_cells' HX12.out; have hx12 : w2.heap.size < w12.heap.size := (Array.getElem?_eq_some_iff.1 HX12.out).1)
        have G12c : Hid (Below wc.heap.size wc w12) := Lib.hid (ext_trans G11c.out G12.out)
        have G12x : Hid (Below wx.heap.size wx w12) := Lib.hid (ext_trans GC.out G12c.out)
        refine (HUS.out _ G12x.out).mono ?_; rintro e w13 ⟨⟨vu, rfl, hu⟩, g13⟩
        obtain ⟨pu, cu, hvu⟩ := row_slice hu
        subst hvu
        obtain ⟨nu, hnu⟩ : ∃ z, ul.length = z := ⟨_, rfl⟩
        have HNU2 := Lib.hid hnu
        rw [hnu] at hu hlu ⊢
        clear hnu
        have HUR := Lib.hid (nums_read hu)
        have HUZ : Hid (pu = none → nu = 0) := Lib.hid (fun e => by rw [e] at hu; exact nums_none hu)
        have HUL : Hid ((ul.flatMap cellsN).length = nu * 1) := Lib.hid (by rw [flat_len cellsN 1 lenN, HNU2.out])
        have HON : Hid (∀ u ∈ ul.flatMap cellsN, u.oneCell' = true) := Lib.hid (fun u hu => by
          obtain ⟨c, _, hu⟩ := List.mem_flatMap.1 hu
          exact oneN c u hu)
        have G13 : Hid (Below wx.heap.size wx w13) := Lib.hid (ext_trans G12x.out g13)
        have GC13 : Hid (Below wc.heap.size wc w13) := Lib.hid (ext_trans G12c.out g13)
        have HO13 : Hid (w13.ownsRow w11.heap.size 3 1 (.slice (some ⟨gN, 0, none⟩) 1 cN) 1 ([sl].flatMap cellsN)) := Lib.hid (own_ext HO12.out g13)
        have hs13 : w11.heap.size ≤ w13.heap.size := by have := g13.size; have := G12.out.size; omega
        clear hu g13
        go_wp2_with (at_builtin; refine wpl_app_more Tryd.underlying34 infoN rfl (by decide) (by decide) rfl _ _ rfl (w11.heap.size) _ 1 ([sl].flatMap cellsN) rfl HO13.out pu nu cu (ul.flatMap cellsN) rfl HUL.out HUR.out.2 HUZ.out HON.out (by omega) hs13 ?_; intro vW w14 hown14 hg14; have G14 : Hid (Below wc.heap.size wc w14) := Lib.hid (below_grown GC13.out hg14 GC13.out.size (fun k hk => by have h1 := (HO13.out.lt k hk).1; have h2 := G11c.out.size; omega)); have HN14 : Hid (NumsAt (fun _ => True) w14 vW W) := Lib.hid (by rw [← HWS.out]; have h := row_nums (A := fun _ => True) (L := [sl] ++ ul) (by rw [List.flatMap_append]; exact hown14) (by rw [List.length_append, HNU2.out]; simp; omega) (fun _ _ => trivial); rw [if_pos (by omega : 0 ≤ sl)]; exact h); clear hown14 hg14)
        have HGN : Hid (NumsAt (fun _ => True) w14 _ W) := Lib.hid (row_nums (own_ext HGO.out G14.out) (by omega) (fun _ _ => trivial))
        have HIN := Lib.hid (ints_same W _ _ w14 HGN.out HN14.out)
        go_wp2_with fail
        refine HIN.out.mono ?_; rintro e w15 ⟨rfl, g15⟩
        have G15 : Hid (Below w.heap.size w w15) := Lib.hid (ext_trans G1.out (ext_trans G2.out (ext_trans GX.out (ext_trans GC.out (ext_trans G14.out g15)))))
        clear g15
        go_wp2_with fail
        go_ret
        exact ⟨rfl, G15.out⟩
      · go_wp2_with fail
        refine (HSE.out _).mono ?_; rintro e w10 ⟨rfl, g10⟩
        have G10c : Hid (Below wc.heap.size wc w10) := Lib.hid g10
        have HXa := Lib.hid ((g10.block _ hxc).trans HX10.out)
        clear g10 x0 x1 x2 x3 x4 x5 x6 x7
        obtain ⟨x0, x1, x2, x3, x4, x5, x6, x7⟩ := eight_cells' HXa.out
        have hxa : w2.heap.size < w10.heap.size := (Array.getElem?_eq_some_iff.1 HXa.out).1
        have G10x : Hid (Below wx.heap.size wx w10) := Lib.hid (ext_trans GC.out G10c.out)
        go_wp2_with fail
        refine (HUS.out _ G10x.out).mono ?_; rintro e w13 ⟨⟨vu, rfl, hu⟩, g13⟩
        obtain ⟨pu, cu, hvu⟩ := row_slice hu
        subst hvu
        obtain ⟨nu, hnu⟩ : ∃ z, ul.length = z := ⟨_, rfl⟩
        have HNU2 := Lib.hid hnu
        rw [hnu] at hu hlu ⊢
        clear hnu
        have HUR := Lib.hid (nums_read hu)
        have HUZ : Hid (pu = none → nu = 0) := Lib.hid (fun e => by rw [e] at hu; exact nums_none hu)
        have HUL : Hid ((ul.flatMap cellsN).length = nu * 1) := Lib.hid (by rw [flat_len cellsN 1 lenN, HNU2.out])
        have HON : Hid (∀ u ∈ ul.flatMap cellsN, u.oneCell' = true) := Lib.hid (fun u hu => by
          obtain ⟨c, _, hu⟩ := List.mem_flatMap.1 hu
          exact oneN c u hu)
        have G13 : Hid (Below wx.heap.size wx w13) := Lib.hid (ext_trans G10x.out g13)
        have GC13 : Hid (Below wc.heap.size wc w13) := Lib.hid (ext_trans G10c.out g13)
        have HO13 : Hid (w13.ownsRow w10.heap.size 3 1 (.slice none 0 0) 0 (([] : List Int).flatMap cellsN)) := Lib.hid (World.ownsRow_nil _ _ _ _)
        have hs13 : w10.heap.size ≤ w13.heap.size := by have := g13.size; omega
        clear hu g13
        go_wp2_with (at_builtin; refine wpl_app_more Tryd.underlying34 infoN rfl (by decide) (by decide) rfl _ _ rfl (w10.heap.size) _ 0 (([] : List Int).flatMap cellsN) rfl HO13.out pu nu cu (ul.flatMap cellsN) rfl HUL.out HUR.out.2 HUZ.out HON.out (by omega) hs13 ?_; intro vW w14 hown14 hg14; have G14 : Hid (Below wc.heap.size wc w14) := Lib.hid (below_grown GC13.out hg14 GC13.out.size (fun k hk => by have h1 := (HO13.out.lt k hk).1; have h2 := G10c.out.size; omega)); have HN14 : Hid (NumsAt (fun _ => True) w14 vW W) := Lib.hid (by rw [← HWS.out]; have h := row_nums (A := fun _ => True) (L := ([] : List Int) ++ ul) (by rw [List.flatMap_append]; exact hown14) (by rw [List.length_append, HNU2.out]; simp; omega) (fun _ _ => trivial); rw [if_neg (by omega : ¬ 0 ≤ sl)]; exact h); clear hown14 hg14)
        have HGN : Hid (NumsAt (fun _ => True) w14 _ W) := Lib.hid (row_nums (own_ext HGO.out G14.out) (by omega) (fun _ _ => trivial))
        have HIN := Lib.hid (ints_same W _ _ w14 HGN.out HN14.out)
        go_wp2_with fail
        refine HIN.out.mono ?_; rintro e w15 ⟨rfl, g15⟩
        have G15 : Hid (Below w.heap.size w w15) := Lib.hid (ext_trans G1.out (ext_trans G2.out (ext_trans GX.out (ext_trans GC.out (ext_trans G14.out g15)))))
        clear g15
        go_wp2_with fail
        go_ret
        exact ⟨rfl, G15.out⟩
end Go.Proofs.YtafapkljlajflaaDoor
