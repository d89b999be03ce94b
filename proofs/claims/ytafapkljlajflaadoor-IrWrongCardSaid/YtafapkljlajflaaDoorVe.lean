/- IrWrong, walked. -/
import Derived.Test.YtafapkljlajflaaDoorRows
import Derived.WalkKit
import Derived.ProofKit
import Derived.OpenShut
import Derived.WalkLawsBesides
import Derived.WalkSpells
import Derived.Outline
import Derived.Handy
import Derived.Lib.Hide
import Derived.Lib.OthersKept
import Derived.KernelRfl
import Derived.Carry
import Derived.RegionTactic
import Derived.BigRegion
import Derived.OwnWalk
import Derived.Deep.Cut
import Derived.IntWalk
import Derived.Deep.QuietTactic
import Derived.BigQuiet
import Derived.Deep.RegionHeld3
import Derived.Deep.RegionLaw
import Derived.Deep.AppendLies
import Derived.Test.YtafapkljlajflaaDoorVb
import Derived.Test.YtafapkljlajflaaDoorVd
import Derived.Test.YtafapkljlajflaaDoorUl
import Derived.Test.YtafapkljlajflaaDoorUd
import Derived.Test.YtafapkljlajflaaDoorVf
namespace Go.Proofs.YtafapkljlajflaaDoor
open Go.ChangeShapes Go.WideShapes Go.ChangeAt Go.RowKit
set_option linter.unusedVariables false
def badC (g : Nat) (n : Int) : Array Value := (((badX n).map fun x => (x, if x.args = [] then Value.slice none 0 0 else Value.slice (some ⟨g, 0, none⟩) 1 1)).flatMap cellsX).toArray
set_option maxRecDepth 100000 in
theorem bad_row {W : World} {g : Nat} {n : Int} (h0 : W.heap[g]? = some (.cells #[.int .i64 n] 3 (0, 0))) (h1 : W.heap[g + 1]? = some (.cells (badC g n) 36 (0, 0))) : XnsAt (fun b => g ≤ b) W (.slice (some ⟨g + 1, 0, none⟩) 12 12) (badX n) := by
  refine ⟨by show 12 ≤ _; decide, _, _, rfl, fun i hi => ⟨_, rfl, by show g ≤ g + 1; omega, ?_⟩⟩
  have hi12 : i < 12 := hi
  rw [addr_add, Nat.zero_add]
  rcases (by omega : i = 0 ∨ i = 1 ∨ i = 2 ∨ i = 3 ∨ i = 4 ∨ i = 5 ∨ i = 6 ∨ i = 7 ∨ i = 8 ∨ i = 9 ∨ i = 10 ∨ i = 11) with rfl | rfl | rfl | rfl | rfl | rfl | rfl | rfl | rfl | rfl | rfl | rfl
  · exact ⟨cell_row h1 0, cell_row h1 1, cell_row h1 2, cell_row h1 3, cell_row h1 4, cell_row h1 5, cell_row h1 6, _, cell_row h1 7, RowAt.nil⟩
  · exact ⟨cell_row h1 8, cell_row h1 9, cell_row h1 10, cell_row h1 11, cell_row h1 12, cell_row h1 13, cell_row h1 14, _, cell_row h1 15, RowAt.nil⟩
  · exact ⟨cell_row h1 16, cell_row h1 17, cell_row h1 18, cell_row h1 19, cell_row h1 20, cell_row h1 21, cell_row h1 22, _, cell_row h1 23, RowAt.nil⟩
  · exact ⟨cell_row h1 24, cell_row h1 25, cell_row h1 26, cell_row h1 27, cell_row h1 28, cell_row h1 29, cell_row h1 30, _, cell_row h1 31, RowAt.nil⟩
  · exact ⟨cell_row h1 32, cell_row h1 33, cell_row h1 34, cell_row h1 35, cell_row h1 36, cell_row h1 37, cell_row h1 38, _, cell_row h1 39, RowAt.nil⟩
  · exact ⟨cell_row h1 40, cell_row h1 41, cell_row h1 42, cell_row h1 43, cell_row h1 44, cell_row h1 45, cell_row h1 46, _, cell_row h1 47, RowAt.nil⟩
  · exact ⟨cell_row h1 48, cell_row h1 49, cell_row h1 50, cell_row h1 51, cell_row h1 52, cell_row h1 53, cell_row h1 54, _, cell_row h1 55, RowAt.nil⟩
  · exact ⟨cell_row h1 56, cell_row h1 57, cell_row h1 58, cell_row h1 59, cell_row h1 60, cell_row h1 61, cell_row h1 62, _, cell_row h1 63, RowAt.nil⟩
  · exact ⟨cell_row h1 64, cell_row h1 65, cell_row h1 66, cell_row h1 67, cell_row h1 68, cell_row h1 69, cell_row h1 70, _, cell_row h1 71, RowAt.nil⟩
  · exact ⟨cell_row h1 72, cell_row h1 73, cell_row h1 74, cell_row h1 75, cell_row h1 76, cell_row h1 77, cell_row h1 78, _, cell_row h1 79, RowAt.nil⟩
  · exact ⟨cell_row h1 80, cell_row h1 81, cell_row h1 82, cell_row h1 83, cell_row h1 84, cell_row h1 85, cell_row h1 86, _, cell_row h1 87, one_row (Nat.le_refl _) (cell_row h0 0)⟩
  · exact ⟨cell_row h1 88, cell_row h1 89, cell_row h1 90, cell_row h1 91, cell_row h1 92, cell_row h1 93, cell_row h1 94, _, cell_row h1 95, RowAt.nil⟩
theorem five_both {w : World} {b : Nat} {v0 v1 v2 v3 v4 : Value} {t : TypeId} (h : w.heap[b]? = some (.cells #[v0, v1, v2, v3, v4] t (0, 0))) :
    (w.cell? ⟨b, 0, none⟩ = some v0 ∧ w.cell? ⟨b, 1, none⟩ = some v1 ∧ w.cell? ⟨b, 2, none⟩ = some v2 ∧ w.cell? ⟨b, 3, none⟩ = some v3 ∧ w.cell? ⟨b, 4, none⟩ = some v4) ∧ w.frozen? ⟨b, 0, none⟩ = false ∧ w.frozen? ⟨b, 1, none⟩ = false ∧ w.frozen? ⟨b, 2, none⟩ = false ∧ w.frozen? ⟨b, 3, none⟩ = false ∧ w.frozen? ⟨b, 4, none⟩ = false := by
  simp [World.cell?, World.frozen?, h]
/-- An end written into a block, a new list behind it. -/
theorem term_put {w0 w : World} {b : Nat} {v0 v1 v2 v3 v4 : Value} {t : TypeId} (h : w.heap[b]? = some (.cells #[v0, v1, v2, v3, v4] t (0, 0))) (hb : Below w0.heap.size w0 w) (hB : w0.heap.size ≤ b) (x1 x2 x3 x4 : Value) (X : Obj) :
    (((((w.setCell ⟨b, 1, none⟩ x1).setCell ⟨b, 2, none⟩ x2).setCell ⟨b, 3, none⟩ x3).setCell ⟨b, 4, none⟩ x4).alloc X).heap[b]? = some (.cells #[v0, x1, x2, x3, x4] t (0, 0)) ∧ Below w0.heap.size w0 (((((w.setCell ⟨b, 1, none⟩ x1).setCell ⟨b, 2, none⟩ x2).setCell ⟨b, 3, none⟩ x3).setCell ⟨b, 4, none⟩ x4).alloc X) ∧ ∀ k, k ≠ b → k < w.heap.size → (((((w.setCell ⟨b, 1, none⟩ x1).setCell ⟨b, 2, none⟩ x2).setCell ⟨b, 3, none⟩ x3).setCell ⟨b, 4, none⟩ x4).alloc X).heap[k]? = w.heap[k]? := by
  have h1 := heap_setCell_same _ _ 1 _ _ x1 h
  have h2 := heap_setCell_same _ _ 2 _ _ x2 h1
  have h3 := heap_setCell_same _ _ 3 _ _ x3 h2
  have h4 := heap_setCell_same _ _ 4 _ _ x4 h3
  have hsz : ((((w.setCell ⟨b, 1, none⟩ x1).setCell ⟨b, 2, none⟩ x2).setCell ⟨b, 3, none⟩ x3).setCell ⟨b, 4, none⟩ x4).heap.size = w.heap.size := by simp
  refine ⟨?_, ext_alloc (ext_set (ext_set (ext_set (ext_set hb hB _) hB _) hB _) hB _) _, fun k hk hl => ?_⟩
  · rw [Lib.alloc_old _ _ _ (by rw [hsz]; exact (Array.getElem?_eq_some_iff.1 h).1), h4]
    simp
  · rw [Lib.alloc_old _ _ _ (by rw [hsz]; exact hl), heap_setCell_other _ _ _ _ hk, heap_setCell_other _ _ _ _ hk, heap_setCell_other _ _ _ _ hk, heap_setCell_other _ _ _ _ hk]
/-- Where the two ways meet: the spoiled block lies in a block of its own. -/
structure Sp (gF : Nat) (w4 W : World) (x : Bk) (px : Option Addr) (nx cx : Nat) (sk sa st se : Int) : Prop where
  of ::
  box : W.heap[w4.heap.size]? = some (.cells #[.slice px nx cx, .int .i64 sk, .int .i64 sa, .int .i64 st, .int .i64 se] 43 (0, 0))
  ins : XnsAt (fun b => b ≠ gF) W (.slice px nx cx) x.ins
  trm : x.term = ⟨sk, sa, st, se⟩
  bl : Below w4.heap.size w4 W
theorem wr64 {n : Int} (h : I64 n) : IntKind.i64.wrap n = n := by
  obtain ⟨h1, h2⟩ := h
  unfold IntKind.wrap
  simp [IntKind.bits, IntKind.signed]
  omega
theorem quo_in {n : Int} (h : I64 n) : I64 (n.tdiv 3) := by
  obtain ⟨h1, h2⟩ := h
  by_cases hn : 0 ≤ n
  · rw [Int.tdiv_eq_ediv_of_nonneg hn]
    exact ⟨by omega, by omega⟩
  · have e : n.tdiv 3 = -((-n) / 3) := by
      have := Int.tdiv_eq_ediv_of_nonneg (a := -n) (b := 3) (by omega)
      rw [Int.neg_tdiv] at this
      omega
    rw [e]
    exact ⟨by omega, by omega⟩
theorem then_gen {P : World → Prop} {K : Act → World → Prop} {Q : Exit → Act → World → Prop} {a : Act} {W : World} (h : P W) (k : ∀ W, P W → Exit.then K Q .normal a W) : Exit.then K Q .normal a W := k W h
set_option maxRecDepth 100000 in
set_option maxHeartbeats 16000000 in
theorem irwrong_any (raw : List Bk) (hr : ∀ b ∈ raw, AllK b) (rv : Value) (which what by_ : Int) (w : World) (hrv : BksAt (fun b => b < w.heap.size) w rv raw) (h1 : I64 which) (h2 : I64 what) (h3 : I64 by_) (hv : Env w) :
    Calls Tryd.prog 5 #[rv, .int .i64 which, .int .i64 what, .int .i64 by_] w fun e w' => e = .returned (.bool true) ∧ Below w.heap.size w w' := by
  have HA := Lib.hid (awake_any w hv)
  have HF := Lib.hid (fun (w' : World) (g : Below w.heap.size w w') => lfit_own raw hr rv w' (bks_wide (fun b (hb : b < w.heap.size) => (by have := g.size; omega : b < w'.heap.size)) (bks_kept hrv (kept_below g))))
  have HV := Lib.hid hv
  have H1 := Lib.hid h1
  have H2 := Lib.hid h2
  have H3 := Lib.hid h3
  obtain ⟨pr, cr, hrs⟩ := row_slice hrv
  subst hrs
  clear hrv hv hr h1 h2 h3
  generalize raw.length = nr at *
  go_enter Tryd.func5, Tryd.ntmps5
  go_wp2_with fail
  refine (HA.out).mono ?_; rintro e w1 ⟨rfl, g1⟩
  have G1 := Lib.hid g1; clear g1
  go_wp2_with fail
  refine (HF.out _ G1.out).mono ?_; rintro e w2 ⟨⟨v, rfl, P, pf, cf, rfl, har, hP, how, hbk⟩, g2⟩
  have G2 : Hid (Below w1.heap.size w1 w2) := Lib.hid g2
  obtain ⟨gF, cf', hq, hg1, hg2⟩ := own_block how (by decide)
  injection hq with hq1 hq2 hq3
  subst hq1 hq3
  have HAR := Lib.hid har
  have HP := Lib.hid hP
  have HOW := Lib.hid how
  have HBK := Lib.hid hbk
  clear g2 har hP how hbk hq2
  go_upto_region 3 with (fail)
  obtain ⟨w3, hw3⟩ : ∃ w3, w2.alloc (.cells #[.slice (some ⟨w1.heap.size + 1, 0, none⟩) 2 2, .slice (some ⟨gF, 0, none⟩) 3 cf] 27) = w3 := ⟨_, rfl⟩
  have HUB : Hid (w3.heap[w2.heap.size]? = some (.cells #[.slice (some ⟨w1.heap.size + 1, 0, none⟩) 2 2, .slice (some ⟨gF, 0, none⟩) 3 cf] 27 (0, 0))) := Lib.hid (by rw [← hw3]; exact heap_new _ _)
  have G3 : Hid (Below w2.heap.size w2 w3) := Lib.hid (by rw [← hw3]; exact ext_alloc (Below.refl _ _) _)
  rw [hw3]
  clear hw3
  go_wp2_with fail
  refine (pick_any which 3 w3 H1.out (by decide)).mono ?_; rintro e w3' ⟨rfl, rfl⟩
  obtain ⟨k, hk⟩ : ∃ k : Nat, pickN which 3 = (k : Int) := ⟨(pickN which 3).toNat, (Int.toNat_of_nonneg (pickN_lo _ _ (by decide))).symm⟩
  have hk3 : k < 3 := by have := pickN_hi which 3 (by decide); omega
  rw [hk]
  clear hk
  go_upto_region 4 with (fail)
  have hPl : P.length = 3 := by have := congrArg List.length HP.out; simpa [fitU] using this
  have hkP : k < P.length := by omega
  obtain ⟨fl, hfl⟩ : ∃ c, c = P[k]'hkP := ⟨_, rfl⟩
  have hf1 : fl.1 = flwF raw k := by
    have e1 : (P.map (·.1))[k]? = some fl.1 := by rw [List.getElem?_map, List.getElem?_eq_getElem hkP, hfl]; rfl
    rw [HP.out] at e1
    have e2 : (fitU raw).flows[k]? = some (flwF raw k) := by
      rcases (by omega : k = 0 ∨ k = 1 ∨ k = 2) with rfl | rfl | rfl <;> rfl
    exact Option.some.inj (e1.symm.trans e2)
  obtain ⟨nb, hnb⟩ : ∃ nb, (flwF raw k).blocks.length = nb := ⟨_, rfl⟩
  have hnb1 : 1 ≤ nb := by rw [← hnb]; unfold flwF; rw [List.length_map]; exact (bksOf_len raw k).1
  have hnb8 : nb ≤ 8 := by rw [← hnb]; unfold flwF; rw [List.length_map]; exact (bksOf_len raw k).2
  have HFL : Hid (fl = P[k]'hkP) := Lib.hid hfl
  have HF1 := Lib.hid hf1
  have HNB := Lib.hid hnb
  have hbk := HBK.out fl (by rw [hfl]; exact List.getElem_mem hkP)
  rw [hf1] at hbk
  obtain ⟨pb, cb, hvb⟩ := row_slice hbk
  rw [hnb] at hvb
  have HBQ := Lib.hid hbk
  have HVB := Lib.hid hvb
  obtain ⟨hz, _, _, hq, hcell⟩ := row_get lenF (by decide) HOW.out
  clear hz
  injection hq with hq1 hq2 hq3
  subst hq1 hq3
  obtain ⟨_, hgq, _, _, hcg⟩ := hcell k hkP
  cases hgq
  rw [← hfl] at hcg
  have q3 : w3.cell? ⟨gF, k * 4 + 3, none⟩ = some (.slice pb nb cb) := by
    refine (G3.out.cell hg2).trans ((hcg 3 (by decide)).trans ?_)
    show some fl.2 = _
    rw [hvb]
  have HQ3 := Lib.hid q3
  obtain ⟨c0, c1⟩ := two_cells HUB.out
  have hu : w2.heap.size < w3.heap.size := (Array.getElem?_eq_some_iff.1 HUB.out).1
  have hgF3 : gF < w3.heap.size := by omega
  have hnbi : ((nb : Int) : Int) ≠ 0 := by omega
  have HCG : Hid (w2.cell? ⟨gF, k * 4, none⟩ = some (.string (mk (flwF raw k).name)) ∧ w2.cell? ⟨gF, k * 4 + 1, none⟩ = some (.int .i64 (flwF raw k).params) ∧ w2.cell? ⟨gF, k * 4 + 2, none⟩ = some (.int .i64 (flwF raw k).values)) := Lib.hid (by
    refine ⟨(hcg 0 (by decide)).trans ?_, (hcg 1 (by decide)).trans ?_, (hcg 2 (by decide)).trans ?_⟩
    · show some (Value.string (mk fl.1.name)) = _
      rw [hf1]
    · show some (Value.int .i64 fl.1.params) = _
      rw [hf1]
    · show some (Value.int .i64 fl.1.values) = _
      rw [hf1])
  clear hcell hcg hfl hf1 hnb hbk hvb hq2
  obtain ⟨qd, hqd⟩ : ∃ q, which.tdiv 3 = q := ⟨_, rfl⟩
  have hqi : I64 qd := by rw [← hqd]; exact quo_in H1.out
  have HQI := Lib.hid hqi
  have hqw : IntKind.i64.wrap qd = qd := wr64 hqi
  clear hqi
  have HPL := Lib.hid hPl
  clear hPl
  go_wp2_with fail
  refine (pick_any qd nb w3 HQI.out (by omega)).mono ?_; rintro e w3' ⟨rfl, rfl⟩
  obtain ⟨i, hi⟩ : ∃ i : Nat, pickN qd nb = (i : Int) := ⟨(pickN qd nb).toNat, (Int.toNat_of_nonneg (pickN_lo _ _ (by omega))).symm⟩
  have hin : i < nb := by have := pickN_hi qd nb (by omega); omega
  rw [hi]
  clear hi hqd hqw
  go_wp2_with fail
  refine (pick_any by_ 100 w3 H3.out (by decide)).mono ?_; rintro e w3' ⟨rfl, rfl⟩
  obtain ⟨n, hn⟩ : ∃ n : Int, pickN by_ 100 = n - 10 := ⟨pickN by_ 100 + 10, by omega⟩
  have hn1 : 10 ≤ n := by have := pickN_lo by_ 100 (by decide); omega
  have hn2 : n < 110 := by have := pickN_hi by_ 100 (by decide); omega
  have hn3 : 10 + (n - 10) = n := by omega
  rw [hn]
  clear hn
  go_upto_region 6 with (fail)
  clear hn3
  go_upto_region 7 with (fail)
  have hbw : Below w3.heap.size w3 ((w3.alloc (.cells #[.int .i64 n] 3)).alloc (.cells (badC w3.heap.size n) 36)) := ext_alloc (ext_alloc (Below.refl _ _) _) _
  have hbr : XnsAt (fun b => w3.heap.size ≤ b) ((w3.alloc (.cells #[.int .i64 n] 3)).alloc (.cells (badC w3.heap.size n) 36)) (.slice (some ⟨w3.heap.size + 1, 0, none⟩) 12 12) (badX n) :=
    bad_row ((Lib.alloc_old _ _ _ (by simp)).trans (heap_new _ _)) (heap_new' _ _ _ (by simp))
  refine wp_gen (P := fun W => XnsAt (fun b => w3.heap.size ≤ b) W (.slice (some ⟨w3.heap.size + 1, 0, none⟩) 12 12) (badX n) ∧ Below w3.heap.size w3 W) (W := (w3.alloc (.cells #[.int .i64 n] 3)).alloc (.cells (badC w3.heap.size n) 36)) ⟨hbr, hbw⟩ ?_
  clear hbr hbw
  rintro w4 ⟨hbr, g4⟩
  have HBR := Lib.hid hbr
  have G4 := Lib.hid g4
  have c1 := (g4.cell hu).trans c1
  have q3 := (g4.cell hgF3).trans q3
  have hu4 : w2.heap.size < w4.heap.size := by have := g4.size; omega
  have hgF4 : gF < w4.heap.size := by have := g4.size; omega
  clear hbr g4 c0
  have hil : i < (flwF raw k).blocks.length := by rw [HNB.out]; exact hin
  obtain ⟨xb, hxb⟩ : ∃ x, x = (flwF raw k).blocks[i]'hil := ⟨_, rfl⟩
  have HXB := Lib.hid hxb
  have hb4 : BksAt (fun b => b ≠ gF) w4 (.slice pb nb cb) (flwF raw k).blocks := by
    have e := HBQ.out
    rw [HVB.out] at e
    exact bks_kept (bks_wide (fun b (hb : w1.heap.size + 4 ≤ b ∧ (Value.slice (some ⟨gF, 0, none⟩) 3 cf).ownBlock ≠ some b) (eb : b = gF) => hb.2 (by rw [eb]; rfl)) e) (kept_below (ext_trans G3.out G4.out))
  have HB4 := Lib.hid hb4
  obtain ⟨_, _, _, hq, hbc⟩ := hb4
  injection hq with hq1 hq2 hq3
  subst hq1 hq3
  obtain ⟨ab, hab, _, kb⟩ := hbc i hil
  subst hab
  rw [← hxb] at kb
  obtain ⟨vi, p0, p1, p2, p3, p4, hvi⟩ := bk_get kb
  obtain ⟨pi, ci, hvi2⟩ := row_slice hvi
  subst hvi2
  obtain ⟨xi, ⟨tk, ta, tt, te⟩⟩ := xb
  simp only at p0 p1 p2 p3 p4 hvi
  have HVI := Lib.hid hvi
  obtain ⟨mi, hmi⟩ : ∃ m, xi.length = m := ⟨_, rfl⟩
  rw [hmi] at p0 HVI
  have HMI := Lib.hid hmi
  have hab4 : (ab.add (i * 5)).block < w4.heap.size := cell_lt p0
  clear kb hbc hvi hxb hq2 hmi
  go_wp2_with fail
  refine (pick_any what 15 _ H2.out (by decide)).mono ?_; rintro e w5 ⟨rfl, rfl⟩
  obtain ⟨m, hm⟩ : ∃ m : Nat, pickN what 15 = (m : Int) := ⟨(pickN what 15).toNat, (Int.toNat_of_nonneg (pickN_lo _ _ (by decide))).symm⟩
  have hm15 : m < 15 := by have := pickN_hi what 15 (by decide); omega
  rw [hm]
  clear hm
  by_cases h12 : m < 12
  rotate_left
  focus
    have hm12 : ¬ (m : Int) < 12 := by omega
    go_upto_region 11 with (fail)
    obtain ⟨w5, hw5⟩ : ∃ w5, w4.alloc (.cells #[.slice pi mi ci, .int .i64 tk, .int .i64 ta, .int .i64 tt, .int .i64 te] 43) = w5 := ⟨_, rfl⟩
    have HB5 : Hid (w5.heap[w4.heap.size]? = some (.cells #[.slice pi mi ci, .int .i64 tk, .int .i64 ta, .int .i64 tt, .int .i64 te] 43 (0, 0))) := Lib.hid (by rw [← hw5]; exact heap_new _ _)
    have G5 : Hid (Below w4.heap.size w4 w5) := Lib.hid (by rw [← hw5]; exact ext_alloc (Below.refl _ _) _)
    rw [hw5]
    clear hw5
    have hl5 : w4.heap.size < w5.heap.size := (Array.getElem?_eq_some_iff.1 HB5.out).1
    have hx := five_both ((Lib.alloc_old w5 (.cells #[.int .i64 0, .int .i64 0, .int .i64 0, .int .i64 0, .int .i64 1, .int .i64 0, .int .i64 n, .int .i64 0, .int .i64 3, .int .i64 (-n), .int .i64 0, .int .i64 0] 41) _ hl5).trans HB5.out)
    obtain ⟨⟨d0, d1, d2, d3, d4⟩, z0, z1, z2, z3, z4⟩ := hx
    obtain ⟨⟨b0, b1, b2, b3, b4⟩, y0, y1, y2, y3, y4⟩ := five_both HB5.out
    have c1 := (G5.out.cell hu4).trans c1
    have q3 := (G5.out.cell hgF4).trans q3
    clear p0 p1 p2 p3 p4
    rcases (by omega : m = 12 ∨ m = 13 ∨ m = 14) with rfl | rfl | rfl
    focus
      go_upto_region 12 with (fail)
      obtain ⟨e1, e2, e3⟩ := term_put HB5.out G5.out (Nat.le_refl _) (.int .i64 0) (.int .i64 0) (.int .i64 0) (.int .i64 0) (.cells #[.int .i64 0, .int .i64 0, .int .i64 0, .int .i64 0, .int .i64 1, .int .i64 0, .int .i64 n, .int .i64 0, .int .i64 3, .int .i64 (-n), .int .i64 0, .int .i64 0] 41)
      refine wp_gen (P := fun W => ∃ mm xj sk sa st se px nx cx, mm < 15 ∧ ⟨xj, ⟨sk, sa, st, se⟩⟩ = spoil ⟨xi, ⟨tk, ta, tt, te⟩⟩ mm n ∧ Sp gF w4 W ⟨xj, ⟨sk, sa, st, se⟩⟩ px nx cx sk sa st se) ⟨12, xi, _, _, _, _, _, _, _, by decide, rfl, e1, ?_, rfl, e2⟩ ?_
      · exact xns_kept (A := fun b => b ≠ gF) HVI.out (kept_below e2)
    rotate_left
    focus
      go_upto_region 12 with (fail)
      obtain ⟨e1, e2, e3⟩ := term_put HB5.out G5.out (Nat.le_refl _) (.int .i64 1) (.int .i64 0) (.int .i64 n) (.int .i64 0) (.cells #[.int .i64 0, .int .i64 0, .int .i64 0, .int .i64 0, .int .i64 1, .int .i64 0, .int .i64 n, .int .i64 0, .int .i64 3, .int .i64 (-n), .int .i64 0, .int .i64 0] 41)
      refine wp_gen (P := fun W => ∃ mm xj sk sa st se px nx cx, mm < 15 ∧ ⟨xj, ⟨sk, sa, st, se⟩⟩ = spoil ⟨xi, ⟨tk, ta, tt, te⟩⟩ mm n ∧ Sp gF w4 W ⟨xj, ⟨sk, sa, st, se⟩⟩ px nx cx sk sa st se) ⟨13, xi, _, _, _, _, _, _, _, by decide, rfl, e1, ?_, rfl, e2⟩ ?_
      · exact xns_kept (A := fun b => b ≠ gF) HVI.out (kept_below e2)
    rotate_left
    focus
      go_upto_region 12 with (fail)
      obtain ⟨e1, e2, e3⟩ := term_put HB5.out G5.out (Nat.le_refl _) (.int .i64 3) (.int .i64 (-n)) (.int .i64 0) (.int .i64 0) (.cells #[.int .i64 0, .int .i64 0, .int .i64 0, .int .i64 0, .int .i64 1, .int .i64 0, .int .i64 n, .int .i64 0, .int .i64 3, .int .i64 (-n), .int .i64 0, .int .i64 0] 41)
      refine wp_gen (P := fun W => ∃ mm xj sk sa st se px nx cx, mm < 15 ∧ ⟨xj, ⟨sk, sa, st, se⟩⟩ = spoil ⟨xi, ⟨tk, ta, tt, te⟩⟩ mm n ∧ Sp gF w4 W ⟨xj, ⟨sk, sa, st, se⟩⟩ px nx cx sk sa st se) ⟨14, xi, _, _, _, _, _, _, _, by decide, rfl, e1, ?_, rfl, e2⟩ ?_
      · exact xns_kept (A := fun b => b ≠ gF) HVI.out (kept_below e2)
    rotate_left
  rotate_left 3
  focus
    have hm12 : (m : Int) < 12 := by omega
    obtain ⟨w5, hw5⟩ : ∃ w5, w4.alloc (.cells #[.slice pi mi ci, .int .i64 tk, .int .i64 ta, .int .i64 tt, .int .i64 te] 43) = w5 := ⟨_, rfl⟩
    have HB5 : Hid (w5.heap[w4.heap.size]? = some (.cells #[.slice pi mi ci, .int .i64 tk, .int .i64 ta, .int .i64 tt, .int .i64 te] 43 (0, 0))) := Lib.hid (by rw [← hw5]; exact heap_new _ _)
    have G5 : Hid (Below w4.heap.size w4 w5) := Lib.hid (by rw [← hw5]; exact ext_alloc (Below.refl _ _) _)
    have hl5 : w4.heap.size < w5.heap.size := by rw [← hw5]; simp
    go_upto_region 10 with (fail)
    clear hw5
    have hw34 : w3.heap.size + 1 < w4.heap.size := by
      obtain ⟨_, _, _, hq, hbc⟩ := HBR.out
      obtain ⟨aq, haq, _, kx⟩ := hbc 0 (by show 0 < 12; decide)
      injection hq with hq1 hq2 hq3
      subst hq1
      injection haq with haq
      subst haq
      exact cell_lt (a := (⟨w3.heap.size + 1, 0, none⟩ : Addr).add (0 * 8)) kx.1
    have hbx : m < (badX n).length := h12
    obtain ⟨bx, hbxe⟩ : ∃ x, x = (badX n)[m]'hbx := ⟨_, rfl⟩
    have HBX : Hid ((badX n).getD m ⟨0, 0, 0, 0, 0, 0, [], []⟩ = bx) := Lib.hid (by rw [hbxe, List.getD_eq_getElem?_getD, List.getElem?_eq_getElem hbx]; rfl)
    have kx : XnAt (fun b => w3.heap.size ≤ b) w4 ⟨w3.heap.size + 1, m * 8, none⟩ bx := by
      obtain ⟨_, _, _, hq, hbc⟩ := HBR.out
      obtain ⟨aq, haq, _, kx⟩ := hbc m hbx
      injection hq with hq1 hq2 hq3
      subst hq1
      injection haq with haq
      subst haq
      rw [addr_add, Nat.zero_add] at kx
      rw [hbxe]
      exact kx
    clear hbxe hbx
    obtain ⟨va, y0, y1, y2, y3, y4, y5, y6, y7, hnx⟩ := xn_get kx
    obtain ⟨pa, ca, hva⟩ := row_slice hnx
    subst hva
    obtain ⟨bk, bd, ba, bb, bo, bn, bm, bargs⟩ := bx
    simp only at y0 y1 y2 y3 y4 y5 y6 y7 hnx
    obtain ⟨nx', hnx'⟩ : ∃ z, bargs.length = z := ⟨_, rfl⟩
    rw [hnx'] at y7 hnx
    have HNX := Lib.hid hnx
    have GD : Hid (Below w5.heap.size w5 w5.drew) := Lib.hid (ext_drew (Below.refl _ _))
    have G45 : Hid (Below w4.heap.size w4 w5.drew) := Lib.hid (ext_drew G5.out)
    obtain ⟨hX0, M, hM1, hM2, hM3⟩ := xns_read HVI.out
    have HM1 := Lib.hid hM1
    have HM2 := Lib.hid hM2
    have HM3 := Lib.hid (fun (w' : World) (g : Below w5.heap.size w5 w') ad (had : pi = some ad) j u (hj : (M.flatMap cellsX)[j]? = some u) => ((ext_trans G5.out g).cell (cell_lt (hM3 ad had j u hj))).trans (hM3 ad had j u hj))
    have HML : Hid ((M.flatMap cellsX).length = mi * 8) := Lib.hid (by
      rw [flat_len cellsX 8 lenX, hX0, ← hM1, List.length_map])
    have HMO : Hid (∀ u ∈ M.flatMap cellsX, u.oneCell' = true) := Lib.hid (by
      intro u hu
      rw [List.mem_flatMap] at hu
      obtain ⟨c, hc, hu⟩ := hu
      obtain ⟨p, q, e⟩ := row_slice (hM2 c hc)
      simp [cellsX, e] at hu
      rcases hu with rfl | rfl | rfl | rfl | rfl | rfl | rfl | rfl <;> rfl)
    have hmi6 : mi ≤ 6 := by
      have h1 : xi.length ≤ 6 := (flw_short raw k ⟨xi, ⟨tk, ta, tt, te⟩⟩ (by rw [HXB.out]; exact List.getElem_mem hil)).1
      have := HMI.out
      omega
    have hpn : pi = none → mi = 0 := by
      intro e
      rcases Nat.eq_zero_or_pos mi with h | h
      · exact h
      · obtain ⟨_, _, _, hq, hbc⟩ := HVI.out
        obtain ⟨aq, haq, _⟩ := hbc 0 (by omega)
        injection hq with hq1 hq2 hq3
        rw [← hq1, e] at haq
        cases haq
    have HO1 : Hid (∀ u ∈ [Value.int .i64 bk, .int .i64 bd, .int .i64 ba, .int .i64 bb, .int .i64 bo, .int .i64 bn, .string (mk bm), .slice pa nx' ca], u.oneCell' = true) := Lib.hid (by
      intro u hu
      simp at hu
      rcases hu with rfl | rfl | rfl | rfl | rfl | rfl | rfl | rfl <;> rfl)
    clear hX0 hM1 hM2 hM3 hnx kx c1 q3 p0 p1 p2 p3 p4
    have hm8 : (m : Int) * 8 = ((m * 8 : Nat) : Int) := by omega
    have b0 : w5.drew.cell? ⟨w4.heap.size, 0, none⟩ = some (.slice pi mi ci) := (five_both HB5.out).1.1
    have b0' : w5.cell? ⟨w4.heap.size, 0, none⟩ = some (.slice pi mi ci) := b0
    have y0 := (G45.out.cell (p := ⟨w3.heap.size + 1, m * 8, none⟩) hw34).trans y0
    have y1 := (G45.out.cell (p := ⟨w3.heap.size + 1, m * 8 + 1, none⟩) hw34).trans y1
    have y2 := (G45.out.cell (p := ⟨w3.heap.size + 1, m * 8 + 2, none⟩) hw34).trans y2
    have y3 := (G45.out.cell (p := ⟨w3.heap.size + 1, m * 8 + 3, none⟩) hw34).trans y3
    have y4 := (G45.out.cell (p := ⟨w3.heap.size + 1, m * 8 + 4, none⟩) hw34).trans y4
    have y5 := (G45.out.cell (p := ⟨w3.heap.size + 1, m * 8 + 5, none⟩) hw34).trans y5
    have y6 := (G45.out.cell (p := ⟨w3.heap.size + 1, m * 8 + 6, none⟩) hw34).trans y6
    have y7 := (G45.out.cell (p := ⟨w3.heap.size + 1, m * 8 + 7, none⟩) hw34).trans y7
    have hw35 : w3.heap.size + 1 < w5.heap.size := by omega
    go_region_law ((first
      | (refine step_app_row Tryd.underlying39 infoX rfl (by decide) (by decide) rfl _ _ rfl w5.heap.size rfl pi mi ci (M.flatMap cellsX) rfl HML.out (by first | exact HM3.out _ (ext_drew (Below.refl _ _)) | exact HM3.out _ (ext_alloc (ext_drew (Below.refl _ _)) _)) hpn HMO.out (by omega) (by simp) ?_; intro vA wA ownA grA; have HOA := Lib.hid ownA; have GA : Hid (Below w5.heap.size w5 wA) := Lib.hid (by first | exact below_grown (ext_drew (Below.refl _ _)) grA (by simp) (fun k hk => by cases hk) | exact below_grown (ext_alloc (ext_drew (Below.refl _ _)) _) grA (by simp) (fun k hk => by cases hk)); have hsA : w5.heap.size ≤ wA.heap.size := GA.out.size; (first | have HNA := Lib.hid ((grA.block w5.heap.size (by simp) (fun e => by cases e)).trans (heap_new' w5.drew _ w5.heap.size (by simp))) | have HNA := Lib.hid trivial); have y0 := (GA.out.cell (p := ⟨w3.heap.size + 1, m * 8, none⟩) hw35).trans y0; have y1 := (GA.out.cell (p := ⟨w3.heap.size + 1, m * 8 + 1, none⟩) hw35).trans y1; have y2 := (GA.out.cell (p := ⟨w3.heap.size + 1, m * 8 + 2, none⟩) hw35).trans y2; have y3 := (GA.out.cell (p := ⟨w3.heap.size + 1, m * 8 + 3, none⟩) hw35).trans y3; have y4 := (GA.out.cell (p := ⟨w3.heap.size + 1, m * 8 + 4, none⟩) hw35).trans y4; have y5 := (GA.out.cell (p := ⟨w3.heap.size + 1, m * 8 + 5, none⟩) hw35).trans y5; have y6 := (GA.out.cell (p := ⟨w3.heap.size + 1, m * 8 + 6, none⟩) hw35).trans y6; have y7 := (GA.out.cell (p := ⟨w3.heap.size + 1, m * 8 + 7, none⟩) hw35).trans y7; have hw3A : w3.heap.size + 1 < wA.heap.size := (by omega); clear ownA grA)
      | (refine step_app_own Tryd.underlying39 infoX rfl (by decide) (by decide) rfl _ _ rfl w5.heap.size vA mi (M.flatMap cellsX) rfl (by first | exact HOA.out | exact own_ext HOA.out (ext_alloc (Below.refl _ _) _)) _ 1 1 [.int .i64 bk, .int .i64 bd, .int .i64 ba, .int .i64 bb, .int .i64 bo, .int .i64 bn, .string (mk bm), .slice pa nx' ca] rfl (by decide) rfl (by first | exact World.news_of_block HNA.out | exact World.news_of_block (heap_new _ _)) HO1.out (by omega) (by (try simp); omega) ?_; intro gN cN wB ownB grB; have HOB := Lib.hid ownB; have GB : Hid (Below w5.heap.size w5 wB) := Lib.hid (by first | exact below_grown GA.out grB (by (try simp); omega) (fun k hk => (HOA.out.lt k hk).1) | exact below_grown (ext_alloc GA.out _) grB (by (try simp); omega) (fun k hk => (HOA.out.lt k hk).1)); have HXB5 := Lib.hid ((GB.out.block w4.heap.size hl5).trans HB5.out); have b0 := (five_both HXB5.out).1.1; have z0 := (five_both HXB5.out).2.1; clear ownB grB)))
    all_goals
      have hblS : Below w4.heap.size w4 (wB.setCell ⟨w4.heap.size, 0, none⟩ (.slice (some ⟨gN, 0, none⟩) (mi + 1) cN)) := ext_set (ext_trans G5.out GB.out) (Nat.le_refl _) _
      have hboxS : (wB.setCell ⟨w4.heap.size, 0, none⟩ (.slice (some ⟨gN, 0, none⟩) (mi + 1) cN)).heap[w4.heap.size]? = some (.cells #[.slice (some ⟨gN, 0, none⟩) (mi + 1) cN, .int .i64 tk, .int .i64 ta, .int .i64 tt, .int .i64 te] 43 (0, 0)) := by
        rw [heap_setCell_same _ _ 0 _ _ _ HXB5.out]; simp
      have hinsS : XnsAt (fun b => b ≠ gF) (wB.setCell ⟨w4.heap.size, 0, none⟩ (.slice (some ⟨gN, 0, none⟩) (mi + 1) cN)) (.slice (some ⟨gN, 0, none⟩) (mi + 1) cN) (xi ++ [⟨bk, bd, ba, bb, bo, bn, bm, bargs⟩]) := by
        have h1 := own_set (o := 0) (x := .slice (some ⟨gN, 0, none⟩) (mi + 1) cN) HOB.out hl5
        have e1 : M.flatMap cellsX ++ [Value.int .i64 bk, .int .i64 bd, .int .i64 ba, .int .i64 bb, .int .i64 bo, .int .i64 bn, .string (mk bm), .slice pa nx' ca] = (M ++ [((⟨bk, bd, ba, bb, bo, bn, bm, bargs⟩ : Xn), Value.slice pa nx' ca)]).flatMap cellsX := by
          rw [List.flatMap_append]; rfl
        rw [e1] at h1
        have hMl : M.length = mi := by
          have := HML.out
          rw [flat_len cellsX 8 lenX] at this
          omega
        have h2 := row_xns (A := fun b => b ≠ gF) h1 (by rw [List.length_append, hMl]; simp; omega) (fun g hg => by have := (HOB.out.lt g hg).1; omega) (fun c hc => by
          rcases List.mem_append.1 hc with hc | hc
          · exact nums_kept (HM2.out c hc) (kept_below hblS)
          · obtain rfl := List.mem_singleton.1 hc
            exact nums_kept (nums_wide (fun b (hb : w3.heap.size ≤ b) => (by omega : b ≠ gF)) HNX.out) (kept_below hblS))
        rw [List.map_append, HM1.out] at h2
        exact h2
      refine then_gen (P := fun W => ∃ mm xj sk sa st se px nx cx, mm < 15 ∧ ⟨xj, ⟨sk, sa, st, se⟩⟩ = spoil ⟨xi, ⟨tk, ta, tt, te⟩⟩ mm n ∧ Sp gF w4 W ⟨xj, ⟨sk, sa, st, se⟩⟩ px nx cx sk sa st se) ⟨m, xi ++ [⟨bk, bd, ba, bb, bo, bn, bm, bargs⟩], tk, ta, tt, te, _, _, _, hm15, by unfold spoil; rw [if_pos h12, HBX.out], hboxS, hinsS, rfl, hblS⟩ ?_
      clear hblS hboxS hinsS y0 y1 y2 y3 y4 y5 y6 y7 b0 z0
      rintro wS ⟨mm, xj, sk, sa, st, se, px, nx, cx, hmm, hsp, h6⟩
      have HSS : Hid (mm < 15 ∧ (⟨xj, ⟨sk, sa, st, se⟩⟩ : Bk) = spoil ⟨xi, ⟨tk, ta, tt, te⟩⟩ mm n ∧ Sp gF w4 wS ⟨xj, ⟨sk, sa, st, se⟩⟩ px nx cx sk sa st se) := Lib.hid ⟨hmm, hsp, h6⟩
      clear hmm hsp h6 HM1 HM2 HM3 HML HMO HO1 HNX HBX HOA HOB GA GB GD G45 HXB5 HNA
      go_upto_region 12 with (fail)
      refine wp_gen (P := fun W => ∃ mm xj sk sa st se px nx cx, mm < 15 ∧ ⟨xj, ⟨sk, sa, st, se⟩⟩ = spoil ⟨xi, ⟨tk, ta, tt, te⟩⟩ mm n ∧ Sp gF w4 W ⟨xj, ⟨sk, sa, st, se⟩⟩ px nx cx sk sa st se) ⟨mm, xj, sk, sa, st, se, px, nx, cx, HSS.out⟩ ?_
      clear HSS
  all_goals
    try clear c1 q3 d0 d1 d2 d3 d4 z0 z1 z2 z3 z4 b0 b1 b2 b3 b4 y0 y1 y2 y3 y4
    try clear e1 e2 e3
    rintro w6 ⟨mm, xj, sk, sa, st, se, px, nx, cx, hmm, hsp, h6⟩
    have HSX : Hid (mm < 15 ∧ (⟨xj, ⟨sk, sa, st, se⟩⟩ : Bk) = spoil ⟨xi, ⟨tk, ta, tt, te⟩⟩ mm n) := Lib.hid ⟨hmm, hsp⟩
    clear hmm hsp
    have H6 := Lib.hid h6
    have G6 : Hid (Below w2.heap.size w2 w6) := Lib.hid (ext_trans G3.out (ext_trans G4.out h6.bl))
    have hz6 : w2.heap.size < w6.heap.size := by have := h6.bl.size; omega
    have hzb : w4.heap.size < w6.heap.size := (Array.getElem?_eq_some_iff.1 h6.box).1
    have hgF6 : gF < w6.heap.size := by omega
    clear h6
    obtain ⟨c0, c1⟩ := two_cells (((ext_trans G4.out H6.out.bl).block _ hu).trans HUB.out)
    have q0 := (G6.out.cell hg2).trans HCG.out.1
    have q1 := (G6.out.cell hg2).trans HCG.out.2.1
    have q2 := (G6.out.cell hg2).trans HCG.out.2.2
    have q3 : w6.cell? ⟨gF, k * 4 + 3, none⟩ = some (.slice (some ab) nb cb) := ((ext_trans G4.out H6.out.bl).cell hgF3).trans HQ3.out
    obtain ⟨hM0, M, hM1, hM2, hM3⟩ := bks_read (bks_kept HB4.out (kept_below H6.out.bl))
    clear hM0
    have HM1 := Lib.hid hM1
    have HM2 := Lib.hid hM2
    have HM3 := Lib.hid (fun (w' : World) (g : Below w6.heap.size w6 w') j u (hj : (M.flatMap cellsB)[j]? = some u) => (g.cell (cell_lt (hM3 ab rfl j u hj))).trans (hM3 ab rfl j u hj))
    have HML : Hid ((M.flatMap cellsB).length = nb * 5) := Lib.hid (by
      rw [flat_len cellsB 5 lenB, ← HNB.out, ← hM1, List.length_map])
    have HMO : Hid (∀ u ∈ M.flatMap cellsB, u.oneCell' = true) := Lib.hid (by
      intro u hu
      rw [List.mem_flatMap] at hu
      obtain ⟨c, hc, hu⟩ := hu
      obtain ⟨p, q, e⟩ := row_slice (hM2 c hc)
      simp [cellsB, e] at hu
      rcases hu with rfl | rfl | rfl | rfl | rfl <;> rfl)
    clear hM1 hM2 hM3
    go_upto_region 14 with (at_builtin; refine app_row Tryd.underlying22 infoB rfl (by decide) (by decide) rfl _ _ rfl (w6.heap.size + 1) _ 0 [] rfl (World.ownsRow_nil _ _ _ _) ab nb cb (M.flatMap cellsB) (by omega) HML.out rfl (HM3.out _ (ext_alloc (Below.refl _ _) _)) HMO.out nb (by omega) (by omega) (by simp) ?_; intro gB cB w7 hown7 hg7 hat7; have G7 : Hid (Below w6.heap.size w6 w7) := Lib.hid (below_grown (ext_alloc (Below.refl _ _) _) hg7 (by simp) (fun k hk => by cases hk)); have f3 := hg7; have HB7 : Hid (w7.heap[w6.heap.size]? = some (.cells #[.string (mk (flwF raw k).name), .int .i64 (flwF raw k).params, .int .i64 (flwF raw k).values, .slice (some ab) nb cb] 45 (0, 0))) := Lib.hid ((hg7.block _ (by simp) (fun e => by cases e)).trans (heap_new _ _)); have HO7 := Lib.hid hown7; obtain ⟨e0, e1, e2, e3⟩ := four_at' HB7.out; have e4 : w7.frozen? ⟨w6.heap.size, 3, none⟩ = false := (by simp [World.frozen?, HB7.out]); clear f3 hg7 hown7 hat7)
    obtain ⟨w8, hw8⟩ : ∃ w8, w7.setCell ⟨w6.heap.size, 3, none⟩ (.slice (some ⟨gB, 0, none⟩) nb cB) = w8 := ⟨_, rfl⟩
    have HB8 : Hid (w8.heap[w6.heap.size]? = some (.cells #[.string (mk (flwF raw k).name), .int .i64 (flwF raw k).params, .int .i64 (flwF raw k).values, .slice (some ⟨gB, 0, none⟩) nb cB] 45 (0, 0))) := Lib.hid (by
      rw [← hw8, heap_setCell_same _ _ 3 _ _ _ HB7.out]; simp)
    have HO8 : Hid (w8.ownsRow (w6.heap.size + 1) 43 5 (.slice (some ⟨gB, 0, none⟩) nb cB) nb (M.flatMap cellsB)) := Lib.hid (by rw [← hw8]; exact own_set HO7.out (by omega))
    have G8 : Hid (Below w6.heap.size w6 w8) := Lib.hid (by rw [← hw8]; exact ext_set G7.out (Nat.le_refl _) _)
    rw [hw8]
    clear hw8 e0 e1 e2 e3 e4
    have hMl : i < M.length := by have := HML.out; rw [flat_len cellsB 5 lenB] at this; omega
    obtain ⟨hz, _, _, hq, hcell⟩ := row_get lenB (by decide) HO8.out
    clear hz
    injection hq with hq1 hq2 hq3
    clear hq2
    subst hq1 hq3
    obtain ⟨_, hgq, _, _, hcg⟩ := hcell i hMl
    cases hgq
    generalize M[i]'hMl = cm at hcg
    have r0 : w8.cell? ⟨gB, i * 5, none⟩ = some cm.2 := hcg 0 (by decide)
    have r1 : w8.cell? ⟨gB, i * 5 + 1, none⟩ = some (.int .i64 cm.1.term.kind) := hcg 1 (by decide)
    have r2 : w8.cell? ⟨gB, i * 5 + 2, none⟩ = some (.int .i64 cm.1.term.a) := hcg 2 (by decide)
    have r3 : w8.cell? ⟨gB, i * 5 + 3, none⟩ = some (.int .i64 cm.1.term.to) := hcg 3 (by decide)
    have r4 : w8.cell? ⟨gB, i * 5 + 4, none⟩ = some (.int .i64 cm.1.term.els) := hcg 4 (by decide)
    have s0 : w8.frozen? ⟨gB, i * 5, none⟩ = false := HO8.out.frozenAt _
    have s1 : w8.frozen? ⟨gB, i * 5 + 1, none⟩ = false := HO8.out.frozenAt _
    have s2 : w8.frozen? ⟨gB, i * 5 + 2, none⟩ = false := HO8.out.frozenAt _
    have s3 : w8.frozen? ⟨gB, i * 5 + 3, none⟩ = false := HO8.out.frozenAt _
    have s4 : w8.frozen? ⟨gB, i * 5 + 4, none⟩ = false := HO8.out.frozenAt _
    obtain ⟨_, _, _, e3⟩ := four_at' HB8.out
    obtain ⟨b0, b1, b2, b3, b4⟩ := (five_both ((G8.out.block _ hzb).trans H6.out.box)).1
    clear hcg hcell c0 c1 q0 q1 q2 q3
    go_upto_region 15 with (fail)
    have hgB := (HO8.out.lt gB rfl).1
    have hz8 : w6.heap.size < w8.heap.size := (Array.getElem?_eq_some_iff.1 HB8.out).1
    refine wp_gen (P := fun W => W.ownsRow (w6.heap.size + 1) 43 5 (.slice (some ⟨gB, 0, none⟩) nb cB) nb ((M.set i (⟨xj, ⟨sk, sa, st, se⟩⟩, .slice px nx cx)).flatMap cellsB) ∧ w8.grownBy W (some gB)) (row_fixB HO8.out i hMl (⟨xj, ⟨sk, sa, st, se⟩⟩, .slice px nx cx)) ?_
    rintro w9 ⟨ho9, hg9⟩
    have HO9 := Lib.hid ho9
    have G9 : Hid (Below w6.heap.size w6 w9) := Lib.hid (below_grown G8.out hg9 (by omega) (fun k hk => by cases hk; omega))
    have HB9 : Hid (w9.heap[w6.heap.size]? = some (.cells #[.string (mk (flwF raw k).name), .int .i64 (flwF raw k).params, .int .i64 (flwF raw k).values, .slice (some ⟨gB, 0, none⟩) nb cB] 45 (0, 0))) := Lib.hid ((hg9.block _ hz8 (fun e => by injection e with e; omega)).trans HB8.out)
    have HW9 := Lib.hid (own_ext HOW.out (ext_trans G6.out G9.out))
    clear ho9 hg9 r0 r1 r2 r3 r4 s0 s1 s2 s3 s4 b0 b1 b2 b3 b4 e3
    obtain ⟨hz, _, _, hq, hcell⟩ := row_get lenF (by decide) HW9.out
    clear hz
    injection hq with hq1 hq2 hq3
    clear hq2
    subst hq1 hq3
    obtain ⟨_, hgq, _, _, hcg⟩ := hcell k hkP
    cases hgq
    generalize P[k]'hkP = cp at hcg
    have r0 : w9.cell? ⟨gF, k * 4, none⟩ = some (.string (mk cp.1.name)) := hcg 0 (by decide)
    have r1 : w9.cell? ⟨gF, k * 4 + 1, none⟩ = some (.int .i64 cp.1.params) := hcg 1 (by decide)
    have r2 : w9.cell? ⟨gF, k * 4 + 2, none⟩ = some (.int .i64 cp.1.values) := hcg 2 (by decide)
    have r3 : w9.cell? ⟨gF, k * 4 + 3, none⟩ = some cp.2 := hcg 3 (by decide)
    have s0 : w9.frozen? ⟨gF, k * 4, none⟩ = false := HW9.out.frozenAt _
    have s1 : w9.frozen? ⟨gF, k * 4 + 1, none⟩ = false := HW9.out.frozenAt _
    have s2 : w9.frozen? ⟨gF, k * 4 + 2, none⟩ = false := HW9.out.frozenAt _
    have s3 : w9.frozen? ⟨gF, k * 4 + 3, none⟩ = false := HW9.out.frozenAt _
    obtain ⟨e0, e1, e2, e3⟩ := four_at' HB9.out
    obtain ⟨c0, c1⟩ := two_cells (((ext_trans (ext_trans G4.out H6.out.bl) G9.out).block _ hu).trans HUB.out)
    clear hcg hcell
    go_upto_region 16 with (fail)
    have hrf := row_fixF HW9.out k hkP (⟨(flwF raw k).name, (flwF raw k).params, (flwF raw k).values, (flwF raw k).blocks.set i ⟨xj, ⟨sk, sa, st, se⟩⟩⟩, .slice (some ⟨gB, 0, none⟩) nb cB)
    refine wp_gen (P := fun W => W.ownsRow (w1.heap.size + 4) 45 4 (.slice (some ⟨gF, 0, none⟩) 3 cf) 3 ((P.set k (⟨(flwF raw k).name, (flwF raw k).params, (flwF raw k).values, (flwF raw k).blocks.set i ⟨xj, ⟨sk, sa, st, se⟩⟩⟩, .slice (some ⟨gB, 0, none⟩) nb cB)).flatMap cellsF) ∧ w9.grownBy W (some gF)) hrf ?_
    clear hrf r0 r1 r2 r3 s0 s1 s2 s3 e0 e1 e2 e3
    rintro w10 ⟨ho10, hg10⟩
    have hgB4 : gF < gB := by omega
    have G9' : Hid (Below w2.heap.size w2 w9) := Lib.hid (ext_trans G6.out G9.out)
    have hz10 : w2.heap.size < w10.heap.size := by have := hg10.size; have := G9.out.size; omega
    have HU10 : Hid (w10.heap[w2.heap.size]? = some (.cells #[.slice (some ⟨w1.heap.size + 1, 0, none⟩) 2 2, .slice (some ⟨gF, 0, none⟩) 3 cf] 27 (0, 0))) := Lib.hid ((hg10.block _ (by have := G9.out.size; omega) (fun e => by injection e with e; omega)).trans (((ext_trans (ext_trans G4.out H6.out.bl) G9.out).block _ hu).trans HUB.out))
    have hi2 : (flwF raw k).blocks[i]? = some ⟨xi, ⟨tk, ta, tt, te⟩⟩ := by rw [List.getElem?_eq_getElem hil, HXB.out]
    have HUW : Hid (wrongU (mkU (swapB raw k i ⟨xj, ⟨sk, sa, st, se⟩⟩)) = (70, k, i)) := Lib.hid (by rw [HSX.out.2]; exact fit_spoiled raw k i mm hk3 _ hi2 HSX.out.1 n hn1)
    have HUF : Hid (UnFit (mkU (swapB raw k i ⟨xj, ⟨sk, sa, st, se⟩⟩))) := Lib.hid (by rw [HSX.out.2]; exact swap_fit raw k i (List.mem_of_getElem? hi2) mm n)
    have hvb9 : BksAt (fun b => b ≠ gF) w9 (.slice (some ⟨gB, 0, none⟩) nb cB) ((flwF raw k).blocks.set i ⟨xj, ⟨sk, sa, st, se⟩⟩) := by
      have h1 := row_bks (A := fun b => b ≠ gF) HO9.out (by rw [List.length_set]; have := HML.out; rw [flat_len cellsB 5 lenB] at this; omega) (fun g hg => by cases hg; show gB ≠ gF; omega) (fun c hc => by
        rcases List.mem_or_eq_of_mem_set hc with hc | rfl
        · exact xns_kept (HM2.out c hc) (kept_below G9.out)
        · exact xns_kept H6.out.ins (kept_below G9.out))
      rw [List.map_set, HM1.out] at h1
      exact h1
    have HUN : Hid (UnAt (fun b => b < w10.heap.size) w10 (.agg #[.slice (some ⟨w1.heap.size + 1, 0, none⟩) 2 2, .slice (some ⟨gF, 0, none⟩) 3 cf]) (mkU (swapB raw k i ⟨xj, ⟨sk, sa, st, se⟩⟩))) := Lib.hid (un_swapped hk3 HP.out
      ((hg10.block _ (by have := (Array.getElem?_eq_some_iff.1 HAR.out).1; have := G9'.out.size; omega) (fun e => by injection e with e; omega)).trans ((G9'.out.block _ (Array.getElem?_eq_some_iff.1 HAR.out).1).trans HAR.out))
      ho10
      (fun c hc => bks_wide (fun _ _ => trivial) (bks_kept (bks_kept (HBK.out c hc) (kept_below G9'.out)) (kept_grown hg10 (fun b e ha => ha.2 e))))
      (bks_wide (fun _ _ => trivial) (bks_kept hvb9 (kept_grown hg10 (fun b e ha => ha (by injection e with e; exact e.symm))))))
    have HUA : Hid (∀ w', Below w10.heap.size w10 w' → UnAt (fun b => b < w'.heap.size) w' (.agg #[.slice (some ⟨w1.heap.size + 1, 0, none⟩) 2 2, .slice (some ⟨gF, 0, none⟩) 3 cf]) (mkU (swapB raw k i ⟨xj, ⟨sk, sa, st, se⟩⟩))) := Lib.hid (fun w' g => by
      obtain ⟨va, vf, e, h1, h2⟩ := HUN.out
      exact ⟨va, vf, e, ars_wideU (fun b hb => by have := g.size; omega) (ars_kept h1 (kept_below g)), fls_wide (fun b hb => by have := g.size; omega) (fls_kept h2 (kept_below g))⟩)
    have G10 : Hid (Below w.heap.size w w10) := Lib.hid (ext_trans G1.out ((ext_trans G2.out G9'.out).grown hg10 (by have := G9'.out.size; have := G2.out.size; omega) (fun k hk => by injection hk with hk; have := G2.out.size; omega)))
    obtain ⟨u, hu⟩ : ∃ u, u = mkU (swapB raw k i ⟨xj, ⟨sk, sa, st, se⟩⟩) := ⟨_, rfl⟩
    rw [← hu] at HUW HUF HUA
    clear hu ho10 hg10 hvb9 hi2 HUN c0 c1
    obtain ⟨c0, c1⟩ := two_cells HU10.out
    have HCK := Lib.hid (check_any _ u w10 (HUA.out w10 (Below.refl _ _)) HUF.out)
    unfold CkRes at HCK
    rw [HUW.out] at HCK
    go_wp2_with fail
    refine HCK.out.mono ?_; rintro e w11 ⟨rfl, g11⟩
    have G11 := Lib.hid g11
    have HU11 := Lib.hid ((g11.block _ hz10).trans HU10.out)
    clear g11 c0 c1
    obtain ⟨c0, c1⟩ := two_cells HU11.out
    have hz11 : w2.heap.size < w11.heap.size := (Array.getElem?_eq_some_iff.1 HU11.out).1
    have gal : Below w11.heap.size w11 (w11.alloc (.cells #[.int .i64 k, .int .i64 i] 52)) := ext_alloc (Below.refl _ _) _
    have HPN := Lib.hid (print_no _ u _ (HUA.out _ (ext_trans G11.out gal)) HUF.out (by rw [HUW.out]; show (70 : Int) ≠ 0; decide))
    clear gal
    go_wp2_with fail
    refine HPN.out.mono ?_; rintro e w12 ⟨rfl, g12⟩
    have HAT := Lib.hid ((g12.block w11.heap.size (by simp)).trans (heap_new w11 _))
    have G12 : Hid (Below w.heap.size w w12) := Lib.hid (ext_trans G10.out (ext_trans G11.out (ext_trans (ext_alloc (Below.refl w11.heap.size w11) _) g12)))
    clear g12 c0 c1
    obtain ⟨d0, d1⟩ := two_cells HAT.out
    have hz12 : w11.heap.size < w12.heap.size := (Array.getElem?_eq_some_iff.1 HAT.out).1
    have hnil : (mk ([] : List UInt8)).toList = [] := mk_tl _
    go_wp2_with fail
    rw [two_same]
    simp only [Result.andThen]
    rw [Oper.upon_value]
    go_wp2_with fail
    go_ret
    exact ⟨rfl, G12.out⟩
end Go.Proofs.YtafapkljlajflaaDoor
