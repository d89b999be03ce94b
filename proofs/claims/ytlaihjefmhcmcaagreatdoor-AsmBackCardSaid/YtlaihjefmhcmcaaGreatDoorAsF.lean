/- The law's Fit. -/
import Derived.Test.YtlaihjefmhcmcaaGreatDoorRows
import Derived.WalkKit
import Derived.ProofKit
import Derived.OpenShut
import Derived.WalkLawsBesides
import Derived.WalkSpells
import Derived.Outline
import Derived.Handy
import Derived.Lib.Hide
import Derived.Lib.OthersKept
import Derived.KernelRfl
import Derived.Carry
import Derived.OwnWalk
import Derived.RegionTactic
import Derived.BigRegion
import Derived.BigQuiet
import Derived.Deep.RegionHeld3
import Derived.Deep.AppendLies
import Derived.Deep.RegionHeldLaw
import Derived.Test.YtlaihjefmhcmcaaGreatDoorAs4
import Derived.Test.YtlaihjefmhcmcaaGreatDoorAs5
import Derived.Test.YtlaihjefmhcmcaaGreatDoorAsN
import Derived.Test.YtlaihjefmhcmcaaGreatDoorAsL
import Derived.Test.YtlaihjefmhcmcaaGreatDoorAsO
import Derived.Test.YtlaihjefmhcmcaaGreatDoorInJ
namespace Go.Proofs.YtlaihjefmhcmcaaGreatDoor
open Go.ChangeShapes Go.WideShapes Go.ChangeAt Go.RowKit
set_option linter.unusedVariables false
def cellsS (s : List UInt8) : List Value := [.string (mk s)]
theorem lenS (x : List UInt8) : (cellsS x).length = 1 := rfl
theorem oneS (x : List UInt8) : ∀ u ∈ cellsS x, u.oneCell' = true := by
  intro u hu
  simp [cellsS] at hu
  subst hu; rfl
theorem infoS : (Tryz.prog.info? 9).map (fun i => (i.zero, i.size, i.bytes)) = some (some (.string ⟨#[]⟩), 1, 16) := by kernel_rfl
structure FInv (w wr : World) (names : List (List UInt8)) (L : List Ln) (vn vl : Value) : Prop where
  of ::
  b2 : wr.heap[w.heap.size]? = some (.cells #[.slice none 0 0, .slice none 0 0] 27 (0, 0))
  ar : wr.heap[w.heap.size + 1]? = some (.cells #[.string ⟨#[97]⟩, .int .i64 4, .string ⟨#[98]⟩, .int .i64 10] 44 (0, 0))
  b3 : wr.heap[w.heap.size + 2]? = some (.cells #[.slice (some ⟨w.heap.size + 1, 0, none⟩) 2 2, vl] 27 (0, 0))
  rn : wr.ownsRow (w.heap.size + 3) 9 1 vn names.length (names.flatMap cellsS)
  rl : wr.ownsRow (w.heap.size + 3) 48 7 vl L.length (L.flatMap cellsL)
  bl : Below w.heap.size w wr
theorem FInv.sz {w wr : World} {names : List (List UInt8)} {L : List Ln} {vn vl : Value} (h : FInv w wr names L vn vl) : w.heap.size + 2 < wr.heap.size := (Array.getElem?_eq_some_iff.1 h.b3).1
theorem FInv.ext {w wr wx : World} {names : List (List UInt8)} {L : List Ln} {vn vl : Value} (h : FInv w wr names L vn vl) (g : Below wr.heap.size wr wx) : FInv w wx names L vn vl :=
  ⟨(g.block _ (by have := h.sz; omega)).trans h.b2, (g.block _ (by have := h.sz; omega)).trans h.ar, (g.block _ h.sz).trans h.b3, own_ext h.rn g, own_ext h.rl g, ext_trans h.bl g⟩
theorem FInv.name {w wr w2 : World} {names : List (List UInt8)} {L : List Ln} {vn vl v' : Value} (h : FInv w wr names L vn vl) (s : List UInt8) (hown : w2.ownsRow (w.heap.size + 3) 9 1 v' (names.length + 1) (names.flatMap cellsS ++ cellsS s)) (hg : wr.grownBy w2 vn.ownBlock) :
    FInv w w2 (names ++ [s]) L v' vl := by
  have n0 := own_ne h.rn (b := w.heap.size) (by omega)
  have n1 := own_ne h.rn (b := w.heap.size + 1) (by omega)
  have n2 := own_ne h.rn (b := w.heap.size + 2) (by omega)
  have hz := h.sz
  refine ⟨(hg.block _ (by omega) (fun e => n0 e.symm)).trans h.b2, (hg.block _ (by omega) (fun e => n1 e.symm)).trans h.ar, (hg.block _ (by omega) (fun e => n2 e.symm)).trans h.b3, ?_, h.rl.kept hg (own_apart h.rn h.rl (by decide)), below_grown h.bl hg (by omega) (fun b hb => by have := (h.rn.lt b hb).1; omega)⟩
  simpa using hown
theorem FInv.line {w wr w2 : World} {names : List (List UInt8)} {L : List Ln} {vn vl v' : Value} (h : FInv w wr names L vn vl) (a : Ln) (hown : w2.ownsRow (w.heap.size + 3) 48 7 v' (L.length + 1) (L.flatMap cellsL ++ cellsL a)) (hg : wr.grownBy w2 vl.ownBlock) :
    FInv w (w2.setCell ⟨w.heap.size + 2, 1, none⟩ v') names (L ++ [a]) vn v' := by
  have n0 := own_ne h.rl (b := w.heap.size) (by omega)
  have n1 := own_ne h.rl (b := w.heap.size + 1) (by omega)
  have n2 := own_ne h.rl (b := w.heap.size + 2) (by omega)
  have hz := h.sz
  refine ⟨?_, ?_, ?_, own_set (h.rn.kept hg (own_apart h.rl h.rn (by decide))) (by omega), ?_, ?_⟩
  · exact (heap_setCell_other _ _ _ _ (by simp)).trans ((hg.block _ (by omega) (fun e => n0 e.symm)).trans h.b2)
  · exact (heap_setCell_other _ _ _ _ (by simp)).trans ((hg.block _ (by omega) (fun e => n1 e.symm)).trans h.ar)
  · exact (heap_setCell_same _ _ 1 _ _ _ ((hg.block _ (by omega) (fun e => n2 e.symm)).trans h.b3)).trans rfl
  · have := own_set hown (b := w.heap.size + 2) (o := 1) (x := v') (by omega)
    simpa using this
  · exact ext_set (below_grown h.bl hg (by omega) (fun b hb => by have := (h.rl.lt b hb).1; omega)) (by show w.heap.size ≤ w.heap.size + 2; omega) _
theorem six_cells {w : World} {base : Nat} {e : TypeId} {g n cap : Nat} {K : List Ln} (h : w.ownsRow base e 7 (.slice (some ⟨g, 0, none⟩) n cap) n (K.flatMap cellsL)) {j : Nat} (hj : j < K.length) {l : Ln} (hl : K[j]'hj = l) :
    w.cell? ⟨g, j * 7 + 1, none⟩ = some (.int .i64 l.ins.op) ∧ w.cell? ⟨g, j * 7 + 2, none⟩ = some (.int .i64 l.ins.d) ∧ w.cell? ⟨g, j * 7 + 3, none⟩ = some (.int .i64 l.ins.a) ∧ w.cell? ⟨g, j * 7 + 4, none⟩ = some (.int .i64 l.ins.b) ∧ w.cell? ⟨g, j * 7 + 5, none⟩ = some (.int .i64 l.ins.n) ∧ w.cell? ⟨g, j * 7 + 6, none⟩ = some (.string (mk l.ins.name)) := by
  obtain ⟨_, p, c, hq, hc⟩ := row_get lenL (by decide) h
  obtain ⟨g', hg, _, hcg⟩ := hc j hj
  injection hq with hq1 _ _
  subst hq1
  injection hg with hg
  injection hg with hg _ _
  subst hg
  rw [hl] at hcg
  exact ⟨hcg 1 (by decide), hcg 2 (by decide), hcg 3 (by decide), hcg 4 (by decide), hcg 5 (by decide), hcg 6 (by decide)⟩
theorem FInv.fix {w wr : World} {names : List (List UInt8)} {M : List Ln} {vn : Value} {g n cap : Nat} (h : FInv w wr names M vn (.slice (some ⟨g, 0, none⟩) n cap)) (j : Nat) (hj : j < M.length) (x : In) :
    FInv w ((((((wr.setCell ⟨g, j * 7 + 1, none⟩ (.int .i64 x.op)).setCell ⟨g, j * 7 + 1 + 1, none⟩ (.int .i64 x.d)).setCell ⟨g, j * 7 + 1 + 2, none⟩ (.int .i64 x.a)).setCell ⟨g, j * 7 + 1 + 3, none⟩ (.int .i64 x.b)).setCell ⟨g, j * 7 + 1 + 4, none⟩ (.int .i64 x.n)).setCell ⟨g, j * 7 + 1 + 5, none⟩ (.string (mk x.name))) names (M.set j ⟨(M[j]'hj).label, x⟩) vn (.slice (some ⟨g, 0, none⟩) n cap) := by
  obtain rfl : n = M.length := (row_get lenL (by decide) h.rl).1 ▸ (by
    obtain ⟨_, p, c, hq, _⟩ := row_get lenL (by decide) h.rl
    injection hq with _ h2 _)
  obtain ⟨h1, hg⟩ := row_fix h.rl j hj x
  have n0 := own_ne h.rl (b := w.heap.size) (by omega)
  have n1 := own_ne h.rl (b := w.heap.size + 1) (by omega)
  have n2 := own_ne h.rl (b := w.heap.size + 2) (by omega)
  have hz := h.sz
  refine ⟨(hg.block _ (by omega) (fun e => n0 e.symm)).trans h.b2, (hg.block _ (by omega) (fun e => n1 e.symm)).trans h.ar, (hg.block _ (by omega) (fun e => n2 e.symm)).trans h.b3, h.rn.kept hg (own_apart h.rl h.rn (by decide)), ?_, below_grown h.bl hg (by omega) (fun b hb => by have := (h.rl.lt b hb).1; omega)⟩
  rw [List.length_set]
  exact h1
theorem FInv.cells {w wr : World} {names : List (List UInt8)} {K : List Ln} {vn : Value} {g n cap : Nat} (h : FInv w wr names K vn (.slice (some ⟨g, 0, none⟩) n cap)) {j : Nat} (hj : j < K.length) {l : Ln} (hl : K[j]'hj = l) :
    (wr.cell? ⟨g, j * 7 + 1, none⟩ = some (.int .i64 l.ins.op) ∧ wr.cell? ⟨g, j * 7 + 1 + 1, none⟩ = some (.int .i64 l.ins.d) ∧ wr.cell? ⟨g, j * 7 + 1 + 2, none⟩ = some (.int .i64 l.ins.a) ∧ wr.cell? ⟨g, j * 7 + 1 + 3, none⟩ = some (.int .i64 l.ins.b) ∧ wr.cell? ⟨g, j * 7 + 1 + 4, none⟩ = some (.int .i64 l.ins.n) ∧ wr.cell? ⟨g, j * 7 + 1 + 5, none⟩ = some (.string (mk l.ins.name))) ∧
    wr.frozen? ⟨g, j * 7 + 1, none⟩ = false ∧ wr.frozen? ⟨g, j * 7 + 1 + 1, none⟩ = false ∧ wr.frozen? ⟨g, j * 7 + 1 + 2, none⟩ = false ∧ wr.frozen? ⟨g, j * 7 + 1 + 3, none⟩ = false ∧ wr.frozen? ⟨g, j * 7 + 1 + 4, none⟩ = false ∧ wr.frozen? ⟨g, j * 7 + 1 + 5, none⟩ = false := by
  obtain rfl : n = K.length := by
    obtain ⟨_, p, c, hq, _⟩ := row_get lenL (by decide) h.rl
    injection hq with _ h2 _
  exact ⟨six_cells h.rl hj hl, h.rl.frozenAt _, h.rl.frozenAt _, h.rl.frozenAt _, h.rl.frozenAt _, h.rl.frozenAt _, h.rl.frozenAt _⟩
theorem good_name {names : List (List UInt8)} {L : List Ln} (h : Good names L) : ∀ l ∈ L, l.ins.name.length ≤ 100000 := by
  intro l hl
  by_cases e : l.label = []
  · obtain ⟨h1, h2⟩ := (h.ins l hl).2 e
    have := (right_fits h1 h2).2.2.2.2
    omega
  · rw [((h.ins l hl).1 e).2]; simp [zeroI]
/-- Has a list of names a name among its first? -/
def hadN (names : List (List UInt8)) (k : Nat) (s : List UInt8) : Bool := (names.take k).contains s
theorem had_step (names : List (List UInt8)) (k : Nat) (h : k < names.length) (s : List UInt8) : hadN names (k + 1) s = (hadN names k s || decide ((names[k]'h) = s)) := by
  unfold hadN
  rw [List.take_succ_eq_append_getElem h, Bool.eq_iff_iff, List.contains_iff_mem, List.mem_append, Bool.or_eq_true, List.contains_iff_mem, decide_eq_true_iff, List.mem_singleton, eq_comm (a := s)]
def FitRes (B : Nat) (c : Cd) (e : Ending) (w : World) : Prop := ∃ va vl, e = .returned (.agg #[va, vl]) ∧ w.ownsRow B 44 2 va 2 (arrsAB.flatMap cellsA) ∧ w.ownsRow B 48 7 vl c.lines.length (c.lines.flatMap cellsL)
theorem cell_alloc {w : World} {p : Addr} {v : Value} (h : w.cell? p = some v) (o : Obj) : (w.alloc o).cell? p = some v := ((ext_alloc (Below.refl w.heap.size w) o).cell (cell_lt h)).trans h
theorem set_far {w : World} {p q : Addr} {v x : Value} (h : w.cell? p = some v) (hne : p.block ≠ q.block) : (w.setCell q x).cell? p = some v :=
  (World.cell?_of_block (heap_setCell_other _ _ _ _ hne)).trans h
set_option maxHeartbeats 4000000 in
set_option maxRecDepth 100000 in
theorem lawfit_any (rv : Value) (raw : List Ln) (w : World) (h : LnsAt w rv raw) (hr : AllRaw raw) : Calls Tryz.prog 5 #[rv] w fun e w' => FitRes w.heap.size (fitC raw) e w' ∧ Below w.heap.size w w' := by
  obtain ⟨hn, p, cap, rfl, hc⟩ := h
  have HC := Lib.hid hc
  have HR := Lib.hid hr
  clear hc hr
  go_enter Tryz.func5, Tryz.ntmps5
  go_wp2_with fail
  go_loopw [4, 5] (fun vn iv wr => ∃ (i : Nat) (vl : Value), iv = .int .i64 i ∧ i ≤ raw.length ∧ i ≤ 40 ∧ FInv w wr (fit1 raw i).1 (fit1 raw i).2 vn vl) (fun _ iv wr => raw.length - slotN iv)
  case atStart =>
    refine ⟨0, _, rfl, Nat.zero_le _, by decide, ?_, ?_, ?_, World.ownsRow_nil _ _ _ _, World.ownsRow_nil _ _ _ _, ext_alloc (ext_alloc (ext_alloc (Below.refl _ _) _) _) _⟩
    · exact (Lib.alloc_old _ _ _ (by simp; omega)).trans ((Lib.alloc_old _ _ _ (by simp)).trans (heap_new w _))
    · exact (Lib.alloc_old _ _ _ (by simp)).trans (heap_new' _ _ _ (by simp))
    · exact heap_new' _ _ _ (by simp)
  case round =>
    obtain ⟨i, vl, rfl, hi, hi40, hI⟩ := hrel
    obtain ⟨pn, capn, hvn⟩ := own_slice hI.rn
    subst hvn
    have HI := Lib.hid hI
    by_cases h : i < raw.length ∧ i < 40
    · obtain ⟨h1, h2⟩ := h
      obtain ⟨a, rfl, k⟩ := HC.out i h1
      obtain ⟨k0, k1, k2, k3, k4, k5, k6⟩ := ln_at (k.ext hI.bl)
      have hall := HR.out _ (List.getElem_mem h1)
      have HFS : Hid (fit1 raw (i + 1) = fitStep (fit1 raw i) (raw[i]'h1)) := Lib.hid (by unfold fit1; rw [List.take_succ_eq_append_getElem h1, List.foldl_append]; rfl)
      have HNA := Lib.hid (fun w => name_any (raw[i]'h1).ins.n hall.2.2.2.2 w)
      have HFI := Lib.hid (fun w => fit_any (raw[i]'h1).ins hall w)
      have h2i : (i : Int) < 40 := by omega
      have hls : (mk (raw[i]'h1).label).size = (raw[i]'h1).label.length := rfl
      have hab0 : (a.add (i * 7)).block < w.heap.size := at_lt k.1
      have hab : (a.add (i * 7)).block < w.heap.size + 3 := by omega
      clear k hI
      have HLEN := Lib.hid (fit1_good raw HR.out i (by omega)).2.1
      have HLEN2 := Lib.hid (fit1_good raw HR.out i (by omega)).2.2
      generalize fit1 raw i = st at *
      generalize raw[i]'h1 = r at *
      obtain ⟨rl, ⟨ro, rd, ra, rb, rn, rm⟩⟩ := r
      simp only at k0 k1 k2 k3 k4 k5 k6 hall HFS HNA HFI hls
      by_cases hm : rl.length % 3 = 1
      · have hmb : (((rl.length : Int) % 3) == 1) = true := beq_iff_eq.2 (by omega)
        have HF2 : Hid (fit1 raw (i + 1) = if st.1.contains (rawName ⟨rl, ⟨ro, rd, ra, rb, rn, rm⟩⟩) then st else (st.1 ++ [rawName ⟨rl, ⟨ro, rd, ra, rb, rn, rm⟩⟩], st.2 ++ [⟨rawName ⟨rl, ⟨ro, rd, ra, rb, rn, rm⟩⟩, zeroI⟩])) := Lib.hid (by rw [HFS.out]; unfold fitStep; rw [if_pos hm])
        have hrn : rawName ⟨rl, ⟨ro, rd, ra, rb, rn, rm⟩⟩ = nameL (pickN rn 40).toNat := rfl
        rw [hrn] at HF2
        obtain ⟨N, L⟩ := st
        simp only at HF2 HI HLEN HLEN2
        have HNE : Hid (nameL (pickN rn 40).toNat ≠ []) := Lib.hid (by rw [← hrn]; exact lab_ne (rawName_lab _))
        clear HFS hm hrn HFI
        generalize nameL (pickN rn 40).toNat = s at *
        have ts : (mk s).toList = s := mk_tl _
        have hNl : N.length ≤ 40 := by have := HLEN.out; have := HLEN2.out; omega
        have hLl : L.length ≤ 40 := by have := HLEN.out; omega
        go_wp2_with fail
        refine (HNA.out _).mono ?_; rintro e w1 ⟨rfl, g1⟩
        have HI1 := Lib.hid (HI.out.ext g1)
        clear g1 HI k0 k1 k2 k3 k4 k5 k6
        go_wp2_with fail
        go_loop [7, 8] (fun hv kv => ∃ k : Nat, kv = .int .i64 k ∧ k ≤ N.length ∧ hv = .bool (hadN N k s)) (fun _ kv => N.length - slotN kv)
        case atStart => exact ⟨0, rfl, Nat.zero_le _, rfl⟩
        case round =>
          obtain ⟨k, rfl, hk, rfl⟩ := hrel
          by_cases hkl : k < N.length
          · have HST := Lib.hid (had_step N k hkl s)
            obtain ⟨_, p2, cap2, hq, hcell⟩ := row_get lenS (by decide) HI1.out.rn
            obtain ⟨g, hg, hgb, hcg⟩ := hcell k hkl
            have hcg2 := hcg 0 (by decide)
            rw [Nat.mul_one, Nat.add_zero] at hcg2
            have hcg3 : w1.cell? ⟨g, k, none⟩ = some (.string (mk (N[k]'hkl))) := hcg2
            have tk : (mk (N[k]'hkl)).toList = N[k]'hkl := mk_tl _
            injection hq with hq1 _ hq3
            subst hq1 hq3 hg
            clear hcell hcg hcg2
            cases hb : hadN N k s
            · by_cases he : N[k]'hkl = s
              · have HNX : Hid (hadN N (k + 1) s = true) := Lib.hid (by rw [HST.out, hb, decide_eq_true he]; rfl)
                have heb : ((N[k]'hkl) == s) = true := beq_iff_eq.2 he
                clear hb he HST
                go_wp2_with fail
                go_round
                case rel => exact ⟨k + 1, by go_num, by omega, by rw [HNX.out]⟩
                case measure => simp [slotN]; omega
              · have HNX : Hid (hadN N (k + 1) s = false) := Lib.hid (by rw [HST.out, hb, decide_eq_false he]; rfl)
                have heb : ((N[k]'hkl) == s) = false := beq_eq_false_iff_ne.2 he
                clear hb he HST
                go_wp2_with fail
                go_round
                case rel => exact ⟨k + 1, by go_num, by omega, by rw [HNX.out]⟩
                case measure => simp [slotN]; omega
            · have HNX : Hid (hadN N (k + 1) s = true) := Lib.hid (by rw [HST.out, hb]; rfl)
              clear hb HST
              go_wp2_with fail
              go_round
              case rel => exact ⟨k + 1, by go_num, by omega, by rw [HNX.out]⟩
              case measure => simp [slotN]; omega
          · have hhd : hadN N k s = N.contains s := by unfold hadN; rw [List.take_of_length_le (by omega)]
            rw [hhd]
            cases hc : N.contains s
            · have HF3 : Hid (fit1 raw (i + 1) = (N ++ [s], L ++ [⟨s, zeroI⟩])) := Lib.hid (by rw [HF2.out, if_neg (by rw [hc]; simp)])
              clear hhd hc
              go_wp2_with (at_builtin; refine app_cells Tryz.underlying35 infoS rfl (by decide) (by decide) rfl _ _ rfl (w.heap.size + 3) _ N.length (N.flatMap cellsS) rfl (own_ext HI1.out.rn (ext_alloc (Below.refl _ _) _)) w1.heap.size 1 (cellsS s) rfl rfl (heap_new _ _) (oneS _) (by omega) (by have := HI1.out.sz; simp at this ⊢; omega) ?_)
              intro v2 w2 hown2 hg2
              have HI2 := Lib.hid (HI1.out.name s hown2 (grown_after hg2 (ext_alloc (Below.refl _ _) _)))
              obtain ⟨pn2, capn2, hvn2⟩ := own_slice hown2
              subst hvn2
              obtain ⟨pl, capl, hvl⟩ := own_slice HI2.out.rl
              subst hvl
              have c1 : w2.cell? ⟨w.heap.size + 1 + 1, 1, none⟩ = some (.slice pl L.length capl) := (two_cells HI2.out.b3).2
              clear hown2 hg2
              go_wp2_with (at_builtin; refine app_cells Tryz.underlying22 infoL rfl (by decide) (by decide) rfl _ _ rfl (w.heap.size + 3) _ L.length (L.flatMap cellsL) rfl (own_ext HI2.out.rl (ext_alloc (Below.refl _ _) _)) w2.heap.size 1 (cellsL ⟨s, zeroI⟩) rfl rfl (heap_new _ _) (oneL _) (by omega) (by have := HI2.out.sz; simp at this ⊢; omega) ?_)
              intro v3 w3 hown3 hg3
              have hgx := grown_after hg3 (ext_alloc (Below.refl w2.heap.size w2) _)
              have hf6 := (hgx.block (w.heap.size + 2) HI2.out.sz (fun e => own_ne HI2.out.rl (b := w.heap.size + 2) (by omega) e.symm)).trans HI2.out.b3
              have HI3 := Lib.hid (HI2.out.line ⟨s, zeroI⟩ hown3 hgx)
              obtain ⟨pl3, capl3, hvl3⟩ := own_slice hown3
              subst hvl3
              clear c1
              have f1 : w3.frozen? ⟨w.heap.size + 1 + 1, 1, none⟩ = false := (two_frozen hf6).2
              have c1 : w3.cell? ⟨w.heap.size + 1 + 1, 1, none⟩ = _ := (two_cells hf6).2
              clear hown3 hg3 hgx hf6
              go_wp2_with fail
              go_roundw
              case rel => exact ⟨i + 1, _, by go_num, by omega, by omega, by rw [HF3.out]; simpa using HI3.out⟩
              case measure => simp [slotN]; omega
            · have HF3 : Hid (fit1 raw (i + 1) = (N, L)) := Lib.hid (by rw [HF2.out, if_pos hc])
              clear hhd hc
              go_wp2_with fail
              go_roundw
              case rel => exact ⟨i + 1, _, by go_num, by omega, by omega, by rw [HF3.out]; exact HI1.out⟩
              case measure => simp [slotN]; omega
      · have hmb : (((rl.length : Int) % 3) == 1) = false := beq_eq_false_iff_ne.2 (by omega)
        have HF2 : Hid (fit1 raw (i + 1) = (st.1, st.2 ++ [⟨[], fitL ⟨ro, rd, ra, rb, rn, rm⟩⟩])) := Lib.hid (by rw [HFS.out]; unfold fitStep; rw [if_neg hm])
        obtain ⟨pl, capl, hvl⟩ := own_slice HI.out.rl
        subst hvl
        have hln : st.2.length ≤ 40 := by have := HLEN.out; omega
        have c1 : wr.cell? ⟨w.heap.size + 1 + 1, 1, none⟩ = some (.slice pl st.2.length capl) := (two_cells HI.out.b3).2
        obtain ⟨i0, hi0, hz0, hz1, hz2⟩ := info_parts infoL
        clear HFS hm
        have hne : (a.add (i * 7)).block ≠ w.heap.size + 1 + 1 := by omega
        unfold inV at HFI
        generalize fitL ⟨ro, rd, ra, rb, rn, rm⟩ = y at *
        simp only at HFI
        go_wp2_with fail
        go_region_law ((first
          | (refine step_append_lies _ (by rfl) _ _ _ (by rfl) (w.heap.size + 3) 48 i0 _ 7 72 Tryz.underlying22 hi0 hz0 hz1 hz2 rfl (by omega) _ st.2.length (st.2.flatMap cellsL) (by rfl) (own_ext HI5.out.rl (ext_alloc (Below.refl _ _) _)) ⟨w5.heap.size, 0, none⟩ 1 1 (cellsL ⟨[], y⟩) (by rfl) (by rfl) (World.news_of_block (cs := #[.string ⟨#[]⟩, .int .i64 y.op, .int .i64 y.d, .int .i64 y.a, .int .i64 y.b, .int .i64 y.n, .string (mk y.name)]) (t := 48) (fr := (0, 0)) (heap_alloc_new w5 _)) (oneL _) (by omega) (by unfold maxLen; omega) (by omega) (by have := HI5.out.sz; simp at this ⊢; omega) (w5.heap.size + 1) (by simp) ?_; intro gg cap6 w6 hown6 hg6 hat6 hlt6; have hgx := grown_after hg6 (ext_alloc (Below.refl w5.heap.size w5) _); have hf6 := (hgx.block (w.heap.size + 2) HI5.out.sz (fun e => own_ne HI5.out.rl (b := w.heap.size + 2) (by omega) e.symm)).trans HI5.out.b3; have f1 : w6.frozen? ⟨w.heap.size + 1 + 1, 1, none⟩ = false := (two_frozen hf6).2; have c1 : w6.cell? ⟨w.heap.size + 1 + 1, 1, none⟩ = _ := (two_cells hf6).2)
          | (go_simp; go_at_call 13; refine (HFI.out _).mono ?_; rintro e w5 ⟨rfl, g5⟩; have HI5 := Lib.hid ((HI.out.ext (ext_drew (Below.refl _ _))).ext g5); have c1 := (g5.cell (cell_lt c1)).trans c1; have c1a := cell_alloc c1 (.cells #[.string ⟨#[]⟩, .int .i64 y.op, .int .i64 y.d, .int .i64 y.a, .int .i64 y.b, .int .i64 y.n, .string (mk y.name)] 48); clear k1 k2 k3 k4 k5 k6)))
        all_goals
          have HI7 := Lib.hid (HI5.out.line ⟨[], y⟩ hown6 hgx)
          clear c1 c1a f1 hown6 hg6 hgx hf6
          go_wp2_with fail
          go_roundw
          case rel => exact ⟨i + 1, _, by go_num, by omega, by omega, by rw [HF2.out]; exact HI7.out⟩
          case measure => simp [slotN]; omega
    · have HF40 : Hid (fit1 raw 40 = fit1 raw i) := Lib.hid (by
        rw [fit1_min]
        congr 1
        omega)
      have HLEN := Lib.hid (fit1_good raw HR.out i (by omega)).2.1
      have HLEN2 := Lib.hid (fit1_good raw HR.out i (by omega)).2.2
      have HG2 := Lib.hid (fit2_good raw HR.out)
      have HCD : Hid (fitC raw = ⟨(fit2 (fit1 raw i)).2.mapIdx (fixL (fit2 (fit1 raw i)).1), arrsAB⟩) := Lib.hid (by unfold fitC; rw [HF40.out])
      rw [HF40.out] at HG2
      clear HF40 hI HC HR
      generalize fit1 raw i = st at *
      obtain ⟨N, L⟩ := st
      simp only at HI HLEN HLEN2
      have hNl : N.length ≤ 40 := by have := HLEN.out; have := HLEN2.out; omega
      have hLl : L.length ≤ 40 := by have := HLEN.out; omega
      have hguard : (i : Int) < (raw.length : Int) → ¬ (i : Int) < 40 := fun h1 h2 => h ⟨by omega, by omega⟩
      have HGD := Lib.hid hguard
      clear h hguard
      by_cases h1 : i < raw.length
      case' pos =>
        have h2 : ¬ (i : Int) < 40 := HGD.out (by omega)
      all_goals
        go_upto_if 82 with (fail)
        go_cut [4] from 80 to 91 (fun vn wc => ∃ vl, FInv w wc (fit2 (N, L)).1 (fit2 (N, L)).2 vn vl)
        case first =>
          by_cases hN : N = []
          · subst hN
            have HF : Hid (fit2 ([], L) = ([mainS], L ++ [⟨mainS, zeroI⟩])) := Lib.hid rfl
            go_wp2_with (at_builtin; refine app_cells Tryz.underlying35 infoS rfl (by decide) (by decide) rfl _ _ rfl (w.heap.size + 3) _ 0 [] rfl (own_ext HI.out.rn (ext_alloc (Below.refl _ _) _)) wr.heap.size 1 (cellsS mainS) rfl rfl (heap_new _ _) (oneS _) (by omega) (by have := HI.out.sz; simp at this ⊢; omega) ?_)
            intro v2 w2 hown2 hg2
            have HI2 := Lib.hid (HI.out.name mainS hown2 (grown_after hg2 (ext_alloc (Below.refl _ _) _)))
            obtain ⟨pn2, capn2, hvn2⟩ := own_slice hown2
            subst hvn2
            obtain ⟨pl, capl, hvl⟩ := own_slice HI2.out.rl
            subst hvl
            have c1 : w2.cell? ⟨w.heap.size + 1 + 1, 1, none⟩ = some (.slice pl L.length capl) := (two_cells HI2.out.b3).2
            clear hown2 hg2
            go_wp2_with (at_builtin; refine app_cells Tryz.underlying22 infoL rfl (by decide) (by decide) rfl _ _ rfl (w.heap.size + 3) _ L.length (L.flatMap cellsL) rfl (own_ext HI2.out.rl (ext_alloc (Below.refl _ _) _)) w2.heap.size 1 (cellsL ⟨mainS, zeroI⟩) rfl rfl (heap_new _ _) (oneL _) (by omega) (by have := HI2.out.sz; simp at this ⊢; omega) ?_)
            intro v3 w3 hown3 hg3
            have hgx := grown_after hg3 (ext_alloc (Below.refl w2.heap.size w2) _)
            have hf6 := (hgx.block (w.heap.size + 2) HI2.out.sz (fun e => own_ne HI2.out.rl (b := w.heap.size + 2) (by omega) e.symm)).trans HI2.out.b3
            have HI3 := Lib.hid (HI2.out.line ⟨mainS, zeroI⟩ hown3 hgx)
            obtain ⟨pl3, capl3, hvl3⟩ := own_slice hown3
            subst hvl3
            clear c1
            have f1 : w3.frozen? ⟨w.heap.size + 1 + 1, 1, none⟩ = false := (two_frozen hf6).2
            have c1 : w3.cell? ⟨w.heap.size + 1 + 1, 1, none⟩ = _ := (two_cells hf6).2
            clear hown3 hg3 hgx hf6
            go_wp2_with fail
            go_meet
            case rel => exact ⟨_, by rw [HF.out]; simpa using HI3.out⟩
          · have HF : Hid (fit2 (N, L) = (N, L)) := Lib.hid (by unfold fit2; rw [if_neg hN])
            have hz : ((N.length : Int) == 0) = false := beq_eq_false_iff_ne.2 (by
              have : N.length ≠ 0 := fun e => hN (List.length_eq_zero_iff.1 e)
              omega)
            clear hN
            go_wp2_with fail
            go_meet
            case rel => exact ⟨_, by rw [HF.out]; exact HI.out⟩
        case rest =>
          obtain ⟨vl, hI⟩ := hcut
          obtain ⟨hgood, hMl, hNne, hNl2⟩ := HG2.out
          clear HI HLEN HLEN2 HG2
          generalize fit2 (N, L) = st2 at *
          obtain ⟨N2, M⟩ := st2
          simp only at hI hgood hMl hNne hNl2 HCD
          have hNpos : 0 < N2.length := by cases N2 with
            | nil => exact absurd rfl hNne
            | cons => simp
          obtain ⟨pn2, capn2, hvn2⟩ := own_slice hI.rn
          subst hvn2
          obtain ⟨pl, capl, hvl⟩ := own_slice hI.rl
          subst hvl
          have HI := Lib.hid hI
          have HGN := Lib.hid (good_name hgood)
          clear hI hgood hNne
          go_wp2_with fail
          go_loopw [9] (fun jv wx => ∃ j : Nat, jv = .int .i64 j ∧ j ≤ M.length ∧ FInv w wx N2 (midL (fixL N2) M j) (.slice pn2 N2.length capn2) (.slice pl M.length capl)) (fun jv wx => M.length - slotN jv)
          case atStart => exact ⟨0, rfl, Nat.zero_le _, by rw [midL_zero]; exact HI.out⟩
          case round =>
            clear HI
            obtain ⟨j, rfl, hj, hI⟩ := hrel
            by_cases hjl : j < M.length
            · have hK : j < (midL (fixL N2) M j).length := by rw [midL_len _ _ _ hj]; exact hjl
              have hMj := midL_get (fixL N2) M j hjl hK
              have hNX := midL_next (fixL N2) M j hjl
              obtain ⟨hxa, p3, cap3, hq, hcell⟩ := row_get lenL (by decide) hI.rl
              obtain ⟨g, hg, hgb, hxb⟩ := hcell j hK
              clear hxa hxb
              injection hq with hq1 hqx hq3
              subst hq1 hg
              clear hcell hq3 hqx
              have HI := Lib.hid hI
              obtain ⟨⟨q1, q2, q3, q4, q5, q6⟩, hxc⟩ := hI.cells hK hMj
              clear hxc
              have c1 : wr.cell? ⟨w.heap.size + 1 + 1, 1, none⟩ = some (.slice (some ⟨g, 0, none⟩) M.length capl) := (two_cells hI.b3).2
              have c0 : wr.cell? ⟨w.heap.size + 1 + 1, 0, none⟩ = some (.slice (some ⟨w.heap.size + 1, 0, none⟩) 2 2) := (two_cells hI.b3).1
              have hz0 : w.heap.size + 1 + 1 < wr.heap.size := hI.sz
              have hz1 : w.heap.size + 1 < wr.heap.size := by omega
              have hz2 : g < wr.heap.size := cell_lt (a := ⟨g, j * 7 + 1, none⟩) q1
              have hnml := HGN.out _ (List.getElem_mem hjl)
              have HLB : Hid (((midL (fixL N2) M j)[j]'hK).label = (M[j]'hjl).label) := Lib.hid (by rw [hMj])
              have HNX0 : Hid (∀ y, y = fixI N2 j (M[j]'hjl).ins → midL (fixL N2) M (j + 1) = (midL (fixL N2) M j).set j ⟨((midL (fixL N2) M j)[j]'hK).label, y⟩) := Lib.hid (fun y hy => by rw [hNX, HLB.out, hy]; rfl)
              clear hI hNX HLB
              generalize M[j]'hjl = l at *
              obtain ⟨lab, ⟨op, d, a, b, n, name⟩⟩ := l
              simp only at q1 q2 q3 q4 q5 q6 HNX0 hnml
              have tn : (mk name).toList = name := mk_tl _
              have sn : (mk name).size = name.length := rfl
              by_cases h17 : op = 17
              · subst h17
                have ca0 : wr.cell? ⟨w.heap.size + 1, 0, none⟩ = some (.string ⟨#[97]⟩) := (cell_row HI.out.ar 0).trans rfl
                have ca2 : wr.cell? ⟨w.heap.size + 1, 2, none⟩ = some (.string ⟨#[98]⟩) := (cell_row HI.out.ar 2).trans rfl
                by_cases hpar : name.length % 2 = 0
                · have hq2 : (name.length : Int) % 2 = 0 := by omega
                  have HNX : Hid (midL (fixL N2) M (j + 1) = (midL (fixL N2) M j).set j ⟨((midL (fixL N2) M j)[j]'hK).label, ⟨17, d, a, b, n, [97]⟩⟩) := Lib.hid (HNX0.out _ (by unfold fixI; rw [if_pos rfl]; simp only; rw [if_pos hpar]))
                  clear HNX0 hpar
                  go_upto_region 28 with (fail)
                  obtain ⟨w2, hw2⟩ : ∃ w2, wr.alloc (.cells #[.int .i64 17, .int .i64 d, .int .i64 a, .int .i64 b, .int .i64 n, .string ⟨#[97]⟩] 46) = w2 := ⟨_, rfl⟩
                  have HIW := Lib.hid (HI.out.ext (ext_alloc (Below.refl wr.heap.size wr) (.cells #[.int .i64 17, .int .i64 d, .int .i64 a, .int .i64 b, .int .i64 n, .string ⟨#[97]⟩] 46)))
                  have hnw := heap_new wr (.cells #[.int .i64 17, .int .i64 d, .int .i64 a, .int .i64 b, .int .i64 n, .string ⟨#[97]⟩] 46)
                  rw [hw2] at HIW hnw ⊢
                  clear hw2 c1 c0 ca0 ca2 hq2 q1 q2 q3 q4 q5 q6
                  obtain ⟨⟨d0, d1, d2, d3, d4, d5⟩, _, _, _, _, _, _⟩ := six_at hnw
                  have c1 : w2.cell? ⟨w.heap.size + 1 + 1, 1, none⟩ = some (.slice (some ⟨g, 0, none⟩) M.length capl) := (two_cells HIW.out.b3).2
                  obtain ⟨⟨q1, q2, q3, q4, q5, q6⟩, f1, f2, f3, f4, f5, f6⟩ := HIW.out.cells hK hMj
                  have HFX := Lib.hid (HIW.out.fix j hK ⟨17, d, a, b, n, [97]⟩)
                  clear hnw
                  go_wp2_with fail
                  go_roundw
                  case rel => exact ⟨j + 1, by go_num, by omega, by rw [HNX.out]; exact HFX.out⟩
                  case measure => simp [slotN]; omega
                · have hq2 : (name.length : Int) % 2 = 1 := by omega
                  have HNX : Hid (midL (fixL N2) M (j + 1) = (midL (fixL N2) M j).set j ⟨((midL (fixL N2) M j)[j]'hK).label, ⟨17, d, a, b, n, [98]⟩⟩) := Lib.hid (HNX0.out _ (by unfold fixI; rw [if_pos rfl]; simp only; rw [if_neg hpar]))
                  clear HNX0 hpar
                  go_upto_region 28 with (fail)
                  obtain ⟨w2, hw2⟩ : ∃ w2, wr.alloc (.cells #[.int .i64 17, .int .i64 d, .int .i64 a, .int .i64 b, .int .i64 n, .string ⟨#[98]⟩] 46) = w2 := ⟨_, rfl⟩
                  have HIW := Lib.hid (HI.out.ext (ext_alloc (Below.refl wr.heap.size wr) (.cells #[.int .i64 17, .int .i64 d, .int .i64 a, .int .i64 b, .int .i64 n, .string ⟨#[98]⟩] 46)))
                  have hnw := heap_new wr (.cells #[.int .i64 17, .int .i64 d, .int .i64 a, .int .i64 b, .int .i64 n, .string ⟨#[98]⟩] 46)
                  rw [hw2] at HIW hnw ⊢
                  clear hw2 c1 c0 ca0 ca2 hq2 q1 q2 q3 q4 q5 q6
                  obtain ⟨⟨d0, d1, d2, d3, d4, d5⟩, _, _, _, _, _, _⟩ := six_at hnw
                  have c1 : w2.cell? ⟨w.heap.size + 1 + 1, 1, none⟩ = some (.slice (some ⟨g, 0, none⟩) M.length capl) := (two_cells HIW.out.b3).2
                  obtain ⟨⟨q1, q2, q3, q4, q5, q6⟩, f1, f2, f3, f4, f5, f6⟩ := HIW.out.cells hK hMj
                  have HFX := Lib.hid (HIW.out.fix j hK ⟨17, d, a, b, n, [98]⟩)
                  clear hnw
                  go_wp2_with fail
                  go_roundw
                  case rel => exact ⟨j + 1, by go_num, by omega, by rw [HNX.out]; exact HFX.out⟩
                  case measure => simp [slotN]; omega
              · have h17b : (op == 17) = false := beq_eq_false_iff_ne.2 h17
                by_cases he : name = []
                · subst he
                  have HNX : Hid (midL (fixL N2) M (j + 1) = (midL (fixL N2) M j).set j ⟨((midL (fixL N2) M j)[j]'hK).label, ⟨op, d, a, b, n, []⟩⟩) := Lib.hid (HNX0.out _ (by unfold fixI; rw [if_neg h17, if_pos rfl]))
                  clear HNX0 h17
                  go_upto_region 28 with (fail)
                  obtain ⟨w2, hw2⟩ : ∃ w2, wr.alloc (.cells #[.int .i64 op, .int .i64 d, .int .i64 a, .int .i64 b, .int .i64 n, .string (mk [])] 46) = w2 := ⟨_, rfl⟩
                  have HIW := Lib.hid (HI.out.ext (ext_alloc (Below.refl wr.heap.size wr) (.cells #[.int .i64 op, .int .i64 d, .int .i64 a, .int .i64 b, .int .i64 n, .string (mk [])] 46)))
                  have hnw := heap_new wr (.cells #[.int .i64 op, .int .i64 d, .int .i64 a, .int .i64 b, .int .i64 n, .string (mk [])] 46)
                  rw [hw2] at HIW hnw ⊢
                  clear hw2 c1 c0 q1 q2 q3 q4 q5 q6
                  obtain ⟨⟨d0, d1, d2, d3, d4, d5⟩, _, _, _, _, _, _⟩ := six_at hnw
                  have c1 : w2.cell? ⟨w.heap.size + 1 + 1, 1, none⟩ = some (.slice (some ⟨g, 0, none⟩) M.length capl) := (two_cells HIW.out.b3).2
                  obtain ⟨⟨q1, q2, q3, q4, q5, q6⟩, f1, f2, f3, f4, f5, f6⟩ := HIW.out.cells hK hMj
                  have HFX := Lib.hid (HIW.out.fix j hK ⟨op, d, a, b, n, []⟩)
                  clear hnw
                  go_wp2_with fail
                  go_roundw
                  case rel => exact ⟨j + 1, by go_num, by omega, by rw [HNX.out]; exact HFX.out⟩
                  case measure => simp [slotN]; omega
                · have hie := ie_ne he
                  obtain ⟨q, hqe, hql⟩ : ∃ q : Nat, (name.length + j) % N2.length = q ∧ q < N2.length := ⟨_, rfl, Nat.mod_lt _ hNpos⟩
                  have hqi : ((name.length : Int) + (j : Int)) % (N2.length : Int) = (q : Int) := by rw [← hqe]; simp
                  have hN0 : ((N2.length : Int) == 0) = false := beq_eq_false_iff_ne.2 (by omega)
                  have HNX : Hid (midL (fixL N2) M (j + 1) = (midL (fixL N2) M j).set j ⟨((midL (fixL N2) M j)[j]'hK).label, ⟨op, d, a, b, n, N2.getD q []⟩⟩) := Lib.hid (HNX0.out _ (by unfold fixI; rw [if_neg h17, if_neg he]; simp only; rw [hqe]))
                  obtain ⟨hxa, p4, cap4, hq4, hcell4⟩ := row_get lenS (by decide) HI.out.rn
                  obtain ⟨gn, hgn, hxb, hcn⟩ := hcell4 q hql
                  clear hxa hxb
                  injection hq4 with hqa hqx hqb
                  subst hqa hgn
                  clear hqx
                  have hcn2 := hcn 0 (by decide)
                  rw [Nat.mul_one, Nat.add_zero] at hcn2
                  have hcn3 : wr.cell? ⟨gn, q, none⟩ = some (.string (mk (N2.getD q []))) := by
                    rw [hcn2, List.getD_eq_getElem?_getD, List.getElem?_eq_getElem hql]; rfl
                  have hz3 : gn < wr.heap.size := cell_lt (a := ⟨gn, q, none⟩) hcn3
                  have hqli : (q : Int) < (N2.length : Int) := by omega
                  clear HNX0 h17 he hqe hcn hcn2 hcell4 hqb
                  generalize N2.getD q [] = nq at *
                  go_upto_region 28 with (fail)
                  obtain ⟨w2, hw2⟩ : ∃ w2, wr.alloc (.cells #[.int .i64 op, .int .i64 d, .int .i64 a, .int .i64 b, .int .i64 n, .string (mk nq)] 46) = w2 := ⟨_, rfl⟩
                  have HIW := Lib.hid (HI.out.ext (ext_alloc (Below.refl wr.heap.size wr) (.cells #[.int .i64 op, .int .i64 d, .int .i64 a, .int .i64 b, .int .i64 n, .string (mk nq)] 46)))
                  have hnw := heap_new wr (.cells #[.int .i64 op, .int .i64 d, .int .i64 a, .int .i64 b, .int .i64 n, .string (mk nq)] 46)
                  rw [hw2] at HIW hnw ⊢
                  clear hw2 c1 c0 hcn3 q1 q2 q3 q4 q5 q6
                  obtain ⟨⟨d0, d1, d2, d3, d4, d5⟩, _, _, _, _, _, _⟩ := six_at hnw
                  have c1 : w2.cell? ⟨w.heap.size + 1 + 1, 1, none⟩ = some (.slice (some ⟨g, 0, none⟩) M.length capl) := (two_cells HIW.out.b3).2
                  obtain ⟨⟨q1, q2, q3, q4, q5, q6⟩, f1, f2, f3, f4, f5, f6⟩ := HIW.out.cells hK hMj
                  have HFX := Lib.hid (HIW.out.fix j hK ⟨op, d, a, b, n, nq⟩)
                  clear hnw
                  go_wp2_with fail
                  go_roundw
                  case rel => exact ⟨j + 1, by go_num, by omega, by rw [HNX.out]; exact HFX.out⟩
                  case measure => simp [slotN]; omega
            · have HFIN : Hid (midL (fixL N2) M j = (fitC raw).lines) := Lib.hid (by rw [midL_all _ _ _ (by omega), HCD.out])
              have HI := Lib.hid hI
              have c1 : wr.cell? ⟨w.heap.size + 1 + 1, 1, none⟩ = some (.slice pl M.length capl) := (two_cells hI.b3).2
              have c0 : wr.cell? ⟨w.heap.size + 1 + 1, 0, none⟩ = some (.slice (some ⟨w.heap.size + 1, 0, none⟩) 2 2) := (two_cells hI.b3).1
              obtain ⟨k0, k1⟩ := two_cells hI.b2
              obtain ⟨f0, f1⟩ := two_frozen hI.b2
              obtain ⟨wf, hwf, hhf, hbf⟩ := two_store hI.b2 hI.bl (Nat.le_refl _) (.slice (some ⟨w.heap.size + 1, 0, none⟩) 2 2) (.slice pl M.length capl)
              have HWF := Lib.hid hwf
              have HBF := Lib.hid hbf
              obtain ⟨d0, d1⟩ := two_cells hhf
              have HRES : Hid (FitRes w.heap.size (fitC raw) (.returned (.agg #[.slice (some ⟨w.heap.size + 1, 0, none⟩) 2 2, .slice pl M.length capl])) wf) := Lib.hid (by
                rw [← hwf]
                refine ⟨_, _, rfl, ⟨rfl, .inr ⟨w.heap.size + 1, 2, _, rfl, by omega, (heap_setCell_other _ _ _ _ (by simp)).trans ((heap_setCell_other _ _ _ _ (by simp)).trans hI.ar), Nat.le_refl _, by unfold maxLen; omega, rfl, rfl⟩⟩, ?_⟩
                have := own_base (own_set (own_set hI.rl (b := w.heap.size) (o := 0) (x := .slice (some ⟨w.heap.size + 1, 0, none⟩) 2 2) (by omega)) (b := w.heap.size) (o := 1) (x := .slice pl M.length capl) (by omega)) (base' := w.heap.size) (by omega)
                rw [HFIN.out] at this
                exact this)
              clear hI hwf hhf hbf
              go_wp2_with fail
              refine bodyPost_world HWF.out ?_
              clear c0 c1 k0 k1 f0 f1
              exact bodyPost_ret (v := .agg #[.slice (some ⟨w.heap.size + 1, 0, none⟩) 2 2, .slice pl M.length capl]) (by simp [results, Tryz.results5, go_sem, d0, d1]) rfl ⟨HRES.out, HBF.out⟩
end Go.Proofs.YtlaihjefmhcmcaaGreatDoor
