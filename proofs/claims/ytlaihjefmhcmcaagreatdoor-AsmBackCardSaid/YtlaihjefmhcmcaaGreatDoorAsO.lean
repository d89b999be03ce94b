/- asm.Parse. -/
import Derived.Test.YtlaihjefmhcmcaaGreatDoorRows
import Derived.WalkKit
import Derived.ProofKit
import Derived.OpenShut
import Derived.WalkLawsBesides
import Derived.WalkSpells
import Derived.Outline
import Derived.Handy
import Derived.Lib.Hide
import Derived.Lib.OthersKept
import Derived.KernelRfl
import Derived.Carry
import Derived.OwnWalk
import Derived.RegionTactic
import Derived.BigRegion
import Derived.BigQuiet
import Derived.Deep.RegionHeld3
import Derived.Test.YtlaihjefmhcmcaaGreatDoorAsN
import Derived.Test.YtlaihjefmhcmcaaGreatDoorAsL
namespace Go.Proofs.YtlaihjefmhcmcaaGreatDoor
open Go.ChangeShapes Go.WideShapes Go.ChangeAt Go.RowKit
set_option linter.unusedVariables false
def AParse (t : List UInt8) (e : Ending) (w : World) : Prop := ∃ v, e = .returned (.tuple #[v, .int .i64 (parseL t).2.1, .int .i64 (parseL t).2.2]) ∧ CdAt w v (parseL t).1
theorem parse_bad {t : List UInt8} {k : Int} (h : runPs (splitNL t) 0 ⟨[], [], []⟩ = .inl k) : parseL t = (⟨[], []⟩, 60, k) := by unfold parseL; rw [h]
theorem parse_end {t : List UInt8} {st : Ps} (h : runPs (splitNL t) 0 ⟨[], [], []⟩ = .inr st) : parseL t = endPs st := by unfold parseL; rw [h]
theorem run_end (P : List (List UInt8)) (i : Nat) (h : ¬ i < P.length) (st : Ps) : runPs (P.drop i) i st = .inr st := by rw [List.drop_eq_nil_of_le (by omega)]; rfl
theorem bare_len (p : List UInt8) : (bareL p).length ≤ p.length := by
  have h1 : (cutHash p).length ≤ p.length := by unfold cutHash; exact (List.takeWhile_sublist _).length_le
  have h2 : ∀ l : List UInt8, (trimB l).length ≤ l.length := by
    intro l
    unfold trimB
    have a := (List.dropWhile_sublist blankB (l := (l.reverse.dropWhile blankB).reverse)).length_le
    have b := (List.dropWhile_sublist blankB (l := l.reverse)).length_le
    rw [List.length_reverse] at a b
    omega
  have := h2 (cutHash p)
  unfold bareL
  omega
theorem nil_code (w : World) : CdAt w (.agg #[.slice none 0 0, .slice none 0 0]) ⟨[], []⟩ :=
  ⟨_, _, rfl, ⟨by simp, none, 0, rfl, fun i h => by cases h⟩, ⟨by simp, none, 0, rfl, fun i h => by cases h⟩, by simp, by simp⟩
theorem own_slice {w : World} {base : Nat} {e : TypeId} {k : Nat} {v : Value} {n : Nat} {xs : List Value} (h : w.ownsRow base e k v n xs) : ∃ a cap, v = .slice a n cap := by
  rcases h.2 with ⟨rfl, rfl⟩ | ⟨g, cap, cur, rfl, _⟩
  · exact ⟨_, _, rfl⟩
  · exact ⟨_, _, rfl⟩
theorem grown_after {w0 w w' : World} {r : Option Nat} (h : w.grownBy w' r) (g : Below w0.heap.size w0 w) : w0.grownBy w' r :=
  ⟨h.os.trans g.os, h.tape.trans g.tape, h.output.trans g.output, by have := h.size; have := g.size; omega, fun k hk hr => (h.block k (by have := g.size; omega) hr).trans (g.block k hk)⟩
theorem two_frozen {w : World} {b : Nat} {v0 v1 : Value} {t : TypeId} (h : w.heap[b]? = some (.cells #[v0, v1] t (0, 0))) : w.frozen? ⟨b, 0, none⟩ = false ∧ w.frozen? ⟨b, 1, none⟩ = false := by simp [World.frozen?, h]
theorem fault_pos (c : Cd) : (faultL c).2 = -1 ∨ ∃ i : Nat, (faultL c).2 = i ∧ i < c.lines.length := by
  have key : ∀ (L : List Ln) (i : Nat), (linesE c L i).2 = -1 ∨ ∃ j : Nat, (linesE c L i).2 = j ∧ j < i + L.length := by
    intro L
    induction L with
    | nil => intro i; exact .inl rfl
    | cons l L ih =>
      intro i
      unfold linesE
      split
      · exact .inr ⟨i, rfl, by simp⟩
      · rcases ih (i + 1) with h | ⟨j, h1, h2⟩
        · exact .inl h
        · exact .inr ⟨j, h1, by simp; omega⟩
  unfold faultL
  split
  · exact .inl rfl
  split
  · exact .inl rfl
  split
  · exact .inl rfl
  · rcases key c.lines 0 with h | ⟨j, h1, h2⟩
    · exact .inl h
    · exact .inr ⟨j, h1, by omega⟩
set_option maxHeartbeats 4000000 in
set_option maxRecDepth 100000 in
theorem aparse_any (t : List UInt8) (ht : t.length ≤ 100000) (w : World) (hv : Env w) : Calls Tryz.prog 7 #[.string (mk t)] w fun e w' => AParse t e w' ∧ Below w.heap.size w w' := by
  have HV := Lib.hid hv
  have HSP := Lib.hid (fun w hv => split_any t ht w hv)
  obtain ⟨hs1, hs2⟩ := splitNL_sum t
  have HS2 := Lib.hid hs2
  have HPC : Hid (pcCells (splitNL t) = ((splitNL t).map fun p => Value.string (mk p)).toArray) := Lib.hid rfl
  rw [← HPC.out] at HSP
  clear HPC
  have HBAD := Lib.hid (fun k => parse_bad (t := t) (k := k))
  have HEND := Lib.hid (fun st => parse_end (t := t) (st := st))
  have hts : (mk t).size = t.length := rfl
  clear hv hs2
  generalize splitNL t = P at *
  go_enter Tryz.func7, Tryz.ntmps7
  go_wp2_with fail
  refine (HSP.out _ (HV.out.ext (ext_alloc (ext_alloc (Below.refl _ _) _) _))).mono ?_; rintro e w' ⟨rfl, rfl⟩
  go_wp2_with fail
  go_loopw [6, 22] (fun vf iv wr => ∃ (i : Nat) (st : Ps) (va vl : Value), iv = .int .i64 i ∧ i ≤ P.length ∧ st.arrs.length + st.lns.length ≤ i ∧ PInv w wr P st va vl vf ∧ StFit st ∧ runPs P 0 ⟨[], [], []⟩ = runPs (P.drop i) i st) (fun _ iv wr => P.length - slotN iv)
  case atStart => exact ⟨0, _, _, _, rfl, Nat.zero_le _, Nat.le_refl _, PInv.start w P, fit_start, rfl⟩
  case round =>
    obtain ⟨i, st, va, vl, rfl, hi, hcnt, hI, hfit, hrun⟩ := hrel
    obtain ⟨pf, capf, hvf⟩ := own_slice hI.rf
    subst hvf
    have HI := Lib.hid hI
    have HF := Lib.hid hfit
    have HR := Lib.hid hrun
    have HVR := Lib.hid (HV.out.ext hI.bl)
    by_cases h : i < P.length
    · have hpl : (P[i]'h).length ≤ 100000 := by have := HS2.out _ (List.getElem_mem h); omega
      have hcell : wr.cell? ⟨w.heap.size + 2, i, none⟩ = some (.string (mk (P[i]'h))) := by
        rw [cell_row hI.pc]
        unfold pcCells
        simp [h]
      have HST := Lib.hid (fun st => run_step P i h st)
      have HH := Lib.hid (fun w hv => hash_any (P[i]'h) hpl w hv)
      have hch : (cutHash (P[i]'h)).length ≤ 100000 := by
        have : (cutHash (P[i]'h)).length ≤ (P[i]'h).length := by unfold cutHash; exact (List.takeWhile_sublist _).length_le
        omega
      have HT := Lib.hid (fun w => trim_any (cutHash (P[i]'h)) hch w)
      have hbl : (bareL (P[i]'h)).length ≤ 100000 := by have := bare_len (P[i]'h); omega
      have hbe : trimB (cutHash (P[i]'h)) = bareL (P[i]'h) := rfl
      rw [hbe] at HT
      clear hI hfit hrun hbe
      generalize (Lib.cut (P[i]'h) [35]).2.1 = x1 at *
      generalize (Lib.cut (P[i]'h) [35]).2.2 = x2 at *
      generalize bareL (P[i]'h) = T at *
      generalize cutHash (P[i]'h) = C at *
      generalize P[i]'h = p at *
      go_wp2_with fail
      refine (HH.out _ HVR.out).mono ?_; rintro e w1 ⟨rfl, g1⟩
      go_wp2_with fail
      refine (HT.out _).mono ?_; rintro e w2 ⟨rfl, g2⟩
      have HI2 := Lib.hid ((HI.out.ext g1).ext g2)
      have tT : (mk T).toList = T := mk_tl _
      clear g1 g2 HI HVR hcell
      by_cases hT : T = []
      · subst hT
        have HNX : Hid (runPs P 0 ⟨[], [], []⟩ = runPs (P.drop (i + 1)) (i + 1) st) := Lib.hid (by rw [HR.out, HST.out, step_nil])
        go_wp2_with fail
        go_roundw
        case rel => exact ⟨i + 1, st, va, vl, by go_num, by omega, by omega, HI2.out, HF.out, HNX.out⟩
        case measure => simp [slotN]; omega
      · have hTe := ie_ne hT
        have HTN := Lib.hid hT
        have HRA := Lib.hid (fun w hv => readArray_any T hbl w hv)
        have HRL := Lib.hid (fun w hv => readLine_any T hbl w hv)
        clear hT
        go_wp2_with fail
        refine (HRA.out _ (HV.out.ext HI2.out.bl)).mono ?_; rintro e w3 ⟨rfl, g3⟩
        have HI3 := Lib.hid (HI2.out.ext g3)
        clear g3 HI2 HRA
        cases hra : readA T with
        | some a =>
          by_cases hl0 : st.lns = []
          · have HNX : Hid (runPs P 0 ⟨[], [], []⟩ = runPs (P.drop (i + 1)) (i + 1) { st with arrs := st.arrs ++ [a] }) := Lib.hid (by rw [HR.out, HST.out, step_arr st i HTN.out hl0 hra])
            have HOKA := Lib.hid (readA_ok hra).1
            unfold arrRes arrV
            obtain ⟨nm, sz⟩ := a
            simp only at *
            have HI4 := Lib.hid (HI3.out.ext (ext_alloc (Below.refl _ _) (.cells #[.string (mk nm), .int .i64 sz] 44)))
            obtain ⟨pl, capl, hvl⟩ := own_slice HI4.out.rl
            rw [hl0] at hvl
            have hvl : vl = .slice pl 0 capl := hvl
            subst hvl
            obtain ⟨c0, c1⟩ := two_cells HI4.out.b5
            clear hl0 hra HRL HST HR
            go_wp2_with (at_builtin; refine app_cells Tryz.underlying25 infoA rfl (by decide) (by decide) rfl _ _ rfl (w.heap.size + 3) _ st.arrs.length (st.arrs.flatMap cellsA) rfl (own_ext HI4.out.ra (ext_alloc (Below.refl _ _) _)) (w3.heap.size + 1) 1 (cellsA ⟨nm, sz⟩) rfl rfl (heap_new' _ _ _ (by simp)) (oneA _) (by omega) (by have := HI4.out.sz; simp at this ⊢; omega) ?_)
            intro v' w4 hown4 hg4
            have hg5 : (w3.alloc (.cells #[.string (mk nm), .int .i64 sz] 44)).grownBy w4 va.ownBlock := grown_after hg4 (ext_alloc (Below.refl _ _) _)
            have hb4 := (hg5.block (w.heap.size + 1) (by have := HI4.out.sz; omega) (fun e => own_ne HI4.out.ra (b := w.heap.size + 1) (by omega) e.symm)).trans HI4.out.b5
            have HI5 := Lib.hid (HI4.out.arr ⟨nm, sz⟩ hown4 hg5)
            obtain ⟨ap, capp, rfl⟩ := own_slice hown4
            clear c0 c1
            obtain ⟨c0, c1⟩ := two_cells hb4
            obtain ⟨f0, f1⟩ := two_frozen hb4
            clear hown4 hg4 hg5 hb4
            go_wp2_with fail
            go_roundw
            case rel => exact ⟨i + 1, _, _, _, by go_num, by omega, by simp; omega, HI5.out, fit_arr HF.out HOKA.out, HNX.out⟩
            case measure => simp [slotN]; omega
          · have HCO : Hid ((if st.lns = [] then readA T else none) = none) := Lib.hid (by rw [if_neg hl0])
            have hln : st.lns.length ≠ 0 := fun e => hl0 (List.length_eq_zero_iff.1 e)
            have hlb : ((st.lns.length : Int) == 0) = false := beq_eq_false_iff_ne.2 (by omega)
            unfold arrRes arrV
            obtain ⟨nm, sz⟩ := a
            simp only
            have HI4 := Lib.hid (HI3.out.ext (ext_alloc (Below.refl _ _) (.cells #[.string (mk nm), .int .i64 sz] 44)))
            obtain ⟨pl, capl, hvl⟩ := own_slice HI4.out.rl
            subst hvl
            obtain ⟨c0, c1⟩ := two_cells HI4.out.b5
            have HLN := Lib.hid hln
            clear hl0 hra hln
            go_wp2_with fail
            refine (HRL.out _ (HV.out.ext HI4.out.bl)).mono ?_; rintro e w5 ⟨hres, g5⟩
            have HI5 := Lib.hid (HI4.out.ext g5)
            clear g5 HI4 HRL HI3 c0 c1
            rcases hres with ⟨l, hl, rfl⟩ | ⟨hl, y, rfl⟩
            · have HNX : Hid (runPs P 0 ⟨[], [], []⟩ = runPs (P.drop (i + 1)) (i + 1) { st with lns := st.lns ++ [l], fr := st.fr ++ [(i : Int) + 1] }) := Lib.hid (by rw [HR.out, HST.out, step_line st i HTN.out HCO.out hl])
              have HFN := Lib.hid (fit_line HF.out hl ((i : Int) + 1))
              have hfr : st.fr.length = st.lns.length := HF.out.2.symm
              have HFR := Lib.hid hfr
              have hfr2 : st.fr.length ≤ 100001 := by omega
              unfold lnV
              obtain ⟨lab, x⟩ := l
              simp only
              have HI6 := Lib.hid (HI5.out.ext (ext_alloc (Below.refl _ _) (.cells #[.string (mk lab), .int .i64 x.op, .int .i64 x.d, .int .i64 x.a, .int .i64 x.b, .int .i64 x.n, .string (mk x.name)] 48)))
              obtain ⟨c0, c1⟩ := two_cells HI6.out.b5
              clear hl HST HR hfr
              go_wp2_with (at_builtin; refine app_cells Tryz.underlying22 infoL rfl (by decide) (by decide) rfl _ _ rfl (w.heap.size + 3) _ st.lns.length (st.lns.flatMap cellsL) rfl (own_ext HI6.out.rl (ext_alloc (Below.refl _ _) _)) (w5.heap.size + 1) 1 (cellsL ⟨lab, x⟩) rfl rfl (heap_new' _ _ _ (by simp)) (oneL _) (by omega) (by have := HI6.out.sz; simp at this ⊢; omega) ?_)
              intro v' w7 hown7 hg7
              have hg8 : (w5.alloc (.cells #[.string (mk lab), .int .i64 x.op, .int .i64 x.d, .int .i64 x.a, .int .i64 x.b, .int .i64 x.n, .string (mk x.name)] 48)).grownBy w7 _ := grown_after hg7 (ext_alloc (Below.refl _ _) _)
              have hb7 := (hg8.block (w.heap.size + 1) (by have := HI6.out.sz; omega) (fun e => own_ne HI6.out.rl (b := w.heap.size + 1) (by omega) e.symm)).trans HI6.out.b5
              have HI7 := Lib.hid (HI6.out.line ⟨lab, x⟩ hown7 hg8)
              obtain ⟨ap, capp, rfl⟩ := own_slice hown7
              clear c0 c1
              obtain ⟨c0, c1⟩ := two_cells hb7
              obtain ⟨f0, f1⟩ := two_frozen hb7
              clear hown7 hg7 hg8 hb7
              go_upto_region 18 with (fail)
              obtain ⟨w8, hw8⟩ : ∃ w8, w7.setCell ⟨w.heap.size + 1, 1, none⟩ (.slice ap (st.lns.length + 1) capp) = w8 := ⟨_, rfl⟩
              rw [hw8] at HI7 ⊢
              clear hw8 c0 c1 f0 f1 HI6 HI5
              go_wp2_with (at_builtin; refine app_cells Tryz.underlying23 infoN rfl (by decide) (by decide) rfl _ _ rfl (w.heap.size + 3) _ st.fr.length (st.fr.flatMap cellsN) rfl (own_ext HI7.out.rf (ext_alloc (Below.refl _ _) _)) w8.heap.size 1 (cellsN ((i : Int) + 1)) rfl rfl (heap_new _ _) (oneN _) (by omega) (by have := HI7.out.sz; simp at this ⊢; omega) ?_)
              intro v9 w9 hown9 hg9
              have HI9 := Lib.hid (HI7.out.from ((i : Int) + 1) hown9 (grown_after hg9 (ext_alloc (Below.refl _ _) _)))
              clear hown9 hg9
              go_wp2_with fail
              go_roundw
              case rel => exact ⟨i + 1, _, _, _, by go_num, by omega, by simp; omega, HI9.out, HFN.out, HNX.out⟩
              case measure => simp [slotN]; omega
            · have HPB : Hid (parseL t = (⟨[], []⟩, 60, (i : Int) + 1)) := Lib.hid (HBAD.out _ (by rw [HR.out, HST.out, step_bad st i HTN.out HCO.out hl]))
              unfold lnV
              obtain ⟨lab, x⟩ := y
              simp only
              have HI6 := Lib.hid (HI5.out.ext (ext_alloc (Below.refl _ _) (.cells #[.string (mk lab), .int .i64 x.op, .int .i64 x.d, .int .i64 x.a, .int .i64 x.b, .int .i64 x.n, .string (mk x.name)] 48)))
              clear hl HST HR
              go_upto_region 16 with (fail)
              obtain ⟨w8, hw8⟩ : ∃ w8, w5.alloc (.cells #[.string (mk lab), .int .i64 x.op, .int .i64 x.d, .int .i64 x.a, .int .i64 x.b, .int .i64 x.n, .string (mk x.name)] 48) = w8 := ⟨_, rfl⟩
              rw [hw8] at HI6 ⊢
              clear hw8 HI5
              obtain ⟨c0, c1⟩ := two_cells HI6.out.b2
              obtain ⟨f0, f1⟩ := two_frozen HI6.out.b2
              obtain ⟨wf, hwf, hhf, hbf⟩ := two_store HI6.out.b2 HI6.out.bl (Nat.le_refl _) (.slice none 0 0) (.slice none 0 0)
              have HWF := Lib.hid hwf
              have HBF := Lib.hid hbf
              obtain ⟨d0, d1⟩ := two_cells hhf
              clear hwf hbf hhf
              go_wp2_with fail
              refine bodyPost_world HWF.out ?_
              clear c0 c1 f0 f1
              exact bodyPost_ret (v := .tuple #[.agg #[.slice none 0 0, .slice none 0 0], .int .i64 60, .int .i64 ((i : Int) + 1)]) (by simp [results, Tryz.results7, go_sem, d0, d1]) rfl ⟨⟨_, by rw [HPB.out], by rw [HPB.out]; exact nil_code _⟩, HBF.out⟩
        | none =>
            have HCO : Hid ((if st.lns = [] then readA T else none) = none) := Lib.hid (by rw [hra]; simp)
            unfold arrRes
            simp only
            have HI4 := Lib.hid (HI3.out.ext (ext_alloc (Below.refl _ _) (.cells #[.string ⟨#[]⟩, .int .i64 0] 44)))
            clear hra
            go_wp2_with fail
            refine (HRL.out _ (HV.out.ext HI4.out.bl)).mono ?_; rintro e w5 ⟨hres, g5⟩
            have HI5 := Lib.hid (HI4.out.ext g5)
            clear g5 HI4 HRL HI3
            rcases hres with ⟨l, hl, rfl⟩ | ⟨hl, y, rfl⟩
            · have HNX : Hid (runPs P 0 ⟨[], [], []⟩ = runPs (P.drop (i + 1)) (i + 1) { st with lns := st.lns ++ [l], fr := st.fr ++ [(i : Int) + 1] }) := Lib.hid (by rw [HR.out, HST.out, step_line st i HTN.out HCO.out hl])
              have HFN := Lib.hid (fit_line HF.out hl ((i : Int) + 1))
              have hfr : st.fr.length = st.lns.length := HF.out.2.symm
              have HFR := Lib.hid hfr
              have hfr2 : st.fr.length ≤ 100001 := by omega
              unfold lnV
              obtain ⟨lab, x⟩ := l
              simp only
              have HI6 := Lib.hid (HI5.out.ext (ext_alloc (Below.refl _ _) (.cells #[.string (mk lab), .int .i64 x.op, .int .i64 x.d, .int .i64 x.a, .int .i64 x.b, .int .i64 x.n, .string (mk x.name)] 48)))
              obtain ⟨c0, c1⟩ := two_cells HI6.out.b5
              clear hl HST HR hfr
              go_wp2_with (at_builtin; refine app_cells Tryz.underlying22 infoL rfl (by decide) (by decide) rfl _ _ rfl (w.heap.size + 3) _ st.lns.length (st.lns.flatMap cellsL) rfl (own_ext HI6.out.rl (ext_alloc (Below.refl _ _) _)) (w5.heap.size + 1) 1 (cellsL ⟨lab, x⟩) rfl rfl (heap_new' _ _ _ (by simp)) (oneL _) (by omega) (by have := HI6.out.sz; simp at this ⊢; omega) ?_)
              intro v' w7 hown7 hg7
              have hg8 : (w5.alloc (.cells #[.string (mk lab), .int .i64 x.op, .int .i64 x.d, .int .i64 x.a, .int .i64 x.b, .int .i64 x.n, .string (mk x.name)] 48)).grownBy w7 _ := grown_after hg7 (ext_alloc (Below.refl _ _) _)
              have hb7 := (hg8.block (w.heap.size + 1) (by have := HI6.out.sz; omega) (fun e => own_ne HI6.out.rl (b := w.heap.size + 1) (by omega) e.symm)).trans HI6.out.b5
              have HI7 := Lib.hid (HI6.out.line ⟨lab, x⟩ hown7 hg8)
              obtain ⟨ap, capp, rfl⟩ := own_slice hown7
              clear c0 c1
              obtain ⟨c0, c1⟩ := two_cells hb7
              obtain ⟨f0, f1⟩ := two_frozen hb7
              clear hown7 hg7 hg8 hb7
              go_upto_region 18 with (fail)
              obtain ⟨w8, hw8⟩ : ∃ w8, w7.setCell ⟨w.heap.size + 1, 1, none⟩ (.slice ap (st.lns.length + 1) capp) = w8 := ⟨_, rfl⟩
              rw [hw8] at HI7 ⊢
              clear hw8 c0 c1 f0 f1 HI6 HI5
              go_wp2_with (at_builtin; refine app_cells Tryz.underlying23 infoN rfl (by decide) (by decide) rfl _ _ rfl (w.heap.size + 3) _ st.fr.length (st.fr.flatMap cellsN) rfl (own_ext HI7.out.rf (ext_alloc (Below.refl _ _) _)) w8.heap.size 1 (cellsN ((i : Int) + 1)) rfl rfl (heap_new _ _) (oneN _) (by omega) (by have := HI7.out.sz; simp at this ⊢; omega) ?_)
              intro v9 w9 hown9 hg9
              have HI9 := Lib.hid (HI7.out.from ((i : Int) + 1) hown9 (grown_after hg9 (ext_alloc (Below.refl _ _) _)))
              clear hown9 hg9
              go_wp2_with fail
              go_roundw
              case rel => exact ⟨i + 1, _, _, _, by go_num, by omega, by simp; omega, HI9.out, HFN.out, HNX.out⟩
              case measure => simp [slotN]; omega
            · have HPB : Hid (parseL t = (⟨[], []⟩, 60, (i : Int) + 1)) := Lib.hid (HBAD.out _ (by rw [HR.out, HST.out, step_bad st i HTN.out HCO.out hl]))
              unfold lnV
              obtain ⟨lab, x⟩ := y
              simp only
              have HI6 := Lib.hid (HI5.out.ext (ext_alloc (Below.refl _ _) (.cells #[.string (mk lab), .int .i64 x.op, .int .i64 x.d, .int .i64 x.a, .int .i64 x.b, .int .i64 x.n, .string (mk x.name)] 48)))
              clear hl HST HR
              go_upto_region 16 with (fail)
              obtain ⟨w8, hw8⟩ : ∃ w8, w5.alloc (.cells #[.string (mk lab), .int .i64 x.op, .int .i64 x.d, .int .i64 x.a, .int .i64 x.b, .int .i64 x.n, .string (mk x.name)] 48) = w8 := ⟨_, rfl⟩
              rw [hw8] at HI6 ⊢
              clear hw8 HI5
              obtain ⟨c0, c1⟩ := two_cells HI6.out.b2
              obtain ⟨f0, f1⟩ := two_frozen HI6.out.b2
              obtain ⟨wf, hwf, hhf, hbf⟩ := two_store HI6.out.b2 HI6.out.bl (Nat.le_refl _) (.slice none 0 0) (.slice none 0 0)
              have HWF := Lib.hid hwf
              have HBF := Lib.hid hbf
              obtain ⟨d0, d1⟩ := two_cells hhf
              clear hwf hbf hhf
              go_wp2_with fail
              refine bodyPost_world HWF.out ?_
              clear c0 c1 f0 f1
              exact bodyPost_ret (v := .tuple #[.agg #[.slice none 0 0, .slice none 0 0], .int .i64 60, .int .i64 ((i : Int) + 1)]) (by simp [results, Tryz.results7, go_sem, d0, d1]) rfl ⟨⟨_, by rw [HPB.out], by rw [HPB.out]; exact nil_code _⟩, HBF.out⟩
    · have HE : Hid (parseL t = endPs st) := Lib.hid (HEND.out st (by rw [hrun, run_end P i h]))
      have HC0 := Lib.hid (hI.code (by omega) (by omega))
      have HFA := Lib.hid (fault_any _ _ wr HC0.out hfit.1)
      have hb5 := hI.b5
      obtain ⟨c0, c1⟩ := two_cells hb5
      have hfl := hfit.2
      have HFL := Lib.hid hfl
      obtain ⟨q1, pf', capf', hq, hcell⟩ := row_get lenN (by decide) hI.rf
      clear q1
      obtain ⟨e1, he1⟩ : ∃ e1, (faultL ⟨st.lns, st.arrs⟩).1 = e1 := ⟨_, rfl⟩
      obtain ⟨e2, he2⟩ : ∃ e2, (faultL ⟨st.lns, st.arrs⟩).2 = e2 := ⟨_, rfl⟩
      have HE1 := Lib.hid he1
      have HE2 := Lib.hid he2
      have HFP := Lib.hid (fault_pos ⟨st.lns, st.arrs⟩)
      rw [he1, he2] at HFA
      rw [he2] at HFP
      have HCE := Lib.hid hcell
      injection hq with hq1 _ hq3
      subst hq1 hq3
      clear hI hfit hrun hb5 hfl he1 he2 hcell
      go_wp2_with fail
      refine HFA.out.mono ?_; rintro e w1 ⟨rfl, g1⟩
      have HI1 := Lib.hid (HI.out.ext g1)
      clear c0 c1
      by_cases hm : e2 = -1
      · by_cases hz : e1 = 0
        · have HP : Hid (parseL t = (⟨st.lns, st.arrs⟩, 0, 0)) := Lib.hid (by rw [HE.out]; unfold endPs; rw [HE1.out, HE2.out, if_neg (by simp [hm]), if_neg (by simp [hz])])
          subst hm hz
          clear g1 HFP
          obtain ⟨c0, c1⟩ := two_cells HI1.out.b5
          obtain ⟨pa, capa, hva⟩ := own_slice HI1.out.ra
          obtain ⟨pl, capl, hvl⟩ := own_slice HI1.out.rl
          subst hva hvl
          obtain ⟨k0, k1⟩ := two_cells HI1.out.b2
          obtain ⟨f0, f1⟩ := two_frozen HI1.out.b2
          obtain ⟨wf, hwf, hhf, hbf⟩ := two_store HI1.out.b2 HI1.out.bl (Nat.le_refl _) (.slice pa st.arrs.length capa) (.slice pl st.lns.length capl)
          have HWF := Lib.hid hwf
          have HBF := Lib.hid hbf
          obtain ⟨d0, d1⟩ := two_cells hhf
          have HCD : Hid (CdAt wf (.agg #[.slice pa st.arrs.length capa, .slice pl st.lns.length capl]) ⟨st.lns, st.arrs⟩) := Lib.hid (by
            rw [← hwf]
            exact ⟨_, _, rfl, row_ars (own_set (own_set HI1.out.ra (by omega)) (by omega)) (by show st.arrs.length ≤ _; omega), row_lns (own_set (own_set HI1.out.rl (by omega)) (by omega)) (by show st.lns.length ≤ _; omega), by show st.arrs.length ≤ _; omega, by show st.lns.length ≤ _; omega⟩)
          clear hwf hbf hhf
          go_wp2_with fail
          refine bodyPost_world HWF.out ?_
          clear c0 c1 k0 k1 f0 f1
          exact bodyPost_ret (v := .tuple #[.agg #[.slice pa st.arrs.length capa, .slice pl st.lns.length capl], .int .i64 0, .int .i64 0]) (by simp [results, Tryz.results7, go_sem, d0, d1]) rfl ⟨⟨_, by rw [HP.out], by rw [HP.out]; exact HCD.out⟩, HBF.out⟩
        · have HP : Hid (parseL t = (⟨[], []⟩, e1, 1)) := Lib.hid (by rw [HE.out]; unfold endPs; rw [HE1.out, HE2.out, if_neg (by simp [hm]), if_pos hz])
          subst hm
          have hzb : (e1 != 0) = true := bne_iff_ne.2 hz
          have hzb2 : (e1 == 0) = false := beq_eq_false_iff_ne.2 hz
          clear g1 HFP hz
          obtain ⟨k0, k1⟩ := two_cells HI1.out.b2
          obtain ⟨f0, f1⟩ := two_frozen HI1.out.b2
          obtain ⟨wf, hwf, hhf, hbf⟩ := two_store HI1.out.b2 HI1.out.bl (Nat.le_refl _) (.slice none 0 0) (.slice none 0 0)
          have HWF := Lib.hid hwf
          have HBF := Lib.hid hbf
          obtain ⟨d0, d1⟩ := two_cells hhf
          clear hwf hbf hhf
          go_wp2_with fail
          refine bodyPost_world HWF.out ?_
          clear k0 k1 f0 f1
          exact bodyPost_ret (v := .tuple #[.agg #[.slice none 0 0, .slice none 0 0], .int .i64 e1, .int .i64 1]) (by simp [results, Tryz.results7, go_sem, d0, d1]) rfl ⟨⟨_, by rw [HP.out], by rw [HP.out]; exact nil_code _⟩, HBF.out⟩
      · obtain ⟨j, hj, hjl⟩ : ∃ j : Nat, e2 = j ∧ j < st.lns.length := HFP.out.elim (fun h => absurd h hm) (fun h => h)
        have hjf : j < st.fr.length := by rw [HFL.out.symm]; exact hjl
        have HP : Hid (parseL t = (⟨[], []⟩, e1, st.fr[j]'hjf)) := Lib.hid (by rw [HE.out]; unfold endPs; rw [HE1.out, HE2.out, if_pos hm, hj]; simp [List.getD_eq_getElem?_getD, hjf])
        obtain ⟨g, hg, hgb, hcg⟩ := HCE.out j hjf
        have hcj : wr.cell? ⟨g, j, none⟩ = some (.int .i64 (st.fr[j]'hjf)) := by
          have := hcg 0 (by decide)
          rw [Nat.mul_one] at this
          exact this
        have hcj1 := (g1.cell (cell_lt hcj)).trans hcj
        generalize st.fr[j]'hjf = q at *
        subst hg hj
        have hmb : ((j : Int) != -1) = true := bne_iff_ne.2 (by omega)
        have hmb2 : ((j : Int) == -1) = false := beq_eq_false_iff_ne.2 (by omega)
        clear g1 HFP hm hcj hcg HCE
        obtain ⟨k0, k1⟩ := two_cells HI1.out.b2
        obtain ⟨f0, f1⟩ := two_frozen HI1.out.b2
        obtain ⟨wf, hwf, hhf, hbf⟩ := two_store HI1.out.b2 HI1.out.bl (Nat.le_refl _) (.slice none 0 0) (.slice none 0 0)
        have HWF := Lib.hid hwf
        have HBF := Lib.hid hbf
        obtain ⟨d0, d1⟩ := two_cells hhf
        clear hwf hbf hhf
        have hgn : g ≠ w.heap.size := by omega
        have hcd : w1.drew.cell? ⟨g, j, none⟩ = some (.int .i64 q) := hcj1
        have hce : ((w1.setCell ⟨w.heap.size, 0, none⟩ (.slice none 0 0)).setCell ⟨w.heap.size, 1, none⟩ (.slice none 0 0)).drew.cell? ⟨g, j, none⟩ = some (.int .i64 q) := by
          show World.cell? (_) _ = _
          rw [← hcj1]
          exact World.cell?_of_block ((heap_setCell_other _ _ _ _ (by show g ≠ w.heap.size; omega)).trans (heap_setCell_other _ _ _ _ (by show g ≠ w.heap.size; omega)))
        go_wp2_with fail
        go_region_held3 (fun w' => w'.cell? ⟨g, j, none⟩ = some (.int .i64 q)) (first | exact hcd | exact hce) ((fail))
        go_wp2_with fail
        refine bodyPost_world (congrArg World.drew HWF.out) ?_
        clear k0 k1 f0 f1
        exact bodyPost_ret (v := .tuple #[.agg #[.slice none 0 0, .slice none 0 0], .int .i64 e1, .int .i64 q]) (by simp [results, Tryz.results7, go_sem, d0, d1]) rfl ⟨⟨_, by rw [HP.out], by rw [HP.out]; exact nil_code _⟩, ext_drew HBF.out⟩
end Go.Proofs.YtlaihjefmhcmcaaGreatDoor
