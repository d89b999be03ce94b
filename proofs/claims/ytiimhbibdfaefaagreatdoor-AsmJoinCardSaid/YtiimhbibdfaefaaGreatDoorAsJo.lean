/- The walk of AsmJoin. -/
import Derived.Test.YtiimhbibdfaefaaGreatDoorRows
import Derived.WalkKit
import Derived.ProofKit
import Derived.OpenShut
import Derived.WalkLawsBesides
import Derived.WalkSpells
import Derived.Outline
import Derived.Handy
import Derived.Lib.Hide
import Derived.Lib.OthersKept
import Derived.KernelRfl
import Derived.Carry
import Derived.OwnWalk
import Derived.RegionTactic
import Derived.BigRegion
import Derived.BigQuiet
import Derived.Deep.QuietTactic
import Derived.Deep.RegionHeld3
import Derived.Deep.AppendLies
import Derived.Deep.RegionHeldLaw
import Derived.Test.YtiimhbibdfaefaaGreatDoorAs10
import Derived.Test.YtiimhbibdfaefaaGreatDoorAsF
import Derived.Test.YtiimhbibdfaefaaGreatDoorAsAw
import Derived.Test.YtiimhbibdfaefaaGreatDoorAsTw
import Derived.Test.YtiimhbibdfaefaaGreatDoorFrm
namespace Go.Proofs.YtiimhbibdfaefaaGreatDoor
open Go.ChangeShapes Go.WideShapes Go.ChangeAt Go.RowKit
set_option linter.unusedVariables false
theorem fitC_posj (raw : List Ln) (hr : AllRaw raw) : 0 < (fitC raw).lines.length := by
  obtain ⟨hg, _, hne, _⟩ := fit2_good raw hr
  have e : (fitC raw).lines.length = (fit2 (fit1 raw 40)).2.length := by unfold fitC; simp
  rw [e]
  cases hn : (fit2 (fit1 raw 40)).1 with
  | nil => exact absurd hn hne
  | cons s r =>
    have hs := hg.lab s (by rw [hn]; simp)
    have := hg.has s (lab_ne hs)
    rw [hn] at this
    cases hl : (fit2 (fit1 raw 40)).2 with
    | nil => rw [hl] at this; simp [hasLab] at this
    | cons => simp
theorem join_len (c : Cd) (d : Int) (j : Nat) : (joinL c d j).lines.length = c.lines.length + 2 + j := by unfold joinL mvs; simp; omega
theorem join_fit {c : Cd} (h : CdFit c) (d : Int) (j : Nat) : CdFit (joinL c d j) := by
  refine ⟨fun l hl => ?_, h.2⟩
  have hm : l ∈ ([⟨firS, zeroI⟩] ++ c.lines ++ [⟨lasS, zeroI⟩]) ++ mvs d j := hl
  rcases List.mem_append.1 hm with hm | hm
  · rcases List.mem_append.1 hm with hm | hm
    · rcases List.mem_append.1 hm with hm | hm
      · rw [List.mem_singleton.1 hm]; exact ⟨by decide, by decide⟩
      · exact h.1 l hm
    · rw [List.mem_singleton.1 hm]; exact ⟨by decide, by decide⟩
  · unfold mvs at hm
    obtain ⟨k, hk, rfl⟩ := List.mem_map.1 hm
    exact ⟨by simp, by simp [mvI]⟩
theorem join_at {w : World} {B B2 : Nat} {c : Cd} {d : Int} {j m : Nat} {pa pl : Option Addr} {ca cl : Nat} (hm : m = c.lines.length + 2 + j) (hl : m ≤ 1000) (har : c.arrays = arrsAB) (h1 : w.ownsRow B 53 2 (.slice pa 2 ca) 2 (arrsAB.flatMap cellsA)) (h2 : w.ownsRow B2 29 7 (.slice pl m cl) m ((joinL c d j).lines.flatMap cellsL)) :
    CdAt w (.agg #[.slice pa 2 ca, .slice pl m cl]) (joinL c d j) := by
  have hn := join_len c d j
  have e : (joinL c d j).arrays = arrsAB := har
  refine ⟨_, _, rfl, ?_, row_lns h2 (by omega), by rw [e]; decide, by omega⟩
  rw [e]
  exact row_ars (L := arrsAB) h1 (by decide)
theorem row_in2j {w : World} {base : Nat} {e : TypeId} {p : Option Addr} {m n cap : Nat} {L : List In} (h : w.ownsRow base e 6 (.slice p m cap) n (L.flatMap cellsI)) {i : Nat} {x : In} (hx : L[i]? = some x) :
    ∃ g, p = some ⟨g, 0, none⟩ ∧ g < w.heap.size ∧ w.cell? ⟨g, i * 6, none⟩ = some (.int .i64 x.op) ∧ w.cell? ⟨g, i * 6 + 1, none⟩ = some (.int .i64 x.d) ∧ w.cell? ⟨g, i * 6 + 2, none⟩ = some (.int .i64 x.a) ∧ w.cell? ⟨g, i * 6 + 3, none⟩ = some (.int .i64 x.b) ∧ w.cell? ⟨g, i * 6 + 4, none⟩ = some (.int .i64 x.n) ∧ w.cell? ⟨g, i * 6 + 5, none⟩ = some (.string (mk x.name)) := by
  obtain ⟨hi, hx⟩ := List.getElem?_eq_some_iff.1 hx
  exact row_in h hi hx
theorem join_same {c : Cd} {d : Int} {j : Nat} (hto : ∀ x ∈ flatI c.lines, toL (joinL c d j) x = toL c x) (i : Nat) (h : i < (flatI c.lines).length) :
    (flatI (joinL c d j).lines)[i]? = (flatI c.lines)[i]? ∧ ((flatI (joinL c d j).lines).map (toL (joinL c d j)))[i]? = ((flatI c.lines).map (toL c))[i]? := by
  have e : (flatI (joinL c d j).lines)[i]? = (flatI c.lines)[i]? := by rw [flat_join, List.getElem?_append_left h]
  refine ⟨e, ?_⟩
  rw [List.getElem?_map, List.getElem?_map, e, List.getElem?_eq_getElem h]
  show some _ = some _
  rw [hto _ (List.getElem_mem h)]
theorem join_more (c : Cd) (d : Int) (j i : Nat) (h1 : (flatI c.lines).length ≤ i) (h2 : i < (flatI c.lines).length + j) : ((flatI (joinL c d j).lines).map (toL (joinL c d j)))[i]? = some (-1) := by
  rw [List.getElem?_map, flat_join, List.getElem?_append_right h1, List.getElem?_map, List.getElem?_range (by omega)]
  show some (toL (joinL c d j) (mvI d _)) = _
  rw [to_mv]
/-- What the first loop keeps. -/
def JRel (S B : Nat) (va : Value) (w0 w3 : World) (L : List Ln) (m : Nat) (wr : World) : Prop :=
  ∃ pl cl, wr.heap[B]? = some (.cells #[va, .slice pl m cl] 25 (0, 0)) ∧ wr.ownsRow S 29 7 (.slice pl m cl) m (L.flatMap cellsL) ∧ Fr S (fun b => b = B) w3 wr ∧ Below w0.heap.size w0 wr
theorem jrel_mk {S B m cap : Nat} {va vo : Value} {w0 w3 w6 : World} {L : List Ln} {p : Option Addr} (hB : w6.heap[B]? = some (.cells #[va, vo] 25 (0, 0))) (hown : w6.ownsRow S 29 7 (.slice p m cap) m (L.flatMap cellsL))
    (hf : Fr S (fun b => b = B) w3 w6) (hb : Below w0.heap.size w0 w6) (hBS : B < S) (h0 : w0.heap.size ≤ B) : JRel S B va w0 w3 L m (w6.setCell ⟨B, 1, none⟩ (.slice p m cap)) :=
  ⟨p, cap, (heap_setCell_same _ _ 1 _ _ _ hB).trans rfl, own_set_ne hown (by intro e; have := (hown.lt B e).1; omega), hf.set (.inl rfl) _, ext_set hb (by show w0.heap.size ≤ B; exact h0) _⟩
set_option maxHeartbeats 4000000 in
set_option maxRecDepth 100000 in
theorem join_walk (rv : Value) (raw : List Ln) (n d : Int) (w : World) (h : LnsAt w rv raw) (hr : AllRaw raw) (hn : I64 n) (hd : I64 d) (hv : Env w) : Calls Tryz.prog 8 #[rv, .int .i64 n, .int .i64 d] w fun e w' => e = .returned (.bool true) ∧ Below w.heap.size w w' := by
  have HAW := Lib.hid (awake8_any w hv)
  have HFI := Lib.hid (fun w' (g : Below w.heap.size w w') => lawfit_any rv raw w' (h.ext g) hr)
  have hml := fitC_len raw hr
  have hmp := fitC_posj raw hr
  have HFT := Lib.hid (fitC_fit raw hr)
  have HOK := Lib.hid (fitC_ok raw hr)
  have HAR : Hid ((fitC raw).arrays = arrsAB) := Lib.hid (fitC_arrs raw)
  have HCD : Hid (∀ (w' : World) (B : Nat) (pa pl : Option Addr) (ca cl : Nat), w'.ownsRow B 53 2 (.slice pa 2 ca) 2 (arrsAB.flatMap cellsA) → w'.ownsRow B 29 7 (.slice pl (fitC raw).lines.length cl) (fitC raw).lines.length ((fitC raw).lines.flatMap cellsL) → CdAt w' (.agg #[.slice pa 2 ca, .slice pl (fitC raw).lines.length cl]) (fitC raw)) := Lib.hid (fun w' B pa pl ca cl h1 h2 => fit_code hr h1 h2)
  obtain ⟨q, hq, hq2⟩ := pickN_nat n 5 (by decide)
  obtain ⟨dd, hdd, hdd2⟩ := pickN_nat d 32 (by decide)
  have P1 : Hid (∀ w, Calls Tryz.prog 12 #[.int .i64 n, .int .i64 5] w fun e w' => e = .returned (.int .i64 (q : Int)) ∧ w = w') :=
    Lib.hid (fun w => (pick8_t n 5 w hn (by decide)).mono fun e w' h => ⟨by rw [← hq]; exact h.1, h.2⟩)
  have P2 : Hid (∀ w, Calls Tryz.prog 12 #[.int .i64 d, .int .i64 32] w fun e w' => e = .returned (.int .i64 (dd : Int)) ∧ w = w') :=
    Lib.hid (fun w => (pick8_t d 32 w hd (by decide)).mono fun e w' h => ⟨by rw [← hdd]; exact h.1, h.2⟩)
  have HJ : Hid (∀ j, j ≤ 5 → (faultL (joinL (fitC raw) (dd : Int) j)).1 = 0) := Lib.hid (fun j hj => by
    have := join_ok HOK.out hml (fitC_no raw hr (s := firS) (by decide) (by decide) fir_no) (fitC_no raw hr (s := lasS) (by decide) (by decide) las_no) ⟨dd, hdd2⟩ j hj
    have e : faultL (joinL (fitC raw) (dd : Int) j) = (0, -1) := this
    rw [e])
  have HTO : Hid (∀ j, ∀ x ∈ flatI (fitC raw).lines, toL (joinL (fitC raw) (dd : Int) j) x = toL (fitC raw) x) := Lib.hid (fun j x hx => by
    obtain ⟨i, hi, hl, e⟩ := flatI_mem hx
    have hok := ok_line ((ok_all (c := fitC raw) (by rw [HOK.out])).2.2.2.2 i hi)
    have h2 := (hok.2 hl).2
    rw [e] at h2
    refine to_join _ _ (fun ef => ?_) (fun e1 e2 => by have := h2 e1; rw [if_neg e2] at this; exact this)
    by_cases e2 : x.op = 17
    · have := h2 (by rw [ef]; decide)
      rw [if_pos e2, ef] at this
      rw [HAR.out] at this
      exact absurd this (by decide)
    · have := h2 (by rw [ef]; decide)
      rw [if_neg e2, ef, fitC_no raw hr (s := firS) (by decide) (by decide) fir_no] at this
      cases this)
  have HOK1 : Hid ((faultL (fitC raw)).1 = 0) := Lib.hid (by rw [HOK.out])
  obtain ⟨hn0, p, cap, rfl, _⟩ := h
  clear hr hv hq hdd hn hd
  generalize fitC raw = c at *
  have hfl : (flatI c.lines).length ≤ 41 := by
    have : (flatI c.lines).length ≤ c.lines.length := by unfold flatI; rw [List.length_map]; exact List.length_filter_le _ _
    omega
  go_enter Tryz.func8, Tryz.ntmps8
  go_wp2_with fail
  refine HAW.out.mono ?_; rintro e w1 ⟨rfl, g1⟩
  have G1 := Lib.hid g1
  clear g1
  go_wp2_with fail
  refine (HFI.out _ G1.out).mono ?_; rintro e w2 ⟨hres, g2⟩
  obtain ⟨pa, ca, pl, cl, rfl, ha, hl⟩ := hres.shape
  obtain ⟨g, hg, hgb, hgl⟩ := row_some_t hl hmp
  subst hg
  go_wp2_with fail
  obtain ⟨wA, hwA⟩ : ∃ wA, w2.alloc (.cells #[.slice pa 2 ca, .slice (some ⟨g, 0, none⟩) c.lines.length cl] 25) = wA := ⟨_, rfl⟩
  have X2 : Below w2.heap.size w2 wA := by rw [← hwA]; exact ext_alloc (Below.refl _ _) _
  have HA := Lib.hid (own_ext ha X2)
  have HL := Lib.hid (own_ext hl X2)
  have HAB := Lib.hid ha.lt
  have HB : Hid (wA.heap[w2.heap.size]? = some (.cells #[.slice pa 2 ca, .slice (some ⟨g, 0, none⟩) c.lines.length cl] 25 (0, 0))) := Lib.hid (by rw [← hwA]; exact heap_new w2 _)
  have zA : w2.heap.size < wA.heap.size := by rw [← hwA]; simp
  have z1 := G1.out.size
  have z2 := g2.size
  have GA := Lib.hid (ext_trans (ext_trans G1.out g2) X2)
  clear hres ha hl g2
  rw [hwA]
  have HFL := Lib.hid (flat_yes _ c wA (HCD.out _ _ _ _ _ _ HA.out HL.out) HFT.out HOK1.out)
  clear hwA
  refine HFL.out.mono ?_; rintro e w3 ⟨hres, g3⟩
  obtain ⟨p1, k1, p2, k2, rfl, h1, h2⟩ := hres.shape
  have H1 := Lib.hid h1
  have H2 := Lib.hid h2
  have HB3 := Lib.hid ((g3.block w2.heap.size zA).trans HB.out)
  have G3 := Lib.hid (ext_trans GA.out g3)
  have HL3 := Lib.hid (own_ext HL.out g3)
  have HA3 := Lib.hid (own_ext HA.out g3)
  have z3 : w2.heap.size < w3.heap.size := by have := g3.size; omega
  have hwA3 := g3.size
  have hg3 : g < w3.heap.size := by omega
  have HNE : Hid (g ≠ w2.heap.size) := Lib.hid (by omega)
  clear hres h1 h2 g3 HFL
  go_wp2_with fail
  refine (P1.out _).mono ?_; rintro e w4 ⟨rfl, rfl⟩
  have f0 := (two_frozen HB3.out).2
  have c1 := (two_cells HB3.out).2
  have hBT : w2.heap.size ≠ w3.heap.size := by omega
  have FR3 : Hid (Fr w3.heap.size (fun b => b = w2.heap.size) w3 w3) := Lib.hid (Fr.refl (Nat.le_refl _))
  go_wp2_with (first
    | (at_builtin; refine app_lines rfl _ _ rfl w3.heap.size _ 1 [(⟨firS, zeroI⟩ : Ln)] rfl (own_one (heap_new _ _) (Nat.le_refl _)) ⟨g, 0, none⟩ c.lines.length cl c.lines rfl rfl ((own_ext HL3.out (ext_alloc (Below.refl _ _) _)).cells (g := g) rfl) (c.lines.length + 1) (by omega) (by omega) (by simp) ?_
       intro p5 cap5 w5 hown5 hg5 hat5
       have HF5 := Lib.hid ((FR3.out.alloc (.cells (cellsL ⟨firS, zeroI⟩).toArray 29)).grown hg5 (fun k hk => .inr (Nat.le_of_eq (Option.some.inj hk))))
       have HG5 := Lib.hid (below_grown (ext_alloc G3.out (.cells (cellsL ⟨firS, zeroI⟩).toArray 29)) hg5 (by simp; omega) (fun k hk => by have : w3.heap.size = k := Option.some.inj hk; omega))
       have HO5 := Lib.hid hown5
       have HB5 := Lib.hid ((hg5.block w2.heap.size (by simp; omega) (fun e => hBT (Option.some.inj e))).trans ((Lib.alloc_old _ _ _ z3).trans HB3.out))
       have z5 : w3.heap.size < w5.heap.size := by have := hg5.size; simp at this; omega
       clear hown5 hg5 hat5 FR3 f0 c1)
    | (at_builtin; refine app_lines rfl _ _ rfl w3.heap.size _ (c.lines.length + 1) ([(⟨firS, zeroI⟩ : Ln)] ++ c.lines) rfl (own_ext HO5.out (ext_alloc (Below.refl _ _) _)) ⟨w5.heap.size, 0, none⟩ 1 1 [(⟨lasS, zeroI⟩ : Ln)] rfl rfl (by rw [one_ln]; exact World.news_of_block (heap_alloc_new _ _)) (c.lines.length + 2) (by omega) (by omega) (by simp; omega) ?_
       intro p6 cap6 w6 hown6 hg6 hat6
       have hgx := grown_after hg6 (ext_alloc (Below.refl w5.heap.size w5) _)
       have hrow : ∀ k, Value.ownBlock (.slice p5 (c.lines.length + 1) cap5) = some k → w3.heap.size ≤ k := fun k hk => (HO5.out.lt k hk).1
       have HB6 := Lib.hid ((hgx.block w2.heap.size (by omega) (fun e => by have := hrow _ e.symm; omega)).trans HB5.out)
       have HJR : Hid (JRel w3.heap.size w2.heap.size (.slice pa 2 ca) w w3 (joinL c (dd : Int) 0).lines (c.lines.length + 2 + 0) (w6.setCell ⟨w2.heap.size, 1, none⟩ (.slice p6 (c.lines.length + 2) cap6))) := Lib.hid (by
         refine jrel_mk HB6.out ?_ (HF5.out.grown hgx (fun k hk => .inr (hrow k hk))) (below_grown HG5.out hgx (by omega) (fun k hk => by have := hrow k hk; omega)) z3 (by omega)
         have e : (joinL c (dd : Int) 0).lines = ([(⟨firS, zeroI⟩ : Ln)] ++ c.lines) ++ [(⟨lasS, zeroI⟩ : Ln)] := by unfold joinL mvs; simp
         rw [e]; exact hown6)
       have f1 := (two_frozen HB6.out).2
       have c1 := (two_cells HB6.out).2
       have z6 : w2.heap.size < w6.heap.size := by have := hgx.size; omega
       clear hown6 hg6 hat6 hgx hrow))
  go_loopw [12] (fun iv wr => ∃ i : Nat, iv = .int .i64 i ∧ i ≤ q + 1 ∧ JRel w3.heap.size w2.heap.size (.slice pa 2 ca) w w3 (joinL c (dd : Int) i).lines (c.lines.length + 2 + i) wr) (fun iv wr => q + 1 - slotN iv)
  case atStart => exact ⟨0, rfl, by omega, HJR.out⟩
  case round =>
    obtain ⟨i, rfl, hi, pl4, cl4, hB4, hO4, hF4, hG4⟩ := hrel
    obtain ⟨g4, hg4, hg4b, hg4l⟩ := row_some_t hO4 (by omega)
    subst hg4
    have HB4 := Lib.hid hB4
    have HO4 := Lib.hid hO4
    have HF4 := Lib.hid hF4
    have HG4 := Lib.hid hG4
    have zr : w2.heap.size < wr.heap.size := by have := hF4.size; omega
    have zr3 := hF4.size
    have c1 := (two_cells hB4).2
    have c0 := (two_cells hB4).1
    clear hB4 hO4 hF4 hG4
    by_cases h : i < q + 1
    · have hii : (i : Int) < 1 + (q : Int) := by omega
      have HLJ : Hid ((joinL c (dd : Int) (i + 1)).lines = (joinL c (dd : Int) i).lines ++ [⟨[], mvI (dd : Int) i⟩]) := Lib.hid (by unfold joinL; rw [mvs_succ]; simp)
      obtain ⟨i0, hi0, hz0, hz1, hz2⟩ := info_parts infoL
      have hne4 : g4 ≠ w2.heap.size := by omega
      generalize (joinL c (dd : Int) i).lines = LL at *
      go_wp2_with fail
      go_region_law ((first
        | (refine step_append_lies _ (by rfl) _ _ _ (by rfl) w3.heap.size 29 i0 _ 7 72 Tryz.underlying23 hi0 hz0 hz1 hz2 rfl (by omega) _ (c.lines.length + 2 + i) (LL.flatMap cellsL) (by rfl) (own_ext HO4.out (ext_alloc (ext_drew (Below.refl _ _)) _)) _ 1 1 (cellsL ⟨[], mvI (dd : Int) i⟩) (by rfl) (by rfl) (World.news_of_block (heap_alloc_new _ _)) (oneL _) (by omega) (by unfold maxLen; omega) (by omega) (by simp; omega) _ rfl ?_; intro gg cap6 w6 hown6 hg6 hat6 hlt6; have hgx := grown_after hg6 (ext_alloc (ext_drew (Below.refl wr.heap.size wr)) _); have hf6 := (hgx.block w2.heap.size zr (fun e => hne4 (by simpa [Value.ownBlock] using e.symm))).trans HB4.out; have f1 : w6.frozen? ⟨w2.heap.size, 1, none⟩ = false := (two_frozen hf6).2; have c1 : w6.cell? ⟨w2.heap.size, 1, none⟩ = _ := (two_cells hf6).2)
        | (go_simp; go_at_call 12; refine (P2.out _).mono ?_; rintro e w5 ⟨rfl, rfl⟩)))
      all_goals
        have HR : Hid (JRel w3.heap.size w2.heap.size (.slice pa 2 ca) w w3 (joinL c (dd : Int) (i + 1)).lines (c.lines.length + 2 + (i + 1)) (w6.setCell ⟨w2.heap.size, 1, none⟩ (.slice (some ⟨gg, 0, none⟩) (c.lines.length + 2 + i + 1) cap6))) := Lib.hid (by
          refine jrel_mk hf6 ?_ (HF4.out.grown hgx (fun k hk => .inr (HO4.out.lt k hk).1)) (below_grown HG4.out hgx (by omega) (fun k hk => by have := (HO4.out.lt k hk).1; omega)) z3 (by omega)
          rw [HLJ.out, List.flatMap_append, one_ln]; exact hown6)
        clear hown6 hg6 hat6 hlt6 hgx hf6 c0 c1 f1
        go_wp2_with fail
        go_roundw
        case rel => exact ⟨i + 1, by go_num, by omega, HR.out⟩
        case measure => simp [slotN]; omega
    · obtain rfl : i = q + 1 := by omega
      have HFL2 := Lib.hid (flat_yes _ (joinL c (dd : Int) (q + 1)) wr (join_at (j := q + 1) rfl (by omega) HAR.out (HF4.out.own HA3.out (fun b hb => by have := (HAB.out b hb).2; exact ⟨by omega, by omega⟩)) HO4.out) (join_fit HFT.out _ _) (HJ.out _ (by omega)))
      go_wp2_with fail
      refine HFL2.out.mono ?_; rintro e w5 ⟨hres, g5⟩
      obtain ⟨p3, k3, p4, k4, rfl, h3, h4⟩ := hres.shape
      have H3 := Lib.hid h3
      have H4 := Lib.hid h4
      have GZ := Lib.hid (ext_trans HG4.out g5)
      have H1r := Lib.hid (own_ext (HF4.out.own H1.out (fun b hb => ⟨(H1.out.lt b hb).2, by have := (H1.out.lt b hb).1; omega⟩)) g5)
      have H2r := Lib.hid (own_ext (HF4.out.own H2.out (fun b hb => ⟨(H2.out.lt b hb).2, by have := (H2.out.lt b hb).1; omega⟩)) g5)
      have HXA := Lib.hid (join_same (HTO.out (q + 1)))
      have HXB := Lib.hid (join_more c (dd : Int) (q + 1))
      have HXC : Hid (∀ i, i < (flatI c.lines).length → ∃ x, (flatI c.lines)[i]? = some x ∧ ((flatI c.lines).map (toL c))[i]? = some (toL c x)) := Lib.hid (fun i hi => ⟨_, List.getElem?_eq_getElem hi, by rw [List.getElem?_map, List.getElem?_eq_getElem hi]; rfl⟩)
      have hM : (flatI (joinL c (dd : Int) (q + 1)).lines).length = (flatI c.lines).length + (q + 1) := by rw [flat_join]; simp
      clear hres g5 h3 h4 HFL2 c0 c1 HTO HB4 HO4 HF4 HG4 HJ HB3 HL3 HA3 HB6 HB5 HJR h hi
      generalize (flatI (joinL c (dd : Int) (q + 1)).lines).map (toL (joinL c (dd : Int) (q + 1))) = TJ at *
      generalize flatI (joinL c (dd : Int) (q + 1)).lines = FJ at *
      generalize FJ.length = M at *
      generalize (flatI c.lines).map (toL c) = T0 at *
      generalize flatI c.lines = F0 at *
      generalize F0.length = n0 at *
      have hb1 : ((M : Int) != (n0 : Int) + (1 + (q : Int))) = false := by simp; omega
      have hMle : M ≤ n0 + (q + 1) := by omega
      have hMge : n0 + (q + 1) ≤ M := by omega
      clear hM
      go_wp2_with fail
      go_loopw [15] (fun iv wx => ∃ i : Nat, iv = .int .i64 i ∧ i ≤ M ∧ Below w5.heap.size w5 wx) (fun iv wx => M - slotN iv)
      case atStart => exact ⟨0, rfl, Nat.zero_le _, Below.refl _ _⟩
      case round =>
        obtain ⟨i, rfl, hi, hbl⟩ := hrel
        have HBL := Lib.hid hbl
        by_cases h : i < M
        · have hiM : (i : Int) < (M : Int) := by omega
          by_cases h0 : i < n0
          · obtain ⟨e1, e2⟩ := HXA.out i h0
            obtain ⟨x, hx, ht⟩ := HXC.out i h0
            rw [hx] at e1
            rw [ht] at e2
            obtain ⟨gi, hgi, hgil, q0, q1, q2, q3, q4, q5⟩ := row_in2j (own_ext H3.out hbl) e1
            obtain ⟨gj, hgj, hgjl, s0, s1, s2, s3, s4, s5⟩ := row_in2j (own_ext H1r.out hbl) hx
            obtain ⟨gt, hgt, hgtl, r0⟩ := row_num2 (own_ext H4.out hbl) e2
            obtain ⟨gu, hgu, hgul, r1⟩ := row_num2 (own_ext H2r.out hbl) ht
            subst hgi hgj hgt hgu
            clear e1 e2 hx ht hbl
            generalize toL c x = tx at *
            obtain ⟨op, dx, a, b, nn, name⟩ := x
            simp only at q0 q1 q2 q3 q4 q5 s0 s1 s2 s3 s4 s5
            have hd0 : (i : Int) < (n0 : Int) := by omega
            have hd1 : decide ((i : Int) < (n0 : Int)) = true := decide_eq_true (by omega)
            have hd2 : decide (i < n0) = true := decide_eq_true h0
            have hd3 : decide ((n0 : Int) ≤ (i : Int)) = false := decide_eq_false (by omega)
            have hd4 : decide (n0 ≤ i) = false := decide_eq_false (by omega)
            go_wp2_with fail
            go_quiet (fail)
            go_wp2_with fail
            go_roundw
            case rel => exact ⟨i + 1, by go_num, by omega, ext_drewN HBL.out _⟩
            case measure => simp [slotN]; omega
          · have ht := HXB.out i (by omega) (by omega)
            obtain ⟨gt, hgt, hgtl, r0⟩ := row_num2 (own_ext H4.out hbl) ht
            subst hgt
            have hd1 : decide ((i : Int) < (n0 : Int)) = false := decide_eq_false (by omega)
            have hd2 : decide (i < n0) = false := decide_eq_false h0
            have hd3 : decide ((n0 : Int) ≤ (i : Int)) = true := decide_eq_true (by omega)
            have hd4 : decide (n0 ≤ i) = true := decide_eq_true (by omega)
            clear ht hbl
            go_wp2_with fail
            go_quiet (fail)
            go_wp2_with fail
            go_roundw
            case rel => exact ⟨i + 1, by go_num, by omega, ext_drewN HBL.out _⟩
            case measure => simp [slotN]; omega
        · obtain rfl : i = M := by omega
          clear hbl
          go_wp2_with fail
          go_ret
          exact ⟨rfl, ext_trans GZ.out HBL.out⟩
end Go.Proofs.YtiimhbibdfaefaaGreatDoor
