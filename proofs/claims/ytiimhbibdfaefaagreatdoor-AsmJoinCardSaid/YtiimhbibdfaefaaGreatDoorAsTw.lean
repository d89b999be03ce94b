/- The walk of AsmTwice. -/
import Derived.Test.YtiimhbibdfaefaaGreatDoorRows
import Derived.WalkKit
import Derived.ProofKit
import Derived.OpenShut
import Derived.WalkLawsBesides
import Derived.WalkSpells
import Derived.Outline
import Derived.Handy
import Derived.Lib.Hide
import Derived.Lib.OthersKept
import Derived.KernelRfl
import Derived.Carry
import Derived.OwnWalk
import Derived.RegionTactic
import Derived.BigRegion
import Derived.BigQuiet
import Derived.Deep.QuietTactic
import Derived.Deep.RegionHeld3
import Derived.Deep.AppendLies
import Derived.Deep.RegionHeldLaw
import Derived.Test.YtiimhbibdfaefaaGreatDoorAs9
import Derived.Test.YtiimhbibdfaefaaGreatDoorAsP
import Derived.Test.YtiimhbibdfaefaaGreatDoorAsF
import Derived.Test.YtiimhbibdfaefaaGreatDoorAsAw
import Derived.Test.YtiimhbibdfaefaaGreatDoorAsLe
namespace Go.Proofs.YtiimhbibdfaefaaGreatDoor
open Go.ChangeShapes Go.WideShapes Go.ChangeAt Go.RowKit
set_option linter.unusedVariables false
theorem pick8_t (c n : Int) (w : World) (h1 : I64 c) (h3 : 0 < n) :
    Calls Tryz.prog 12 #[.int .i64 c, .int .i64 n] w fun e w' => e = .returned (.int .i64 (pickN c n)) ∧ w = w' := by
  obtain ⟨h1, h2⟩ := h1
  have hn : (n == 0) = false := by simpa using (show n ≠ 0 by omega)
  by_cases h : c < 0
  · have e : pickN c n = -((c + 1).tmod n) := by rw [pickN, if_pos h, ← Int.neg_tmod, Int.tmod_eq_emod_of_nonneg (by omega)]
    have E := Lib.hid e; clear e
    go_enter Tryz.func12, Tryz.ntmps12
    go_wp2
    go_ret
    exact ⟨by rw [E.out]; rfl, rfl⟩
  · have e : pickN c n = c % n := by simp [pickN, h]
    have E := Lib.hid e; clear e
    go_enter Tryz.func12, Tryz.ntmps12
    go_wp2
    go_ret
    exact ⟨by rw [E.out]; rfl, rfl⟩
theorem row_some_t {w : World} {base : Nat} {e : TypeId} {k n cap : Nat} {p : Option Addr} {xs : List Value} (h : w.ownsRow base e k (.slice p n cap) n xs) (hn : 0 < n) : ∃ g, p = some ⟨g, 0, none⟩ ∧ base ≤ g ∧ g < w.heap.size := by
  obtain ⟨g, c, hv, h1, h2⟩ := h.form hn
  injection hv with hp _ _
  exact ⟨g, hp, h1, h2⟩
theorem row_cap_t {w : World} {base : Nat} {e : TypeId} {k n cap : Nat} {p : Option Addr} {xs : List Value} (h : w.ownsRow base e k (.slice p n cap) n xs) : n ≤ cap := by
  rcases h.2 with ⟨hv, h0⟩ | ⟨g, c, cur, hv, _, _, hnc, _⟩
  · omega
  · injection hv with _ _ hc
    omega
theorem own_low_t {w w' : World} {B base : Nat} {e : TypeId} {k : Nat} {v : Value} {n : Nat} {xs : List Value} (h : w.ownsRow base e k v n xs) (g : Below B w w') (hb : ∀ b, v.ownBlock = some b → b < B) : w'.ownsRow base e k v n xs := by
  refine ⟨h.1, ?_⟩
  rcases h.2 with h | ⟨g0, cap, cur, h1, h2, h3, h4⟩
  · exact .inl h
  · exact .inr ⟨g0, cap, cur, h1, h2, (g.block g0 (hb g0 (by rw [h1]; rfl))).trans h3, h4⟩
theorem own_set_ne {w : World} {base : Nat} {e : TypeId} {k : Nat} {v : Value} {n : Nat} {xs : List Value} (h : w.ownsRow base e k v n xs) {b o : Nat} {x : Value} (hb : v.ownBlock ≠ some b) : (w.setCell ⟨b, o, none⟩ x).ownsRow base e k v n xs := by
  refine ⟨h.1, ?_⟩
  rcases h.2 with h | ⟨g0, cap, cur, h1, h2, h3, h4⟩
  · exact .inl h
  · exact .inr ⟨g0, cap, cur, h1, h2, (heap_setCell_other _ _ _ _ (by show g0 ≠ b; intro e; exact hb (by rw [h1, ← e]; rfl))).trans h3, h4⟩
theorem twice_rel {w wr w6 : World} {B base g gg n cl cap6 ca : Nat} {pa : Option Addr} {vl : Value} {L : List Ln} {x : Ln} (hf6 : w6.heap[B]? = some (.cells #[.slice pa 2 ca, vl] 25 (0, 0)))
    (hown : w6.ownsRow base 29 7 (.slice (some ⟨gg, 0, none⟩) (L.length + 1) cap6) (L.length + 1) (L.flatMap cellsL ++ cellsL x)) (hgx : wr.grownBy w6 (Value.ownBlock (.slice (some ⟨g, 0, none⟩) n cl)))
    (hA : wr.ownsRow base 53 2 (.slice pa 2 ca) 2 (arrsAB.flatMap cellsA)) (hL : wr.ownsRow base 29 7 (.slice (some ⟨g, 0, none⟩) n cl) n (L.flatMap cellsL)) (hb : Below w.heap.size w wr) (h1 : w.heap.size ≤ base) (h2 : w.heap.size ≤ B) (hgB : gg ≠ B) (hAB : Value.ownBlock (.slice pa 2 ca) ≠ some B) :
    ∃ p2 cap2, (w6.setCell ⟨B, 1, none⟩ (.slice (some ⟨gg, 0, none⟩) (L.length + 1) cap6)).heap[B]? = some (.cells #[.slice pa 2 ca, .slice p2 (L.length + 1) cap2] 25 (0, 0)) ∧ (w6.setCell ⟨B, 1, none⟩ (.slice (some ⟨gg, 0, none⟩) (L.length + 1) cap6)).ownsRow base 29 7 (.slice p2 (L.length + 1) cap2) (L.length + 1) ((L ++ [x]).flatMap cellsL) ∧ (w6.setCell ⟨B, 1, none⟩ (.slice (some ⟨gg, 0, none⟩) (L.length + 1) cap6)).ownsRow base 53 2 (.slice pa 2 ca) 2 (arrsAB.flatMap cellsA) ∧ Below w.heap.size w (w6.setCell ⟨B, 1, none⟩ (.slice (some ⟨gg, 0, none⟩) (L.length + 1) cap6)) ∧ Value.ownBlock (.slice p2 (L.length + 1) cap2) ≠ some B := by
  refine ⟨_, cap6, (heap_setCell_same _ _ 1 _ _ _ hf6).trans rfl, own_set_ne ?_ (by intro e; exact hgB (by simpa [Value.ownBlock] using e)), own_set_ne (hA.kept hgx (own_apart hL hA (by decide))) hAB, ext_set (below_grown hb hgx hb.size (fun b hb => Nat.le_trans h1 (hL.lt b hb).1)) (by show w.heap.size ≤ B; exact h2) _, (by intro e; exact hgB (by simpa [Value.ownBlock] using e))⟩
  simpa using hown
set_option maxHeartbeats 4000000 in
set_option maxRecDepth 100000 in
theorem twice_walk (rv : Value) (raw : List Ln) (wh : Int) (w : World) (h : LnsAt w rv raw) (hr : AllRaw raw) (hwh : I64 wh) (hv : Env w) : Calls Tryz.prog 7 #[rv, .int .i64 wh] w fun e w' => e = .returned (.bool true) ∧ Below w.heap.size w w' := by
  have HV := Lib.hid hv
  have HAW := Lib.hid (awake8_any w hv)
  have HFI := Lib.hid (fun w' (g : Below w.heap.size w w') => lawfit_any rv raw w' (h.ext g) hr)
  have hml := fitC_len raw hr
  have HFT := Lib.hid (fitC_fit raw hr)
  have HOK := Lib.hid (fitC_ok raw hr)
  have HN64 : Hid (∀ l ∈ (fitC raw).lines, I64 l.ins.n) := Lib.hid (fun l hl => by
    obtain ⟨i, hi, rfl⟩ := List.getElem_of_mem hl
    exact (fitC_lines raw hr i hi).2)
  have HTX := Lib.hid (fitC_txt raw hr)
  have HAR : Hid ((fitC raw).arrays = arrsAB) := Lib.hid (fitC_arrs raw)
  have hane := fitC_at raw hr
  have HLI := Lib.hid (fitC_lines raw hr)
  obtain ⟨q, hq, hq2⟩ := pickN_nat wh (atN (fitC raw).lines (fitC raw).lines.length).length (by
    cases k : atN (fitC raw).lines (fitC raw).lines.length with
    | nil => exact absurd k hane
    | cons => simp)
  have P1 : Hid (∀ w, Calls Tryz.prog 12 #[.int .i64 wh, .int .i64 ((atN (fitC raw).lines (fitC raw).lines.length).length : Int)] w fun e w' => e = .returned (.int .i64 (q : Int)) ∧ w = w') :=
    Lib.hid (fun w => (pick8_t wh _ w hwh (by omega)).mono fun e w' h => ⟨by rw [← hq]; exact h.1, h.2⟩)
  obtain ⟨k, hk, hkv, hkl⟩ := at_mem (fitC raw).lines _ (Nat.le_refl _) _ (List.getElem_mem hq2)
  have HQK := Lib.hid hkv
  have HKL := Lib.hid hkl
  obtain ⟨hn, p, cap, rfl, _⟩ := h
  clear hr hv hq hwh hane hkv hkl
  generalize fitC raw = c at *
  go_enter Tryz.func7, Tryz.ntmps7
  go_wp2_with fail
  refine HAW.out.mono ?_; rintro e w1 ⟨rfl, g1⟩
  have G1 := Lib.hid g1
  clear g1
  go_wp2_with fail
  refine (HFI.out _ G1.out).mono ?_; rintro e w2 ⟨hres, g2⟩
  obtain ⟨pa, ca, pl, cl, rfl, ha, hl⟩ := hres.shape
  have hmp : 0 < c.lines.length := by omega
  obtain ⟨g, hg, hgb, hgl⟩ := row_some_t hl hmp
  subst hg
  have hcap := row_cap_t hl
  obtain ⟨wA, hwA⟩ : ∃ wA, w2.alloc (.cells #[.slice pa 2 ca, .slice (some ⟨g, 0, none⟩) c.lines.length cl] 25) = wA := ⟨_, rfl⟩
  have X2 : Below w2.heap.size w2 wA := by rw [← hwA]; exact ext_alloc (Below.refl _ _) _
  have HA := Lib.hid (own_ext ha X2)
  have HL := Lib.hid (own_ext hl X2)
  have HAB := Lib.hid ha.lt
  have HB : Hid (wA.heap[w2.heap.size]? = some (.cells #[.slice pa 2 ca, .slice (some ⟨g, 0, none⟩) c.lines.length cl] 25 (0, 0))) := Lib.hid (by rw [← hwA]; exact heap_new w2 _)
  have zA : w2.heap.size < wA.heap.size := by rw [← hwA]; simp
  have z1 := G1.out.size
  have z2 := g2.size
  have GA := Lib.hid (ext_trans (ext_trans G1.out g2) X2)
  clear hres ha hl g2
  go_wp2_with fail
  try rw [hwA]
  clear hwA
  go_loopw [7, 8] (fun vn iv wr => ∃ i : Nat, iv = .int .i64 i ∧ i ≤ c.lines.length ∧ wr.ownsRow wA.heap.size 3 1 vn (atN c.lines i).length ((atN c.lines i).flatMap cellsN) ∧ Below wA.heap.size wA wr) (fun vn iv wr => c.lines.length - slotN iv)
  case atStart => exact ⟨0, rfl, Nat.zero_le _, World.ownsRow_nil _ _ _ _, Below.refl _ _⟩
  case round =>
    obtain ⟨i, rfl, hi, hown, hbl⟩ := hrel
    obtain ⟨pn, capn, hvn⟩ := own_slice hown
    subst hvn
    have HOW := Lib.hid hown
    have HBL := Lib.hid hbl
    have zr := hbl.size
    have HBX := Lib.hid ((hbl.block w2.heap.size (by omega)).trans HB.out)
    obtain ⟨c0, c1⟩ := two_cells HBX.out
    have lr : w2.heap.size < wr.heap.size := by omega
    have hal := at_len c.lines i
    by_cases h : i < c.lines.length
    · have HST := Lib.hid (at_step c.lines i h)
      obtain ⟨l, hle⟩ : ∃ l, c.lines[i]'h = l := ⟨_, rfl⟩
      obtain ⟨g2, hg2, hg2l, k0, _⟩ := row_line (own_ext HL.out hbl) h hle
      rw [hle] at HST
      injection hg2 with hg2
      injection hg2 with hg2 _ _
      subst hg2
      obtain ⟨lab, x⟩ := l
      simp only at k0 HST
      have tl : (mk lab).toList = lab := mk_tl _
      have hilt : (i : Int) < (c.lines.length : Int) := by omega
      clear hown hbl hle
      by_cases h0 : lab = []
      · subst h0
        have HNX : Hid (atN c.lines (i + 1) = atN c.lines i) := Lib.hid (by rw [HST.out, if_neg (by simp)])
        clear HST
        go_wp2_with fail
        go_roundw
        case rel => exact ⟨i + 1, by go_num, by omega, by rw [HNX.out]; exact HOW.out, HBL.out⟩
        case measure => simp [slotN]; omega
      · have hie := ie_ne h0
        have HNX : Hid (atN c.lines (i + 1) = atN c.lines i ++ [(i : Int)]) := Lib.hid (by rw [HST.out, if_pos h0])
        clear HST h0
        generalize atN c.lines i = ats at *
        go_wp2_with (at_builtin; refine app_cells Tryz.underlying40 infoN rfl (by decide) (by decide) rfl _ _ rfl wA.heap.size _ ats.length (ats.flatMap cellsN) rfl (own_ext HOW.out (ext_alloc (Below.refl _ _) _)) wr.heap.size 1 (cellsN (i : Int)) rfl rfl (heap_new _ _) (oneN _) (by omega) (by simp; omega) ?_)
        intro v3 w3 hown3 hg3
        have hgx := grown_after hg3 (ext_alloc (Below.refl wr.heap.size wr) _)
        have HOW3 := Lib.hid hown3
        have HBL3 := Lib.hid (below_grown HBL.out hgx zr (fun b hb => (HOW.out.lt b hb).1))
        clear hown3 hg3 hgx c0 c1 k0
        go_wp2_with fail
        go_roundw
        case rel => exact ⟨i + 1, by go_num, by omega, by rw [HNX.out]; simpa using HOW3.out, HBL3.out⟩
        case measure => simp [slotN]; omega
    · obtain rfl : i = c.lines.length := by omega
      clear hown hbl
      have hqk : (atN c.lines c.lines.length)[q]? = some (k : Int) := by rw [List.getElem?_eq_getElem hq2, HQK.out]
      obtain ⟨gt, hgt, hgtl, r0⟩ := row_num2 HOW.out hqk
      subst hgt
      clear hqk HQK
      generalize atN c.lines c.lines.length = ats at *
      have hm0 : ((ats.length : Int) == 0) = false := beq_eq_false_iff_ne.2 (by omega)
      have hm1 : ¬ ats.length = 0 := by omega
      have hqi : (q : Int) < (ats.length : Int) := by omega
      go_wp2_with fail
      refine (P1.out _).mono ?_; rintro e w3 ⟨rfl, rfl⟩
      go_wp2_with fail
      obtain ⟨lk, hlk⟩ : ∃ lk, c.lines[k]'hk = lk := ⟨_, rfl⟩
      have HLr := Lib.hid (own_ext HL.out HBL.out)
      have HAr := Lib.hid (own_ext HA.out HBL.out)
      have hok := ok_line (HLI.out k hk).1
      have hlab := HKL.out
      have hhas := get_has hk
      rw [hlk] at hok hlab hhas
      have HLB := Lib.hid (hok.1 hlab).1
      have HHL := Lib.hid hhas
      obtain ⟨g2, hg2, hg2l, k0, _⟩ := row_line HLr.out hk hlk
      injection hg2 with hg2
      injection hg2 with hg2 _ _
      subst hg2
      clear hok hlab hhas
      have HLK := Lib.hid hlk
      have f1 := (two_frozen HBX.out).2
      have HK0 := Lib.hid k0
      obtain ⟨lab, x⟩ := lk
      simp only at k0 HLB HHL HK0
      have hne : g ≠ w2.heap.size := by omega
      have hkl : (k : Int) < (c.lines.length : Int) := by omega
      obtain ⟨i0, hi0, hz0, hz1, hz2⟩ := info_parts infoL
      have TF := Lib.hid (twice_fault HOK.out (by omega) HLB.out HHL.out)
      have TP := Lib.hid (parse_twice HOK.out (by omega) HN64.out HLB.out HHL.out)
      have ll := lab_le HLB.out
      have HFT2 := Lib.hid (app_fit HFT.out ll)
      have tl : (mk lab).toList = lab := mk_tl _
      have GR := Lib.hid (ext_trans GA.out HBL.out)
      clear r0 hlk
      go_cut [52] from 53 to 63 (fun _ wx => ∃ p2 cap2, wx.heap[w2.heap.size]? = some (.cells #[.slice pa 2 ca, .slice p2 (c.lines.length + 1) cap2] 25 (0, 0)) ∧ wx.ownsRow w1.heap.size 29 7 (.slice p2 (c.lines.length + 1) cap2) (c.lines.length + 1) ((c.lines ++ [(⟨lab, zeroI⟩ : Ln)]).flatMap cellsL) ∧ wx.ownsRow w1.heap.size 53 2 (.slice pa 2 ca) 2 (arrsAB.flatMap cellsA) ∧ Below w.heap.size w wx ∧ Value.ownBlock (.slice p2 (c.lines.length + 1) cap2) ≠ some w2.heap.size)
      case first =>
        go_region_law ((refine step_append_lies _ (by rfl) _ _ _ (by rfl) w1.heap.size 29 i0 _ 7 72 Tryz.underlying23 hi0 hz0 hz1 hz2 rfl (by omega) _ c.lines.length (c.lines.flatMap cellsL) (by rfl) (own_ext HLr.out (ext_alloc (ext_drew (Below.refl _ _)) _)) _ 1 1 (cellsL ⟨lab, zeroI⟩) (by rfl) (by rfl) (World.news_of_block (heap_alloc_new _ _)) (oneL _) (by omega) (by unfold maxLen; omega) (by omega) (by simp; omega) _ rfl ?_; intro gg cap6 w6 hown6 hg6 hat6 hlt6; have hgx := grown_after hg6 (ext_alloc (ext_drew (Below.refl wr.heap.size wr)) _); have hf6 := (hgx.block w2.heap.size lr (fun e => hne (by simpa [Value.ownBlock] using e.symm))).trans HBX.out; have f1 : w6.frozen? ⟨w2.heap.size, 1, none⟩ = false := (two_frozen hf6).2; have c1 : w6.cell? ⟨w2.heap.size, 1, none⟩ = _ := (two_cells hf6).2))
        all_goals
          have hgB : gg ≠ w2.heap.size := by
            rcases hat6 with k | k
            · simp [Value.ownBlock] at k; omega
            · simp at k; omega
          have HR := Lib.hid (twice_rel hf6 hown6 hgx HAr.out HLr.out GR.out z1 (by omega) hgB (fun e => by have := (HAB.out _ e).2; omega))
          clear hown6 hg6 hat6 hlt6 hgx hf6 c0 c1 f1 k0
          go_wp2_with fail
          go_meet
          case rel => exact HR.out
      case rest =>
        obtain ⟨p2, cap2, hB2, hO2, hA2, hb2, hnB⟩ := hcut
        clear c0 c1 f1 k0 hi0 hz0 hz1 hz2
        obtain ⟨g3, hg3, hg3b, hg3l⟩ := row_some_t hO2 (by omega)
        subst hg3
        have HNB := Lib.hid hnB
        clear hnB
        have hcap2 := row_cap_t hO2
        have HO2 := Lib.hid hO2
        have HA2 := Lib.hid hA2
        have HB2 := Lib.hid hB2
        have GB := Lib.hid hb2
        have zc : w2.heap.size < wc.heap.size := (Array.getElem?_eq_some_iff.1 hB2).1
        obtain ⟨c0, c1⟩ := two_cells hB2
        have HCK : Hid (Calls Tryz.prog 13 #[.agg #[.slice pa 2 ca, .slice (some ⟨g3, 0, none⟩) (c.lines.length + 1) cap2]] wc fun e w'' => e = .returned (.tuple #[.int .i64 61, .int .i64 (c.lines.length : Int)]) ∧ Below wc.heap.size wc w'') := Lib.hid (by
          have := acheck_any _ _ wc (app_at (x := ⟨lab, zeroI⟩) hml HAR.out hA2 hO2) HFT2.out
          rw [TF.out] at this
          have hm : max (c.lines.length : Int) 0 = c.lines.length := by omega
          simp only [hm] at this
          exact this)
        clear hB2 hO2 hA2 hb2
        go_wp2_with fail
        refine HCK.out.mono ?_; rintro e w4 ⟨rfl, g4⟩
        have HB4 := Lib.hid ((g4.block _ zc).trans HB2.out)
        have HO4 := Lib.hid (own_ext HO2.out g4)
        have HA4 := Lib.hid (own_ext HA2.out g4)
        have G4 := Lib.hid (GB.out.trans (g4.mono GB.out.size))
        have z4 := g4.size
        clear c0 c1 g4 HCK
        obtain ⟨c0, c1⟩ := two_cells HB4.out
        have f1 := (two_frozen HB4.out).2
        have hci : (c.lines.length : Int) ≤ (cap2 : Int) := by omega
        have hc0 : ¬ cap2 = 0 := by omega
        go_upto_region 16 with (fail)
        have hb5 : (w4.setCell ⟨w2.heap.size, 1, none⟩ (.slice (some ⟨g3, 0, none⟩) c.lines.length cap2)).heap[w2.heap.size]? = some (.cells #[.slice pa 2 ca, .slice (some ⟨g3, 0, none⟩) c.lines.length cap2] 25 (0, 0)) := (heap_setCell_same _ _ 1 _ _ _ HB4.out).trans rfl
        have HO5 := Lib.hid (own_set_ne (o := 1) (x := .slice (some ⟨g3, 0, none⟩) c.lines.length cap2) HO4.out HNB.out)
        have HA5 := Lib.hid (own_set_ne (b := w2.heap.size) (o := 1) (x := .slice (some ⟨g3, 0, none⟩) c.lines.length cap2) HA4.out (fun e => by have := (HAB.out _ e).2; omega))
        have G5 := Lib.hid (ext_set (p := ⟨w2.heap.size, 1, none⟩) G4.out (by show w.heap.size ≤ w2.heap.size; omega) (.slice (some ⟨g3, 0, none⟩) c.lines.length cap2))
        obtain ⟨w5, hw5⟩ : ∃ w5, w4.setCell ⟨w2.heap.size, 1, none⟩ (.slice (some ⟨g3, 0, none⟩) c.lines.length cap2) = w5 := ⟨_, rfl⟩
        rw [hw5] at hb5 HO5 HA5 G5 ⊢
        clear hw5 c0 c1 f1
        obtain ⟨c0, c1⟩ := two_cells hb5
        have HB5 := Lib.hid hb5
        have z5 : w2.heap.size < w5.heap.size := (Array.getElem?_eq_some_iff.1 hb5).1
        have HCD5 : Hid (CdAt w5 (.agg #[.slice pa 2 ca, .slice (some ⟨g3, 0, none⟩) c.lines.length cap2]) c) := Lib.hid ⟨_, _, rfl, by rw [HAR.out]; exact row_ars (L := arrsAB) HA5.out (by decide), pre_lns HO5.out (by omega), by rw [HAR.out]; decide, by omega⟩
        have HPR := Lib.hid (aprint_yes _ c w5 (HV.out.ext G5.out) HCD5.out HFT.out (by rw [HOK.out]) (by have := HTX.out; omega) HN64.out)
        have hke : (c.lines ++ [(⟨lab, zeroI⟩ : Ln)])[k]'(by simp; omega) = ⟨lab, x⟩ := by rw [List.getElem_append_left hk]; exact HLK.out
        obtain ⟨g4, hg4, hg4l, k0, _⟩ := row_line HO5.out _ hke
        injection hg4 with hg4
        injection hg4 with hg4 _ _
        subst hg4
        have HK5 := Lib.hid k0
        clear hb5 hke k0
        go_wp2_with fail
        refine HPR.out.mono ?_; rintro e w6 ⟨rfl, g6⟩
        have HB6 := Lib.hid ((g6.block _ z5).trans HB5.out)
        have k0 := (g6.cell (cell_lt HK5.out)).trans HK5.out
        have G6 := Lib.hid (G5.out.trans (g6.mono G5.out.size))
        have z6 : w2.heap.size < w6.heap.size := by have := g6.size; omega
        clear c0 c1 g6 HPR
        obtain ⟨c0, c1⟩ := two_cells HB6.out
        have TP2 : parseL (cdTxt c ++ (lab ++ [58, 10])) = (⟨[], []⟩, 61, (c.lines.length : Int) + 2 + 1) := by
          rw [TP.out, HAR.out]
          have : ((arrsAB.length : Nat) : Int) + c.lines.length + 1 = (c.lines.length : Int) + 2 + 1 := by show (2 : Int) + c.lines.length + 1 = _; omega
          rw [this]
        have HPS := Lib.hid (aparse_any (cdTxt c ++ (lab ++ [58, 10])) (by have := HTX.out; simp; omega) w6 (HV.out.ext G6.out))
        unfold AParse at HPS
        rw [TP2] at HPS
        have htl := HTX.out
        have s1 : mk (cdTxt c) ++ mk lab = mk (cdTxt c ++ lab) := mk_app _ _
        have s2 : mk (cdTxt c ++ lab) ++ ⟨#[58, 10]⟩ = mk (cdTxt c ++ (lab ++ [58, 10])) := by rw [← List.append_assoc]; exact mk_app _ _
        have b1 : (mk (cdTxt c)).size = (cdTxt c).length := rfl
        have b2 : (mk lab).size = lab.length := rfl
        have b3 : (mk (cdTxt c ++ lab)).size = (cdTxt c).length + lab.length := by show (cdTxt c ++ lab).length = _; simp
        have b4 : ¬ 9223372036854775807 < (cdTxt c).length + lab.length := by omega
        have b5 : ¬ 9223372036854775807 < (cdTxt c).length + lab.length + 2 := by omega
        clear TP2
        generalize cdTxt c = tx at *
        go_wp2_with fail
        refine HPS.out.mono ?_; rintro e w7 ⟨⟨v, rfl, hc7⟩, g7⟩
        obtain ⟨pa5, ca5, pl5, cl5, hv5⟩ := cd_shape hc7
        have hv5 : v = .agg #[.slice pa5 0 ca5, .slice pl5 0 cl5] := hv5
        subst hv5
        have G7 := Lib.hid (G6.out.trans (g7.mono G6.out.size))
        have HB7 := Lib.hid ((g7.block _ z6).trans HB6.out)
        have z7 : w2.heap.size < w7.heap.size := by have := g7.size; omega
        clear c0 c1 k0 g7 HPS hc7
        obtain ⟨c0, c1⟩ := two_cells HB7.out
        go_wp2_with fail
        go_ret
        exact ⟨rfl, ext_alloc G7.out _⟩
end Go.Proofs.YtiimhbibdfaefaaGreatDoor
