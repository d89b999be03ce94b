/- The walk of AsmSame. -/
import Derived.Test.YtiimhbibdfaefaaGreatDoorRows
import Derived.WalkKit
import Derived.ProofKit
import Derived.OpenShut
import Derived.WalkLawsBesides
import Derived.WalkSpells
import Derived.Outline
import Derived.Handy
import Derived.Lib.Hide
import Derived.Lib.OthersKept
import Derived.KernelRfl
import Derived.Carry
import Derived.OwnWalk
import Derived.RegionTactic
import Derived.BigRegion
import Derived.BigQuiet
import Derived.Deep.QuietTactic
import Derived.Deep.RegionHeld3
import Derived.Deep.AppendLies
import Derived.Deep.RegionHeldLaw
import Derived.Test.YtiimhbibdfaefaaGreatDoorAs9
import Derived.Test.YtiimhbibdfaefaaGreatDoorAsP
import Derived.Test.YtiimhbibdfaefaaGreatDoorAsF
import Derived.Test.YtiimhbibdfaefaaGreatDoorAsAw
import Derived.Test.YtiimhbibdfaefaaGreatDoorAsTw
namespace Go.Proofs.YtiimhbibdfaefaaGreatDoor
open Go.ChangeShapes Go.WideShapes Go.ChangeAt Go.RowKit
set_option linter.unusedVariables false
theorem cdTxt_inj {a b : Cd} (ha : faultL a = (0, -1)) (hb : faultL b = (0, -1)) (na : ∀ l ∈ a.lines, I64 l.ins.n) (nb : ∀ l ∈ b.lines, I64 l.ins.n) : (cdTxt a == cdTxt b) = decide (a = b) := by
  by_cases h : a = b
  · subst h; simp
  · rw [decide_eq_false h, beq_eq_false_iff_ne]
    intro e
    have := (parse_cd ha na).symm.trans ((congrArg parseL e).trans (parse_cd hb nb))
    injection this with k _
    exact h k
def retL : Ln := ⟨[], ⟨27, 0, 0, 0, 0, []⟩⟩
def arrsAC : List Ar := [⟨[97], 4⟩, ⟨[98], 11⟩]
theorem same_app (a : Cd) : decide (a = ⟨a.lines ++ [retL], a.arrays⟩) = false ∧ decide ((⟨a.lines ++ [retL], a.arrays⟩ : Cd) = a) = false := by
  have h : ∀ L : List Ln, L ≠ L ++ [retL] := fun L e => by
    have := congrArg List.length e
    simp at this
  exact ⟨decide_eq_false (fun e => h a.lines (congrArg Cd.lines e)), decide_eq_false (fun e => h a.lines (congrArg Cd.lines e.symm))⟩
theorem same_arr {a : Cd} (h : a.arrays = arrsAB) : decide (a = ⟨a.lines, arrsAC⟩) = false := by
  refine decide_eq_false (fun e => ?_)
  have k : arrsAB = arrsAC := h.symm.trans (congrArg Cd.arrays e)
  exact absurd k (by decide)
theorem own_far {w : World} {base : Nat} {e t : TypeId} {k : Nat} {v : Value} {n B : Nat} {xs : List Value} {cs : Array Value} {fr : Nat × Nat} (h : w.ownsRow base e k v n xs) (hB : w.heap[B]? = some (.cells cs t fr)) (he : t ≠ e) : v.ownBlock ≠ some B := by
  intro hk
  rcases h.2 with ⟨rfl, _⟩ | ⟨g0, cap, cur, rfl, h2, h3, h4⟩
  · cases hk
  · have : g0 = B := by simpa [Value.ownBlock] using hk
    subst this
    rw [h3] at hB
    injection hB with hB
    injection hB with _ h5 _
    exact he h5.symm
/-- Code in the law's block. -/
def CodeAt (w : World) (B : Nat) (va vl : Value) (c : Cd) : Prop := w.heap[B]? = some (.cells #[va, vl] 25 (0, 0)) ∧ CdAt w (.agg #[va, vl]) c
theorem CodeAt.ext {w w' : World} {B : Nat} {va vl : Value} {c : Cd} (h : CodeAt w B va vl c) (g : Below w.heap.size w w') : CodeAt w' B va vl c :=
  ⟨(g.block _ (Array.getElem?_eq_some_iff.1 h.1).1).trans h.1, h.2.ext g⟩
theorem CodeAt.lt {w : World} {B : Nat} {va vl : Value} {c : Cd} (h : CodeAt w B va vl c) : B < w.heap.size := (Array.getElem?_eq_some_iff.1 h.1).1
set_option maxHeartbeats 4000000 in
set_option maxRecDepth 100000 in
theorem same_walk (rv : Value) (raw : List Ln) (rv2 : Value) (raw2 : List Ln) (w : World) (h : LnsAt w rv raw) (hr : AllRaw raw) (h2 : LnsAt w rv2 raw2) (hr2 : AllRaw raw2) (hv : Env w) : Calls Tryz.prog 9 #[rv, rv2] w fun e w' => e = .returned (.bool true) ∧ Below w.heap.size w w' := by
  have HV := Lib.hid hv
  have HAW := Lib.hid (awake8_any w hv)
  have HF1 := Lib.hid (fun w' (g : Below w.heap.size w w') => lawfit_any rv raw w' (h.ext g) hr)
  have HF2 := Lib.hid (fun w' (g : Below w.heap.size w w') => lawfit_any rv2 raw2 w' (h2.ext g) hr2)
  have hml := fitC_len raw hr
  have hml2 := fitC_len raw2 hr2
  have HFT := Lib.hid (fitC_fit raw hr)
  have HFT2 := Lib.hid (fitC_fit raw2 hr2)
  have HOK := Lib.hid (fitC_ok raw hr)
  have HOK2 := Lib.hid (fitC_ok raw2 hr2)
  have n64 : ∀ r, AllRaw r → ∀ l ∈ (fitC r).lines, I64 l.ins.n := fun r hr l hl => by
    obtain ⟨i, hi, rfl⟩ := List.getElem_of_mem hl
    exact (fitC_lines r hr i hi).2
  have HN := Lib.hid (n64 raw hr)
  have HN2 := Lib.hid (n64 raw2 hr2)
  have HTX := Lib.hid (fitC_txt raw hr)
  have HTX2 := Lib.hid (fitC_txt raw2 hr2)
  have HAR : Hid ((fitC raw).arrays = arrsAB) := Lib.hid (fitC_arrs raw)
  have HAR2 : Hid ((fitC raw2).arrays = arrsAB) := Lib.hid (fitC_arrs raw2)
  obtain ⟨hn, p, cap, rfl, _⟩ := h
  obtain ⟨hn2, p', cap', rfl, _⟩ := h2
  clear hr hr2 hv n64
  generalize fitC raw = a at *
  generalize fitC raw2 = b at *
  go_enter Tryz.func9, Tryz.ntmps9
  go_wp2_with fail
  refine HAW.out.mono ?_; rintro e w1 ⟨rfl, g1⟩
  have G1 := Lib.hid g1
  clear g1
  go_wp2_with fail
  refine (HF1.out _ G1.out).mono ?_; rintro e w2 ⟨hres, g2⟩
  obtain ⟨pa, ca, pl, cl, rfl, ha, hl⟩ := hres.shape
  obtain ⟨wA, hwA⟩ : ∃ wA, w2.alloc (.cells #[.slice pa 2 ca, .slice pl a.lines.length cl] 25) = wA := ⟨_, rfl⟩
  have X2 : Below w2.heap.size w2 wA := by rw [← hwA]; exact ext_alloc (Below.refl _ _) _
  have CA := Lib.hid (show CodeAt wA w2.heap.size (.slice pa 2 ca) (.slice pl a.lines.length cl) a from ⟨by rw [← hwA]; exact heap_new w2 _, ⟨_, _, rfl, by rw [HAR.out]; exact row_ars (L := arrsAB) (own_ext ha X2) (by decide), row_lns (own_ext hl X2) (by omega), by rw [HAR.out]; decide, by omega⟩⟩)
  have GA := Lib.hid (ext_trans (ext_trans G1.out g2) X2)
  clear hres ha hl g2 X2
  go_wp2_with fail
  try rw [hwA]
  clear hwA
  refine (HF2.out _ GA.out).mono ?_; rintro e w3 ⟨hres, g3⟩
  obtain ⟨pa2, ca2, pl2, cl2, rfl, ha, hl⟩ := hres.shape
  obtain ⟨wB, hwB⟩ : ∃ wB, w3.alloc (.cells #[.slice pa2 2 ca2, .slice pl2 b.lines.length cl2] 25) = wB := ⟨_, rfl⟩
  have X3 : Below w3.heap.size w3 wB := by rw [← hwB]; exact ext_alloc (Below.refl _ _) _
  have CB := Lib.hid (show CodeAt wB w3.heap.size (.slice pa2 2 ca2) (.slice pl2 b.lines.length cl2) b from ⟨by rw [← hwB]; exact heap_new w3 _, ⟨_, _, rfl, by rw [HAR2.out]; exact row_ars (L := arrsAB) (own_ext ha X3) (by decide), row_lns (own_ext hl X3) (by omega), by rw [HAR2.out]; decide, by omega⟩⟩)
  have CA1 := Lib.hid (CA.out.ext (ext_trans g3 X3))
  have GB := Lib.hid (ext_trans (ext_trans GA.out g3) X3)
  clear hres ha hl g3 X3 CA
  go_wp2_with fail
  try rw [hwB]
  clear hwB
  refine (HF1.out _ GB.out).mono ?_; rintro e w4 ⟨hres, g4⟩
  obtain ⟨pa3, ca3, pl3, cl3, rfl, ha, hl⟩ := hres.shape
  have z4 := g4.size
  obtain ⟨wC, hwC⟩ : ∃ wC, w4.alloc (.cells #[.slice pa3 2 ca3, .slice pl3 a.lines.length cl3] 25) = wC := ⟨_, rfl⟩
  have X4 : Below w4.heap.size w4 wC := by rw [← hwC]; exact ext_alloc (Below.refl _ _) _
  have HB4 : Hid (wC.heap[w4.heap.size]? = some (.cells #[.slice pa3 2 ca3, .slice pl3 a.lines.length cl3] 25 (0, 0))) := Lib.hid (by rw [← hwC]; exact heap_new w4 _)
  have HL4 := Lib.hid (own_ext hl X4)
  have HA4 := Lib.hid (own_ext ha X4)
  have hlt4 := hl.lt
  have HLT4 := Lib.hid hlt4
  have HLT4a := Lib.hid ha.lt
  have GC := Lib.hid (ext_trans (ext_trans GB.out g4) X4)
  have XC := Lib.hid (ext_trans g4 X4)
  have zC : w4.heap.size < wC.heap.size := by rw [← hwC]; simp
  obtain ⟨c0, c1⟩ := two_cells HB4.out
  have f1 := (two_frozen HB4.out).2
  clear hres ha hl g4 X4 hlt4
  go_wp2_with (at_builtin; (try rw [hwC]); refine app_cells Tryz.underlying23 infoL rfl (by decide) (by decide) rfl _ _ rfl wB.heap.size _ a.lines.length (a.lines.flatMap cellsL) rfl (own_ext HL4.out (ext_alloc (Below.refl _ _) _)) wC.heap.size 1 (cellsL retL) rfl rfl (heap_new _ _) (oneL _) (by omega) (by simp; omega) ?_)
  intro v5 w5 hown5 hg5
  have hgx := grown_after hg5 (ext_alloc (Below.refl wC.heap.size wC) _)
  have hB5 := (hgx.block w4.heap.size zC (fun e => by have := (HLT4.out _ e.symm).2; omega)).trans HB4.out
  have ha5 := HA4.out.kept hgx (own_apart HL4.out HA4.out (by decide))
  have gx5 := below_grown XC.out hgx XC.out.size (fun k hk => (HLT4.out k hk).1)
  obtain ⟨p5, c5, hv5⟩ := own_slice hown5
  subst hv5
  have hn5 := own_far hown5 hB5 (by decide)
  have hb6 : (w5.setCell ⟨w4.heap.size, 1, none⟩ (.slice p5 (a.lines.length + 1) c5)).heap[w4.heap.size]? = some (.cells #[.slice pa3 2 ca3, .slice p5 (a.lines.length + 1) c5] 25 (0, 0)) := (heap_setCell_same _ _ 1 _ _ _ hB5).trans rfl
  have hl6 := own_set_ne (o := 1) (x := .slice p5 (a.lines.length + 1) c5) hown5 hn5
  have ha6 := own_set_ne (b := w4.heap.size) (o := 1) (x := .slice p5 (a.lines.length + 1) c5) ha5 (own_far ha5 hB5 (by decide))
  have gx6 := ext_set (p := ⟨w4.heap.size, 1, none⟩) gx5 (by show wB.heap.size ≤ w4.heap.size; exact z4) (.slice p5 (a.lines.length + 1) c5)
  have f1 := (two_frozen hB5).2
  clear c0 c1
  obtain ⟨c0, c1⟩ := two_cells hB5
  obtain ⟨w6, hw6⟩ : ∃ w6, w5.setCell ⟨w4.heap.size, 1, none⟩ (.slice p5 (a.lines.length + 1) c5) = w6 := ⟨_, rfl⟩
  have HW6 := Lib.hid hw6
  rw [hw6] at hb6 hl6 ha6 gx6
  clear hw6
  have CC6 := Lib.hid (show CodeAt w6 w4.heap.size (.slice pa3 2 ca3) (.slice p5 (a.lines.length + 1) c5) ⟨a.lines ++ [retL], a.arrays⟩ from ⟨hb6, app_at hml HAR.out ha6 (by simpa using hl6)⟩)
  have CA6 := Lib.hid (CA1.out.ext gx6)
  have CA6 := Lib.hid ((CA1.out.ext (Below.refl _ _)).ext gx6)
  have CB6 := Lib.hid (CB.out.ext gx6)
  have G6 := Lib.hid (ext_trans GB.out gx6)
  clear hown5 hg5 hgx hB5 ha5 gx5 hn5 hb6 hl6 ha6 gx6 hwC
  go_wp2_with fail
  try rw [HW6.out]
  clear c0 c1 f1
  refine (HF1.out _ G6.out).mono ?_; rintro e w7 ⟨hres, g7⟩
  obtain ⟨pa7, ca7, pl7, cl7, rfl, ha, hl⟩ := hres.shape
  go_upto_region 8 with (fail)
  obtain ⟨w9, hw9⟩ : ∃ w9, (w7.alloc (.cells #[.slice (some ⟨w7.heap.size + 1, 0, none⟩) 2 2, .slice pl7 a.lines.length cl7] 25)).alloc (.cells #[.string ⟨#[97]⟩, .int .i64 4, .string ⟨#[98]⟩, .int .i64 11] 53) = w9 := ⟨_, rfl⟩
  rw [hw9]
  have hb9 : w9.heap[w7.heap.size]? = some (.cells #[.slice (some ⟨w7.heap.size + 1, 0, none⟩) 2 2, .slice pl7 a.lines.length cl7] 25 (0, 0)) := by rw [← hw9]; exact (Lib.alloc_old _ _ _ (by simp)).trans (heap_new w7 _)
  have har9 : w9.heap[w7.heap.size + 1]? = some (.cells #[.string ⟨#[97]⟩, .int .i64 4, .string ⟨#[98]⟩, .int .i64 11] 53 (0, 0)) := by rw [← hw9]; exact heap_new' _ _ _ (by simp)
  have X9 : Below w7.heap.size w7 w9 := by rw [← hw9]; exact ext_alloc (ext_alloc (Below.refl _ _) _) _
  clear hw9
  have hz9 : w7.heap.size + 1 < w9.heap.size := (Array.getElem?_eq_some_iff.1 har9).1
  have CD9 := Lib.hid (show CodeAt w9 w7.heap.size (.slice (some ⟨w7.heap.size + 1, 0, none⟩) 2 2) (.slice pl7 a.lines.length cl7) ⟨a.lines, arrsAC⟩ from ⟨hb9, ⟨_, _, rfl, row_ars (base := 0) (e := 53) (n := 2) (L := arrsAC) ⟨rfl, .inr ⟨w7.heap.size + 1, 2, _, rfl, Nat.zero_le _, har9, Nat.le_refl _, by unfold maxLen; omega, rfl, rfl⟩⟩ (by decide), (show LnsAt w9 (.slice pl7 a.lines.length cl7) a.lines from row_lns (own_ext hl X9) (by omega)), by show arrsAC.length ≤ 140737488355328; decide, by show a.lines.length ≤ _; omega⟩⟩)
  have CA9 := Lib.hid (CA6.out.ext (ext_trans g7 X9))
  have CB9 := Lib.hid (CB6.out.ext (ext_trans g7 X9))
  have CC9 := Lib.hid (CC6.out.ext (ext_trans g7 X9))
  have G9 := Lib.hid (ext_trans (ext_trans G6.out g7) X9)
  clear hres ha hl g7 hb9 har9 X9 CA6 CB6 CC6
  have HP1 := Lib.hid (aprint_yes _ a w9 (HV.out.ext G9.out) CA9.out.2 HFT.out (by rw [HOK.out]) (by have := HTX.out; omega) HN.out)
  obtain ⟨c0, c1⟩ := two_cells CA9.out.1
  have zA := CA9.out.lt
  go_wp2_with fail
  refine HP1.out.mono ?_; rintro e w10 ⟨rfl, g10⟩
  have CA10 := Lib.hid (CA9.out.ext g10)
  have CB10 := Lib.hid (CB9.out.ext g10)
  have CC10 := Lib.hid (CC9.out.ext g10)
  have CD10 := Lib.hid (CD9.out.ext g10)
  have G10 := Lib.hid (ext_trans G9.out g10)
  clear g10 HP1 c0 c1 zA CA9 CB9 CC9 CD9
  have HP2 := Lib.hid (aprint_yes _ b w10 (HV.out.ext G10.out) CB10.out.2 HFT2.out (by rw [HOK2.out]) (by have := HTX2.out; omega) HN2.out)
  obtain ⟨c0, c1⟩ := two_cells CB10.out.1
  have zB := CB10.out.lt
  go_wp2_with fail
  refine HP2.out.mono ?_; rintro e w11 ⟨rfl, g11⟩
  have CA11 := Lib.hid (CA10.out.ext g11)
  have CB11 := Lib.hid (CB10.out.ext g11)
  have CC11 := Lib.hid (CC10.out.ext g11)
  have CD11 := Lib.hid (CD10.out.ext g11)
  have G11 := Lib.hid (ext_trans G10.out g11)
  clear g11 HP2 c0 c1 zB CA10 CB10 CC10 CD10
  have S1 : Hid (∀ w', Below w11.heap.size w11 w' → Calls Tryz.prog 19 #[.agg #[.slice pa 2 ca, .slice pl a.lines.length cl], .agg #[.slice pa2 2 ca2, .slice pl2 b.lines.length cl2]] w' fun e w'' => e = .returned (.bool (decide (a = b))) ∧ Below w'.heap.size w' w'') := Lib.hid (fun w' g => same_any _ _ _ _ w' (CA11.out.2.ext g) (CB11.out.2.ext g))
  have S2 : Hid (∀ w', Below w11.heap.size w11 w' → Calls Tryz.prog 19 #[.agg #[.slice pa2 2 ca2, .slice pl2 b.lines.length cl2], .agg #[.slice pa 2 ca, .slice pl a.lines.length cl]] w' fun e w'' => e = .returned (.bool (decide (a = b))) ∧ Below w'.heap.size w' w'') := Lib.hid (fun w' g => by
    have := same_any _ _ _ _ w' (CB11.out.2.ext g) (CA11.out.2.ext g)
    rw [show decide (b = a) = decide (a = b) from by simp [eq_comm]] at this
    exact this)
  have S3 : Hid (∀ w' v, Below w11.heap.size w11 w' → CdAt w' v a → Calls Tryz.prog 19 #[.agg #[.slice pa 2 ca, .slice pl a.lines.length cl], v] w' fun e w'' => e = .returned (.bool true) ∧ Below w'.heap.size w' w'') := Lib.hid (fun w' v g hv => by
    have := same_any _ _ _ _ w' (CA11.out.2.ext g) hv
    rw [decide_eq_true rfl] at this
    exact this)
  have S4 : Hid (∀ w', Below w11.heap.size w11 w' → Calls Tryz.prog 19 #[.agg #[.slice pa 2 ca, .slice pl a.lines.length cl], .agg #[.slice pa3 2 ca3, .slice p5 (a.lines.length + 1) c5]] w' fun e w'' => e = .returned (.bool false) ∧ Below w'.heap.size w' w'') := Lib.hid (fun w' g => by
    have := same_any _ _ _ _ w' (CA11.out.2.ext g) (CC11.out.2.ext g)
    rw [(same_app a).1] at this
    exact this)
  have S5 : Hid (∀ w', Below w11.heap.size w11 w' → Calls Tryz.prog 19 #[.agg #[.slice pa3 2 ca3, .slice p5 (a.lines.length + 1) c5], .agg #[.slice pa 2 ca, .slice pl a.lines.length cl]] w' fun e w'' => e = .returned (.bool false) ∧ Below w'.heap.size w' w'') := Lib.hid (fun w' g => by
    have := same_any _ _ _ _ w' (CC11.out.2.ext g) (CA11.out.2.ext g)
    rw [(same_app a).2] at this
    exact this)
  have S6 : Hid (∀ w', Below w11.heap.size w11 w' → Calls Tryz.prog 19 #[.agg #[.slice pa 2 ca, .slice pl a.lines.length cl], .agg #[.slice (some ⟨w7.heap.size + 1, 0, none⟩) 2 2, .slice pl7 a.lines.length cl7]] w' fun e w'' => e = .returned (.bool false) ∧ Below w'.heap.size w' w'') := Lib.hid (fun w' g => by
    have := same_any _ _ _ _ w' (CA11.out.2.ext g) (CD11.out.2.ext g)
    rw [same_arr HAR.out] at this
    exact this)
  have HFX : Hid (∀ w', Below w11.heap.size w11 w' → Calls Tryz.prog 11 #[.slice p raw.length cap] w' fun e w'' => (∃ v, e = .returned v ∧ CdAt w'' v a) ∧ Below w'.heap.size w' w'') := Lib.hid (fun w' g => (HF1.out w' (ext_trans G11.out g)).mono fun e w'' hh => by
    obtain ⟨hres, g2⟩ := hh
    obtain ⟨pa, ca, pl, cl, rfl, ha, hl⟩ := hres.shape
    exact ⟨⟨_, rfl, _, _, rfl, by rw [HAR.out]; exact row_ars (L := arrsAB) ha (by decide), row_lns hl (by omega), by rw [HAR.out]; decide, by omega⟩, g2⟩)
  have hst := cdTxt_inj HOK.out HOK2.out HN.out HN2.out
  obtain ⟨c0, c1⟩ := two_cells CA11.out.1
  obtain ⟨d0, d1⟩ := two_cells CB11.out.1
  obtain ⟨e0, e1⟩ := two_cells CC11.out.1
  obtain ⟨f0, f1⟩ := two_cells CD11.out.1
  have c0 : w11.drew.cell? _ = _ := c0
  have c1 : w11.drew.cell? _ = _ := c1
  have d0 : w11.drew.cell? _ = _ := d0
  have d1 : w11.drew.cell? _ = _ := d1
  have e0 : w11.drew.cell? _ = _ := e0
  have e1 : w11.drew.cell? _ = _ := e1
  have f0 : w11.drew.cell? _ = _ := f0
  have f1 : w11.drew.cell? _ = _ := f1
  have gg : Below w11.heap.size w11 w11.drew := ext_drew (Below.refl _ _)
  generalize decide (a = b) = bb at *
  generalize cdTxt a = ta at *
  generalize cdTxt b = tb at *
  have ta0 : (mk ta).toList = ta := mk_tl _
  have tb0 : (mk tb).toList = tb := mk_tl _
  go_wp2_with fail
  cases bb
  all_goals
    go_region_held3 (fun w' => w'.cell? ⟨w2.heap.size, 0, none⟩ = some (.slice pa 2 ca) ∧ w'.cell? ⟨w2.heap.size, 1, none⟩ = some (.slice pl a.lines.length cl) ∧ w'.cell? ⟨w3.heap.size, 0, none⟩ = some (.slice pa2 2 ca2) ∧ w'.cell? ⟨w3.heap.size, 1, none⟩ = some (.slice pl2 b.lines.length cl2) ∧ w'.cell? ⟨w4.heap.size, 0, none⟩ = some (.slice pa3 2 ca3) ∧ w'.cell? ⟨w4.heap.size, 1, none⟩ = some (.slice p5 (a.lines.length + 1) c5) ∧ w'.cell? ⟨w7.heap.size, 0, none⟩ = some (.slice (some ⟨w7.heap.size + 1, 0, none⟩) 2 2) ∧ w'.cell? ⟨w7.heap.size, 1, none⟩ = some (.slice pl7 a.lines.length cl7)) (exact ⟨c0, c1, d0, d1, e0, e1, f0, f1⟩) ((first
      | (go_at_call 11; with_reducible refine (HFX.out _ gg).mono ?_; rintro e wy ⟨⟨v, rfl, hcv⟩, g5⟩; have c0 := (g5.cell (cell_lt c0)).trans c0; have c1 := (g5.cell (cell_lt c1)).trans c1; have d0 := (g5.cell (cell_lt d0)).trans d0; have d1 := (g5.cell (cell_lt d1)).trans d1; have e0 := (g5.cell (cell_lt e0)).trans e0; have e1 := (g5.cell (cell_lt e1)).trans e1; have f0 := (g5.cell (cell_lt f0)).trans f0; have f1 := (g5.cell (cell_lt f1)).trans f1; have gg := ext_trans gg g5)
      | (go_at_call 19; with_reducible refine (S1.out _ gg).mono ?_; rintro e wz ⟨rfl, g5⟩; have c0 := (g5.cell (cell_lt c0)).trans c0; have c1 := (g5.cell (cell_lt c1)).trans c1; have d0 := (g5.cell (cell_lt d0)).trans d0; have d1 := (g5.cell (cell_lt d1)).trans d1; have e0 := (g5.cell (cell_lt e0)).trans e0; have e1 := (g5.cell (cell_lt e1)).trans e1; have f0 := (g5.cell (cell_lt f0)).trans f0; have f1 := (g5.cell (cell_lt f1)).trans f1; have gg := ext_trans gg g5)
      | (go_at_call 19; with_reducible refine (S2.out _ gg).mono ?_; rintro e wz ⟨rfl, g5⟩; have c0 := (g5.cell (cell_lt c0)).trans c0; have c1 := (g5.cell (cell_lt c1)).trans c1; have d0 := (g5.cell (cell_lt d0)).trans d0; have d1 := (g5.cell (cell_lt d1)).trans d1; have e0 := (g5.cell (cell_lt e0)).trans e0; have e1 := (g5.cell (cell_lt e1)).trans e1; have f0 := (g5.cell (cell_lt f0)).trans f0; have f1 := (g5.cell (cell_lt f1)).trans f1; have gg := ext_trans gg g5)
      | (go_at_call 19; with_reducible refine (S4.out _ gg).mono ?_; rintro e wz ⟨rfl, g5⟩; have c0 := (g5.cell (cell_lt c0)).trans c0; have c1 := (g5.cell (cell_lt c1)).trans c1; have d0 := (g5.cell (cell_lt d0)).trans d0; have d1 := (g5.cell (cell_lt d1)).trans d1; have e0 := (g5.cell (cell_lt e0)).trans e0; have e1 := (g5.cell (cell_lt e1)).trans e1; have f0 := (g5.cell (cell_lt f0)).trans f0; have f1 := (g5.cell (cell_lt f1)).trans f1; have gg := ext_trans gg g5)
      | (go_at_call 19; with_reducible refine (S5.out _ gg).mono ?_; rintro e wz ⟨rfl, g5⟩; have c0 := (g5.cell (cell_lt c0)).trans c0; have c1 := (g5.cell (cell_lt c1)).trans c1; have d0 := (g5.cell (cell_lt d0)).trans d0; have d1 := (g5.cell (cell_lt d1)).trans d1; have e0 := (g5.cell (cell_lt e0)).trans e0; have e1 := (g5.cell (cell_lt e1)).trans e1; have f0 := (g5.cell (cell_lt f0)).trans f0; have f1 := (g5.cell (cell_lt f1)).trans f1; have gg := ext_trans gg g5)
      | (go_at_call 19; with_reducible refine (S6.out _ gg).mono ?_; rintro e wz ⟨rfl, g5⟩; have c0 := (g5.cell (cell_lt c0)).trans c0; have c1 := (g5.cell (cell_lt c1)).trans c1; have d0 := (g5.cell (cell_lt d0)).trans d0; have d1 := (g5.cell (cell_lt d1)).trans d1; have e0 := (g5.cell (cell_lt e0)).trans e0; have e1 := (g5.cell (cell_lt e1)).trans e1; have f0 := (g5.cell (cell_lt f0)).trans f0; have f1 := (g5.cell (cell_lt f1)).trans f1; have gg := ext_trans gg g5)
      | (go_at_call 19; with_reducible refine (S3.out _ _ gg hcv).mono ?_; rintro e wz ⟨rfl, g5⟩; have c0 := (g5.cell (cell_lt c0)).trans c0; have c1 := (g5.cell (cell_lt c1)).trans c1; have d0 := (g5.cell (cell_lt d0)).trans d0; have d1 := (g5.cell (cell_lt d1)).trans d1; have e0 := (g5.cell (cell_lt e0)).trans e0; have e1 := (g5.cell (cell_lt e1)).trans e1; have f0 := (g5.cell (cell_lt f0)).trans f0; have f1 := (g5.cell (cell_lt f1)).trans f1; have gg := ext_trans gg g5)))
    all_goals
      have GE := Lib.hid (ext_trans G11.out gg)
      clear gg c0 c1 d0 d1 e0 e1 f0 f1
      go_wp2_with fail
      go_ret
      exact ⟨rfl, GE.out⟩
end Go.Proofs.YtiimhbibdfaefaaGreatDoor
