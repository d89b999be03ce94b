/- The chapter's example, walked. -/
import Derived.Test.YtlaihjefmhcmcaaGreatDoorRows
import Derived.WalkKit
import Derived.ProofKit
import Derived.OpenShut
import Derived.WalkLawsBesides
import Derived.WalkSpells
import Derived.Outline
import Derived.Handy
import Derived.Lib.Hide
import Derived.Lib.OthersKept
import Derived.KernelRfl
import Derived.Carry
import Derived.Test.YtlaihjefmhcmcaaGreatDoorAsK
namespace Go.Proofs.YtlaihjefmhcmcaaGreatDoor
open Go.ChangeShapes Go.WideShapes Go.ChangeAt Go.RowKit
set_option linter.unusedVariables false
theorem cd_shape {w : World} {v : Value} {c : Cd} (h : CdAt w v c) : ∃ pa ca pl cl, v = .agg #[.slice pa c.arrays.length ca, .slice pl c.lines.length cl] := by
  obtain ⟨va, vl, rfl, ⟨_, pa, ca, rfl, _⟩, ⟨_, pl, cl, rfl, _⟩, _⟩ := h
  exact ⟨_, _, _, _, rfl⟩
theorem FlatRes.shape {B : Nat} {c : Cd} {e : Ending} {w : World} (h : FlatRes B c e w) : ∃ p1 c1 p2 c2, e = .returned (.tuple #[.slice p1 (flatI c.lines).length c1, .slice p2 (flatI c.lines).length c2]) ∧ w.ownsRow B 46 6 (.slice p1 (flatI c.lines).length c1) (flatI c.lines).length ((flatI c.lines).flatMap cellsI) ∧ w.ownsRow B 3 1 (.slice p2 (flatI c.lines).length c2) (flatI c.lines).length (((flatI c.lines).map (toL c)).flatMap cellsN) := by
  obtain ⟨v1, v2, n1, n2, rfl, h1, h2⟩ := h
  obtain ⟨e1, p1, c1, rfl, _⟩ := row_get lenI (by decide) h1
  obtain ⟨e2, p2, c2, rfl, _⟩ := row_get lenN (by decide) h2
  rw [List.length_map] at e2 h2
  subst e1 e2
  exact ⟨p1, c1, p2, c2, by rw [List.length_map], h1, h2⟩
theorem cell_alloc0 {w : World} {p : Addr} {v : Value} (h : w.cell? p = some v) (o : Obj) : (w.alloc o).cell? p = some v := ((ext_alloc (Below.refl w.heap.size w) o).cell (cell_lt h)).trans h
set_option maxHeartbeats 4000000 in
set_option maxRecDepth 100000 in
theorem awake8_any (w : World) (hv : Env w) : Calls Tryz.prog 4 #[] w fun e w' => e = .returned (.bool true) ∧ Below w.heap.size w w' := by
  have HV := Lib.hid hv
  have s1 := Lib.hid (fun w hv => aparse_any exT1 (by decide) w hv)
  have s2 := Lib.hid (fun w hv => aparse_any exT2 (by decide) w hv)
  have e1 : mk exT1 = ⟨#[109, 97, 105, 110, 58, 32, 35, 32, 104, 101, 114, 101, 10, 10, 32, 32, 106, 32, 109, 97, 105, 110, 10]⟩ := rfl
  have e2 : mk exT2 = ⟨#[109, 97, 105, 110, 58, 10, 9, 106, 32, 102, 10]⟩ := rfl
  rw [e1] at s1
  rw [e2] at s2
  unfold AParse at s1 s2
  rw [ex_p1] at s1
  rw [ex_p2] at s2
  have tp : (mk exP1).toList = [109, 97, 105, 110, 58, 10, 9, 106, 32, 109, 97, 105, 110, 10] := mk_tl exP1
  have hf0 : (faultL exC).1 = 0 := by rw [ex_f1]
  have HF0 := Lib.hid hf0
  clear hv e1 e2 hf0
  go_enter Tryz.func4, Tryz.ntmps4
  go_wp2_with fail
  refine (s1.out _ HV.out).mono ?_; rintro e w1 ⟨⟨v, rfl, hc⟩, g1⟩
  have G1 := Lib.hid g1
  have HC1 := Lib.hid hc
  obtain ⟨pa, ca, pl, cl, rfl⟩ := cd_shape hc
  have hl0 : exC.arrays.length = 0 := rfl
  have hl1 : exC.lines.length = 2 := rfl
  rw [hl0, hl1] at HC1
  rw [hl0, hl1]
  clear g1 hc hl0 hl1
  have HC2 := Lib.hid (HC1.out.ext (ext_alloc (Below.refl w1.heap.size w1) (.cells #[.slice pa 0 ca, .slice pl 2 cl] 27)))
  have HFL := Lib.hid (fun w' (g : Below (w1.alloc (.cells #[.slice pa 0 ca, .slice pl 2 cl] 27)).heap.size (w1.alloc (.cells #[.slice pa 0 ca, .slice pl 2 cl] 27)) w') => flat_yes _ exC w' (HC2.out.ext g) ex_fit HF0.out)
  go_wp2_with fail
  refine (HFL.out _ (Below.refl _ _)).mono ?_; rintro e w2 ⟨hfl, g2⟩
  obtain ⟨p1, c1, p2, c2, rfl, hxa, hto⟩ := hfl.shape
  have hlen : (flatI exC.lines).length = 1 := by rw [ex_flat]; rfl
  rw [hlen] at hto ⊢
  rw [ex_to] at hto
  obtain ⟨hxb, p3, c3, hq, hcell⟩ := row_get lenN (by decide) hto
  obtain ⟨gt, hgt, hxc, hcg⟩ := hcell 0 (by decide)
  clear hxa hxb hxc
  injection hq with hq1 hqx hqy
  subst hq1 hgt
  have ht2 : w2.cell? ⟨gt, 0, none⟩ = some (.int .i64 0) := hcg 0 (by decide)
  have B2 := Lib.hid ((g2.block w1.heap.size (by simp)).trans (heap_new w1 _))
  have G2 := Lib.hid (ext_trans (ext_alloc G1.out _) g2)
  have HC3 := Lib.hid (HC2.out.ext g2)
  have HT2 := Lib.hid ht2
  have l2 : w1.heap.size < w2.heap.size := (Array.getElem?_eq_some_iff.1 B2.out).1
  obtain ⟨c0, c1'⟩ := two_cells B2.out
  clear g2 hfl hto hcell hcg hqx hqy hlen ht2 HFL
  go_wp2_with fail
  have HPR := Lib.hid (aprint_yes _ exC w2 (HV.out.ext G2.out) HC3.out ex_fit HF0.out (by rw [ex_txt8]; decide) ex_n64)
  rw [ex_txt8] at HPR
  refine HPR.out.mono ?_; rintro e w3 ⟨rfl, g3⟩
  have HT3 := Lib.hid ((g3.cell (cell_lt HT2.out)).trans HT2.out)
  have B3 := Lib.hid ((g3.block w1.heap.size l2).trans B2.out)
  have G3 := Lib.hid (ext_trans G2.out g3)
  have HC4 := Lib.hid (HC3.out.ext g3)
  have l3 : w1.heap.size < w3.heap.size := (Array.getElem?_eq_some_iff.1 B3.out).1
  clear g3 HPR c0 c1' HT2 HC3 B2
  go_wp2_with fail
  refine (s2.out _ (HV.out.ext G3.out)).mono ?_; rintro e w4 ⟨⟨v, rfl, hc⟩, g4⟩
  have HT4 := Lib.hid ((g4.cell (cell_lt HT3.out)).trans HT3.out)
  have B4 := Lib.hid ((g4.block w1.heap.size l3).trans B3.out)
  have G4 := Lib.hid (ext_trans G3.out g4)
  have HC5 := Lib.hid (HC4.out.ext g4)
  have l4 : w1.heap.size < w4.heap.size := (Array.getElem?_eq_some_iff.1 B4.out).1
  obtain ⟨pa5, ca5, pl5, cl5, hv5⟩ := cd_shape hc
  have hv5 : v = .agg #[.slice pa5 0 ca5, .slice pl5 0 cl5] := hv5
  subst hv5
  obtain ⟨c0, c1'⟩ := two_cells B4.out
  clear g4 hc HC4 HT3 B3
  go_wp2_with fail
  have HC6 := Lib.hid (HC5.out.ext (ext_alloc (Below.refl w4.heap.size w4) (.cells #[.slice pa5 0 ca5, .slice pl5 0 cl5] 27)))
  have HCK := Lib.hid (acheck_any _ exC _ HC6.out ex_fit)
  rw [ex_f1] at HCK
  refine HCK.out.mono ?_; rintro e w5 ⟨rfl, g5⟩
  have hmx : max (-1 : Int) 0 = 0 := by decide
  have HT5 := Lib.hid ((g5.cell (cell_lt ((cell_alloc0 HT4.out (.cells #[.slice pa5 0 ca5, .slice pl5 0 cl5] 27))))).trans (cell_alloc0 HT4.out _))
  have B5 := Lib.hid ((g5.block w1.heap.size (by simp; omega)).trans ((Lib.alloc_old _ _ _ l4).trans B4.out))
  have G5 := Lib.hid (ext_trans (ext_alloc G4.out _) g5)
  have HC7 := Lib.hid (HC6.out.ext g5)
  have l5 : w1.heap.size < w5.heap.size := (Array.getElem?_eq_some_iff.1 B5.out).1
  have ht5 := HT5.out
  clear c0 c1'
  obtain ⟨c0, c1'⟩ := two_cells B5.out
  have HSM := Lib.hid (same_any _ _ exC exC w5 HC7.out HC7.out)
  rw [decide_eq_true (rfl : exC = exC)] at HSM
  clear g5 HC6 HCK HT4 B4
  go_wp2_with fail
  refine HSM.out.mono ?_; rintro e w6 ⟨rfl, g6⟩
  have B6 := Lib.hid ((g6.block w1.heap.size l5).trans B5.out)
  have G6 := Lib.hid (ext_trans G5.out g6)
  have HC8 := Lib.hid (HC7.out.ext g6)
  have HSM2 := Lib.hid (same_any _ _ exC ⟨[], []⟩ w6 HC8.out (nil_code w6))
  rw [decide_eq_false (show ¬ exC = ⟨[], []⟩ from fun e => by cases e)] at HSM2
  clear c0 c1' g6 HSM ht5
  obtain ⟨c0, c1'⟩ := two_cells B6.out
  go_wp2_with fail
  refine HSM2.out.mono ?_; rintro e w7 ⟨rfl, g7⟩
  have G7 := Lib.hid (ext_trans G6.out g7)
  clear g7 HSM2 c0 c1'
  go_wp2_with fail
  go_ret
  exact ⟨rfl, G7.out⟩
end Go.Proofs.YtlaihjefmhcmcaaGreatDoor
