/- Layer 9's example, walked. -/
import Derived.Test.YtjimeengkfjihaaGreatDoorRows
import Derived.WalkKit
import Derived.ProofKit
import Derived.OpenShut
import Derived.WalkLawsBesides
import Derived.WalkSpells
import Derived.Outline
import Derived.Handy
import Derived.Lib.Hide
import Derived.Lib.OthersKept
import Derived.KernelRfl
import Derived.Carry
import Derived.IntWalk
import Derived.Test.YtjimeengkfjihaaGreatDoorMbA
import Derived.Test.YtjimeengkfjihaaGreatDoorMbB
namespace Go.Proofs.YtjimeengkfjihaaGreatDoor
open Go.ChangeShapes Go.WideShapes Go.ChangeAt Go.RowKit
set_option linter.unusedVariables false
theorem mEx_r99 : runL mExC [] 99 = ⟨1, 7, [], 3⟩ := by kernel_rfl
theorem mEx_r2 : runL mExC [] 2 = ⟨0, 0, [], 2⟩ := by kernel_rfl
theorem mEx_a : addrL mExC [97] = 65536 ∧ addrL mExC [98] = -1 ∧ whereL mExC 65544 = 1 ∧ whereL mExC 65552 = -1 ∧ whereL mExC 1073741816 = 4097 := ⟨by kernel_rfl, by kernel_rfl, by kernel_rfl, by kernel_rfl, by kernel_rfl⟩
/-- A run of code, with nothing to read. -/
theorem run_nil (v : Value) (c : Cd) (w : World) (h : CdAt w v c) (hf : CdFit c) (hal : c.arrays.length ≤ 1000) (hn64 : ∀ l ∈ c.lines, I64 l.ins.n) (steps : Int) (hs : steps ≤ 1000000) (r : Rn) (hr : runL c [] steps = r) :
    Calls Tryz.prog 14 #[v, .slice none 0 0, .int .i64 steps] w fun e w' => (∃ po co, e = .returned (.agg #[.int .i64 r.stat, .int .i64 r.code, .slice po r.out.length co, .int .i64 r.steps]) ∧ RnAt w' (.agg #[.int .i64 r.stat, .int .i64 r.code, .slice po r.out.length co, .int .i64 r.steps]) r) ∧ Below w.heap.size w w' := by
  have := run_any v c w h hf hal hn64 none 0 [] (fun i hi => by cases hi) ⟨Nat.le_refl _, by decide⟩ (fun x hx => by cases hx) steps hs
  refine this.mono ?_
  rintro e w' ⟨h1, h2⟩
  rw [hr] at h1
  exact ⟨h1.rn, h2⟩
set_option maxHeartbeats 4000000 in
set_option maxRecDepth 100000 in
theorem awake9_any (w : World) (hv : Env w) : Calls Tryz.prog 11 #[] w fun e w' => e = .returned (.bool true) ∧ Below w.heap.size w w' := by
  have HV := Lib.hid hv
  have s1 := Lib.hid (aparse_any mExT (by decide) w hv)
  have e1 : mk mExT = ⟨#[46, 97, 114, 114, 97, 121, 32, 97, 32, 50, 10, 108, 105, 32, 120, 49, 55, 44, 32, 51, 10, 108, 105, 32, 120, 49, 48, 44, 32, 55, 10, 101, 99, 97, 108, 108, 10]⟩ := rfl
  rw [e1] at s1
  unfold AParse at s1
  rw [mEx_p] at s1
  clear hv e1
  go_enter Tryz.func11, Tryz.ntmps11
  go_wp2_with fail
  refine s1.out.mono ?_; rintro e w1 ⟨⟨v, rfl, hc⟩, g1⟩
  obtain ⟨pa, ca, pl, cl, rfl⟩ := cd_shape hc
  have hl0 : mExC.arrays.length = 1 := rfl
  have hl1 : mExC.lines.length = 3 := rfl
  rw [hl0, hl1] at hc
  rw [hl0, hl1]
  have HC := Lib.hid hc
  have HR99 : Hid (∀ w', Below w1.heap.size w1 w' → Calls Tryz.prog 14 #[.agg #[.slice pa 1 ca, .slice pl 3 cl], .slice none 0 0, .int .i64 99] w' fun e w'' => (∃ po co, e = .returned (.agg #[.int .i64 1, .int .i64 7, .slice po 0 co, .int .i64 3]) ∧ RnAt w'' (.agg #[.int .i64 1, .int .i64 7, .slice po 0 co, .int .i64 3]) ⟨1, 7, [], 3⟩) ∧ Below w'.heap.size w' w'') := Lib.hid (fun w' g => run_nil _ mExC w' (HC.out.ext g) mEx_fit (by decide) mEx_n64 99 (by decide) _ mEx_r99)
  have HR02 : Hid (∀ w', Below w1.heap.size w1 w' → Calls Tryz.prog 14 #[.agg #[.slice pa 1 ca, .slice pl 3 cl], .slice none 0 0, .int .i64 2] w' fun e w'' => (∃ po co, e = .returned (.agg #[.int .i64 0, .int .i64 0, .slice po 0 co, .int .i64 2]) ∧ RnAt w'' (.agg #[.int .i64 0, .int .i64 0, .slice po 0 co, .int .i64 2]) ⟨0, 0, [], 2⟩) ∧ Below w'.heap.size w' w'') := Lib.hid (fun w' g => run_nil _ mExC w' (HC.out.ext g) mEx_fit (by decide) mEx_n64 2 (by decide) _ mEx_r2)
  have HAD : Hid (∀ w' (s : List UInt8), Below w1.heap.size w1 w' → s.length ≤ maxLen → Calls Tryz.prog 19 #[.agg #[.slice pa 1 ca, .slice pl 3 cl], .string (mk s)] w' fun e w'' => e = .returned (.int .i64 (addrL mExC s)) ∧ Below w'.heap.size w' w'') := Lib.hid (fun w' s g hs => addr_any _ mExC w' (HC.out.ext g) mEx_fit (by decide) s hs)
  have HWH : Hid (∀ w' (p : Int), Below w1.heap.size w1 w' → I64 p → Calls Tryz.prog 20 #[.agg #[.slice pa 1 ca, .slice pl 3 cl], .int .i64 p] w' fun e w'' => e = .returned (.int .i64 (whereL mExC p)) ∧ Below w'.heap.size w' w'') := Lib.hid (fun w' p g hp => where_any _ mExC w' (HC.out.ext g) mEx_fit (by decide) p hp)
  have G0 := Lib.hid g1
  clear g1 hc s1 hl0 hl1
  go_wp2_with fail
  refine (HR99.out _ (ext_alloc (Below.refl _ _) _)).mono ?_; rintro e w2 ⟨⟨p2, c2, rfl, hr2⟩, g2⟩
  have GA : Hid (Below w1.heap.size w1 w2) := Lib.hid (ext_trans (ext_alloc (Below.refl _ _) (.cells #[.slice pa 1 ca, .slice pl 3 cl] 27)) g2)
  have HB1 : Hid (w2.heap[w1.heap.size]? = some (.cells #[.slice pa 1 ca, .slice pl 3 cl] 27 (0, 0))) := Lib.hid ((g2.block _ (by simp)).trans (heap_new w1 _))
  have HR2 := Lib.hid hr2
  have z2 : w1.heap.size < w2.heap.size := (Array.getElem?_eq_some_iff.1 HB1.out).1
  obtain ⟨c0, c1⟩ := two_cells HB1.out
  clear g2 hr2
  go_wp2_with fail
  refine (HR02.out _ (ext_alloc GA.out _)).mono ?_; rintro e w3 ⟨⟨p3, c3, rfl, hr3⟩, g3⟩
  have HB2 : Hid (w3.heap[w2.heap.size]? = some (.cells #[.int .i64 1, .int .i64 7, .slice p2 0 c2, .int .i64 3] 31 (0, 0))) := Lib.hid ((g3.block _ (by simp)).trans (heap_new w2 _))
  have HB13 := Lib.hid ((g3.block w1.heap.size (by simp; omega)).trans ((Lib.alloc_old _ _ _ z2).trans HB1.out))
  have HRA := Lib.hid (fun w' (g : Below w3.heap.size w3 w') => rsame_any _ _ _ _ w' (HR2.out.ext (ext_trans (ext_trans (ext_alloc (Below.refl _ _) (.cells #[.int .i64 1, .int .i64 7, .slice p2 0 c2, .int .i64 3] 31)) g3) g)) (rn_lit w' 1 7 3) (by decide) (by decide))
  have HRB := Lib.hid (fun w' (g : Below w3.heap.size w3 w') => rsame_any _ _ _ _ w' (hr3.ext g) (rn_lit w' 0 0 2) (by decide) (by decide))
  have GA3 : Hid (Below w1.heap.size w1 w3) := Lib.hid (ext_trans (ext_alloc GA.out (.cells #[.int .i64 1, .int .i64 7, .slice p2 0 c2, .int .i64 3] 31)) g3)
  have z3 : w2.heap.size < w3.heap.size := (Array.getElem?_eq_some_iff.1 HB2.out).1
  clear g3 hr3 c0 c1 HB1 GA
  have HB1 := HB13
  have GA := GA3
  clear HB13 GA3
  rw [decide_eq_true (rfl : (⟨1, 7, [], 3⟩ : Rn) = ⟨1, 7, [], 3⟩)] at HRA
  rw [decide_eq_true (rfl : (⟨0, 0, [], 2⟩ : Rn) = ⟨0, 0, [], 2⟩)] at HRB
  obtain ⟨a1, a2, a3, a4, a5⟩ := mEx_a
  have HD1 := Lib.hid (fun w' g => HAD.out w' [97] g (by decide))
  have HD2 := Lib.hid (fun w' g => HAD.out w' [98] g (by decide))
  have HD3 := Lib.hid (fun w' g => HWH.out w' 65544 g ⟨by decide, by decide⟩)
  have HD4 := Lib.hid (fun w' g => HWH.out w' 65552 g ⟨by decide, by decide⟩)
  have HD5 := Lib.hid (fun w' g => HWH.out w' 1073741816 g ⟨by decide, by decide⟩)
  rw [a1] at HD1
  rw [a2] at HD2
  rw [a3] at HD3
  rw [a4] at HD4
  rw [a5] at HD5
  clear a1 a2 a3 a4 a5 HAD HWH HR99 HR02 HR2
  obtain ⟨c0, c1⟩ := two_cells HB1.out
  obtain ⟨d0, d1, d2, d3⟩ := four_cells HB2.out
  go_wp2_with fail
  refine (HRA.out _ (ext_alloc (Below.refl _ _) _)).mono ?_; rintro e v1 ⟨rfl, g⟩
  have HB3 : Hid (v1.heap[w3.heap.size]? = some (.cells #[.int .i64 0, .int .i64 0, .slice p3 0 c3, .int .i64 2] 31 (0, 0))) := Lib.hid ((g.block _ (by simp)).trans (heap_new w3 _))
  have G3 : Hid (Below w3.heap.size w3 v1) := Lib.hid (ext_trans (ext_alloc (Below.refl _ _) (.cells #[.int .i64 0, .int .i64 0, .slice p3 0 c3, .int .i64 2] 31)) g)
  have GN : Hid (Below w1.heap.size w1 v1) := Lib.hid (ext_trans GA.out G3.out)
  have HB1 := Lib.hid ((G3.out.block w1.heap.size (by omega)).trans HB1.out)
  have HB2 := Lib.hid ((G3.out.block w2.heap.size z3).trans HB2.out)
  clear g GA c0 c1 d0 d1 d2 d3
  have z4 : w3.heap.size < v1.heap.size := (Array.getElem?_eq_some_iff.1 HB3.out).1
  obtain ⟨c0, c1⟩ := two_cells HB1.out
  obtain ⟨d0, d1, d2, d3⟩ := four_cells HB2.out
  obtain ⟨e0, e1, e2, e3⟩ := four_cells HB3.out
  have y1 : w1.heap.size < v1.heap.size := by omega
  have y2 : w2.heap.size < v1.heap.size := by omega
  go_wp2_with fail
  refine (HRB.out _ G3.out).mono ?_; rintro e v2 ⟨rfl, g⟩
  have HB1 := Lib.hid ((g.block w1.heap.size y1).trans HB1.out)
  have HB2 := Lib.hid ((g.block w2.heap.size y2).trans HB2.out)
  have HB3 := Lib.hid ((g.block w3.heap.size z4).trans HB3.out)
  have G3' : Hid (Below w3.heap.size w3 v2) := Lib.hid (ext_trans G3.out g)
  have GN' : Hid (Below w1.heap.size w1 v2) := Lib.hid (ext_trans GN.out g)
  clear G3 GN c0 c1 d0 d1 d2 d3 e0 e1 e2 e3 y1 y2 z4
  have G3 := G3'
  have GN := GN'
  have z4 : w3.heap.size < v2.heap.size := (Array.getElem?_eq_some_iff.1 HB3.out).1
  clear G3' GN' g
  obtain ⟨c0, c1⟩ := two_cells HB1.out
  obtain ⟨d0, d1, d2, d3⟩ := four_cells HB2.out
  obtain ⟨e0, e1, e2, e3⟩ := four_cells HB3.out
  have y1 : w1.heap.size < v2.heap.size := by omega
  have y2 : w2.heap.size < v2.heap.size := by omega
  go_wp2_with fail
  refine (HD1.out _ GN.out).mono ?_; rintro e v3 ⟨rfl, g⟩
  have HB1 := Lib.hid ((g.block w1.heap.size y1).trans HB1.out)
  have HB2 := Lib.hid ((g.block w2.heap.size y2).trans HB2.out)
  have HB3 := Lib.hid ((g.block w3.heap.size z4).trans HB3.out)
  have G3' : Hid (Below w3.heap.size w3 v3) := Lib.hid (ext_trans G3.out g)
  have GN' : Hid (Below w1.heap.size w1 v3) := Lib.hid (ext_trans GN.out g)
  clear G3 GN c0 c1 d0 d1 d2 d3 e0 e1 e2 e3 y1 y2 z4
  have G3 := G3'
  have GN := GN'
  have z4 : w3.heap.size < v3.heap.size := (Array.getElem?_eq_some_iff.1 HB3.out).1
  clear G3' GN' g
  obtain ⟨c0, c1⟩ := two_cells HB1.out
  obtain ⟨d0, d1, d2, d3⟩ := four_cells HB2.out
  obtain ⟨e0, e1, e2, e3⟩ := four_cells HB3.out
  have y1 : w1.heap.size < v3.heap.size := by omega
  have y2 : w2.heap.size < v3.heap.size := by omega
  go_wp2_with fail
  refine (HD2.out _ GN.out).mono ?_; rintro e v4 ⟨rfl, g⟩
  have HB1 := Lib.hid ((g.block w1.heap.size y1).trans HB1.out)
  have HB2 := Lib.hid ((g.block w2.heap.size y2).trans HB2.out)
  have HB3 := Lib.hid ((g.block w3.heap.size z4).trans HB3.out)
  have G3' : Hid (Below w3.heap.size w3 v4) := Lib.hid (ext_trans G3.out g)
  have GN' : Hid (Below w1.heap.size w1 v4) := Lib.hid (ext_trans GN.out g)
  clear G3 GN c0 c1 d0 d1 d2 d3 e0 e1 e2 e3 y1 y2 z4
  have G3 := G3'
  have GN := GN'
  have z4 : w3.heap.size < v4.heap.size := (Array.getElem?_eq_some_iff.1 HB3.out).1
  clear G3' GN' g
  obtain ⟨c0, c1⟩ := two_cells HB1.out
  obtain ⟨d0, d1, d2, d3⟩ := four_cells HB2.out
  obtain ⟨e0, e1, e2, e3⟩ := four_cells HB3.out
  have y1 : w1.heap.size < v4.heap.size := by omega
  have y2 : w2.heap.size < v4.heap.size := by omega
  go_wp2_with fail
  refine (HD3.out _ GN.out).mono ?_; rintro e v5 ⟨rfl, g⟩
  have HB1 := Lib.hid ((g.block w1.heap.size y1).trans HB1.out)
  have HB2 := Lib.hid ((g.block w2.heap.size y2).trans HB2.out)
  have HB3 := Lib.hid ((g.block w3.heap.size z4).trans HB3.out)
  have G3' : Hid (Below w3.heap.size w3 v5) := Lib.hid (ext_trans G3.out g)
  have GN' : Hid (Below w1.heap.size w1 v5) := Lib.hid (ext_trans GN.out g)
  clear G3 GN c0 c1 d0 d1 d2 d3 e0 e1 e2 e3 y1 y2 z4
  have G3 := G3'
  have GN := GN'
  have z4 : w3.heap.size < v5.heap.size := (Array.getElem?_eq_some_iff.1 HB3.out).1
  clear G3' GN' g
  obtain ⟨c0, c1⟩ := two_cells HB1.out
  obtain ⟨d0, d1, d2, d3⟩ := four_cells HB2.out
  obtain ⟨e0, e1, e2, e3⟩ := four_cells HB3.out
  have y1 : w1.heap.size < v5.heap.size := by omega
  have y2 : w2.heap.size < v5.heap.size := by omega
  go_wp2_with fail
  refine (HD4.out _ GN.out).mono ?_; rintro e v6 ⟨rfl, g⟩
  have HB1 := Lib.hid ((g.block w1.heap.size y1).trans HB1.out)
  have HB2 := Lib.hid ((g.block w2.heap.size y2).trans HB2.out)
  have HB3 := Lib.hid ((g.block w3.heap.size z4).trans HB3.out)
  have G3' : Hid (Below w3.heap.size w3 v6) := Lib.hid (ext_trans G3.out g)
  have GN' : Hid (Below w1.heap.size w1 v6) := Lib.hid (ext_trans GN.out g)
  clear G3 GN c0 c1 d0 d1 d2 d3 e0 e1 e2 e3 y1 y2 z4
  have G3 := G3'
  have GN := GN'
  have z4 : w3.heap.size < v6.heap.size := (Array.getElem?_eq_some_iff.1 HB3.out).1
  clear G3' GN' g
  obtain ⟨c0, c1⟩ := two_cells HB1.out
  obtain ⟨d0, d1, d2, d3⟩ := four_cells HB2.out
  obtain ⟨e0, e1, e2, e3⟩ := four_cells HB3.out
  have y1 : w1.heap.size < v6.heap.size := by omega
  have y2 : w2.heap.size < v6.heap.size := by omega
  go_wp2_with fail
  refine (HD5.out _ GN.out).mono ?_; rintro e v7 ⟨rfl, g⟩
  have HB1 := Lib.hid ((g.block w1.heap.size y1).trans HB1.out)
  have HB2 := Lib.hid ((g.block w2.heap.size y2).trans HB2.out)
  have HB3 := Lib.hid ((g.block w3.heap.size z4).trans HB3.out)
  have G3' : Hid (Below w3.heap.size w3 v7) := Lib.hid (ext_trans G3.out g)
  have GN' : Hid (Below w1.heap.size w1 v7) := Lib.hid (ext_trans GN.out g)
  clear G3 GN c0 c1 d0 d1 d2 d3 e0 e1 e2 e3 y1 y2 z4
  have G3 := G3'
  have GN := GN'
  have z4 : w3.heap.size < v7.heap.size := (Array.getElem?_eq_some_iff.1 HB3.out).1
  clear G3' GN' g
  go_wp2_with fail
  go_ret
  exact ⟨rfl, ext_trans G0.out GN.out⟩
end Go.Proofs.YtjimeengkfjihaaGreatDoor
