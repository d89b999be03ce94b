/- The law's own helpers: of a raw instruction, a right one. -/
import Derived.Test.YtlaihjefmhcmcaaGreatDoorRows
import Derived.WalkKit
import Derived.ProofKit
import Derived.OpenShut
import Derived.WalkLawsBesides
import Derived.WalkSpells
import Derived.Outline
import Derived.Handy
import Derived.Lib.Hide
import Derived.Lib.OthersKept
import Derived.KernelRfl
import Derived.Test.YtlaihjefmhcmcaaGreatDoorInI
namespace Go.Proofs.YtlaihjefmhcmcaaGreatDoor
open Go.ChangeShapes Go.WideShapes Go.ChangeAt Go.RowKit
set_option linter.unusedVariables false
def AllI (x : In) : Prop := I64 x.op ∧ I64 x.d ∧ I64 x.a ∧ I64 x.b ∧ I64 x.n
def fitL (x : In) : In :=
  let o := 1 + pickN x.op 28
  let d := pickN x.d 32
  let a := pickN x.a 32
  let b := pickN x.b 32
  let m := pickN x.n 4095 - 2047
  let t := nameL (pickN x.n 40).toNat
  if o ≤ 12 then ⟨o, d, a, b, 0, []⟩ else if o ≤ 15 then ⟨o, d, a, 0, 0, []⟩ else if o = 16 then ⟨o, d, 0, 0, x.n, []⟩ else if o = 17 then ⟨o, d, 0, 0, 0, t⟩
  else if o ≤ 19 then ⟨o, d, a, 0, m, []⟩ else if o = 20 then ⟨o, 0, a, b, m, []⟩ else if o ≤ 24 then ⟨o, 0, a, b, 0, t⟩ else if o ≤ 26 then ⟨o, 0, 0, 0, 0, t⟩ else ⟨o, 0, 0, 0, 0, []⟩
theorem bodyPost_world {P : Program} {f : Func} {Q : Ending → World → Prop} {ex : Exit} {a : Act} {w w' : World} (h : w = w') (k : bodyPost P f Q ex a w') : bodyPost P f Q ex a w := by rw [h]; exact k
theorem pick_reg (c : Int) : regB (pickN c 32) = true := decide_eq_true ⟨pickN_lo _ _ (by decide), pickN_hi _ _ (by decide)⟩
theorem pick_small (c : Int) : smallB (pickN c 4095 - 2047) = true := decide_eq_true (by have := pickN_lo c 4095 (by decide); have := pickN_hi c 4095 (by decide); omega)
theorem pick_name (c : Int) : labelB (nameL (pickN c 40).toNat) = true := name_lab _ (by have := pickN_lo c 40 (by decide); have := pickN_hi c 40 (by decide); omega)
/-- What comes of a raw instruction is right. -/
theorem fit_right (x : In) (hx : I64 x.n) : rightB (fitL x) = true ∧ I64 (fitL x).n := by
  have o1 : 1 ≤ 1 + pickN x.op 28 := by have := pickN_lo x.op 28 (by decide); omega
  have o2 : 1 + pickN x.op 28 ≤ 28 := by have := pickN_hi x.op 28 (by decide); omega
  have hd := pick_reg x.d
  have ha := pick_reg x.a
  have hb := pick_reg x.b
  have hm := pick_small x.n
  have ht := pick_name x.n
  rw [right_eq]
  unfold fitL
  generalize 1 + pickN x.op 28 = o at *
  generalize pickN x.d 32 = d at *
  generalize pickN x.a 32 = a at *
  generalize pickN x.b 32 = b at *
  generalize pickN x.n 4095 - 2047 = m at *
  generalize nameL (pickN x.n 40).toNat = t at *
  have hop : isOp o = true := decide_eq_true ⟨o1, o2⟩
  obtain ⟨k, hk⟩ := op_nat hop
  have z : I64 0 := by unfold I64; omega
  have zm : I64 m := small_i hm
  have key : ∀ k : Fin 28, (((k.val : Int) + 1 ≤ 12 → hasL ((k.val : Int) + 1) = sDAB) ∧ (12 < (k.val : Int) + 1 → (k.val : Int) + 1 ≤ 15 → hasL ((k.val : Int) + 1) = sDA) ∧ ((k.val : Int) + 1 = 16 → hasL ((k.val : Int) + 1) = [68, 44, 32, 78]) ∧
      ((k.val : Int) + 1 = 17 → hasL ((k.val : Int) + 1) = [68, 44, 32, 76]) ∧ ((k.val : Int) + 1 = 18 → hasL ((k.val : Int) + 1) = [68, 44, 32, 65, 44, 32, 83]) ∧ ((k.val : Int) + 1 = 19 → hasL ((k.val : Int) + 1) = [68, 44, 32, 83, 40, 65, 41]) ∧
      ((k.val : Int) + 1 = 20 → hasL ((k.val : Int) + 1) = [66, 44, 32, 83, 40, 65, 41]) ∧ (20 < (k.val : Int) + 1 → (k.val : Int) + 1 ≤ 24 → hasL ((k.val : Int) + 1) = sABL) ∧ (24 < (k.val : Int) + 1 → (k.val : Int) + 1 ≤ 26 → hasL ((k.val : Int) + 1) = [76]) ∧ (26 < (k.val : Int) + 1 → hasL ((k.val : Int) + 1) = [])) := by decide +kernel
  have := key k
  rw [← hk] at this
  obtain ⟨q1, q2, q3, q4, q5, q6, q7, q8, q9, q10⟩ := this
  clear key hk
  dsimp only
  split
  · next h => exact ⟨by unfold rightE; rw [q1 h]; simp [sDAB, hop, hd, ha, hb], z⟩
  split
  · next h1 h => exact ⟨by unfold rightE; rw [q2 (by omega) h]; simp [sDA, hop, hd, ha], z⟩
  split
  · next h1 h2 h => exact ⟨by unfold rightE; rw [q3 h]; simp [hop, hd], hx⟩
  split
  · next h1 h2 h3 h => exact ⟨by unfold rightE; rw [q4 h]; simp [hop, hd, ht], z⟩
  split
  · next h1 h2 h3 h4 h =>
    by_cases e : o = 18
    · exact ⟨by unfold rightE; rw [q5 e]; simp [hop, hd, ha, hm], zm⟩
    · exact ⟨by unfold rightE; rw [q6 (by omega)]; simp [hop, hd, ha, hm], zm⟩
  split
  · next h1 h2 h3 h4 h5 h => exact ⟨by unfold rightE; rw [q7 h]; simp [hop, ha, hb, hm], zm⟩
  split
  · next h1 h2 h3 h4 h5 h6 h => exact ⟨by unfold rightE; rw [q8 (by omega) h]; simp [sABL, hop, ha, hb, ht], z⟩
  split
  · next h1 h2 h3 h4 h5 h6 h7 h => exact ⟨by unfold rightE; rw [q9 (by omega) h]; simp [hop, ht], z⟩
  · next h1 h2 h3 h4 h5 h6 h7 h => exact ⟨by unfold rightE; rw [q10 (by omega)]; simp [hop], z⟩
set_option maxRecDepth 100000 in
set_option maxHeartbeats 8000000 in
theorem fit_any (x : In) (hx : AllI x) (w : World) : Calls Tryz.prog 13 #[inV x] w fun e w' => e = .returned (inV (fitL x)) ∧ Below w.heap.size w w' := by
  have p1 := Lib.hid (fun w => pick_any x.op 28 w hx.1 (by decide))
  have p2 := Lib.hid (fun w => pick_any x.d 32 w hx.2.1 (by decide))
  have p3 := Lib.hid (fun w => pick_any x.a 32 w hx.2.2.1 (by decide))
  have p4 := Lib.hid (fun w => pick_any x.b 32 w hx.2.2.2.1 (by decide))
  have p5 := Lib.hid (fun w => pick_any x.n 4095 w hx.2.2.2.2 (by decide))
  have p6 := Lib.hid (fun w => name_any x.n hx.2.2.2.2 w)
  have o1 : 1 ≤ 1 + pickN x.op 28 := by have := pickN_lo x.op 28 (by decide); omega
  have o2 : 1 + pickN x.op 28 ≤ 28 := by have := pickN_hi x.op 28 (by decide); omega
  have m1 : 0 ≤ pickN x.n 4095 := pickN_lo _ _ (by decide)
  have m2 : pickN x.n 4095 ≤ 4094 := by have := pickN_hi x.n 4095 (by decide); omega
  have m3 : 0 ≤ pickN x.op 28 := pickN_lo _ _ (by decide)
  have m4 : pickN x.op 28 ≤ 27 := by have := pickN_hi x.op 28 (by decide); omega
  have HFL : Hid (∀ o, 1 + pickN x.op 28 = o → fitL x =
    if o ≤ 12 then ⟨o, pickN x.d 32, pickN x.a 32, pickN x.b 32, 0, []⟩ else if o ≤ 15 then ⟨o, pickN x.d 32, pickN x.a 32, 0, 0, []⟩ else if o = 16 then ⟨o, pickN x.d 32, 0, 0, x.n, []⟩ else if o = 17 then ⟨o, pickN x.d 32, 0, 0, 0, nameL (pickN x.n 40).toNat⟩
    else if o ≤ 19 then ⟨o, pickN x.d 32, pickN x.a 32, 0, pickN x.n 4095 - 2047, []⟩ else if o = 20 then ⟨o, 0, pickN x.a 32, pickN x.b 32, pickN x.n 4095 - 2047, []⟩ else if o ≤ 24 then ⟨o, 0, pickN x.a 32, pickN x.b 32, 0, nameL (pickN x.n 40).toNat⟩ else if o ≤ 26 then ⟨o, 0, 0, 0, 0, nameL (pickN x.n 40).toNat⟩ else ⟨o, 0, 0, 0, 0, []⟩) := Lib.hid (fun o h => by unfold fitL; rw [h])
  generalize fitL x = X at *
  generalize pickN x.op 28 = q at *
  generalize pickN x.d 32 = d at *
  generalize pickN x.a 32 = a at *
  generalize pickN x.b 32 = b at *
  generalize pickN x.n 4095 = m at *
  generalize nameL (pickN x.n 40).toNat = t at *
  obtain ⟨o, ho⟩ : ∃ o, 1 + q = o := ⟨_, rfl⟩
  have HX := HFL.out o ho
  rw [ho] at o1 o2
  unfold inV
  have HXX := Lib.hid HX
  clear HX HFL hx
  have hc : (o ≤ 12) ∨ (12 < o ∧ o ≤ 15) ∨ (o = 16) ∨ (o = 17) ∨ (o = 18) ∨ (o = 19) ∨ (o = 20) ∨ (20 < o ∧ o ≤ 24) ∨ (o = 25) ∨ (o = 26) ∨ (26 < o) := by omega
  rcases hc with h | h | h | h | h | h | h | h | h | h | h
  · -- o ≤ 12
    have HV : Hid (X = ⟨o, d, a, b, 0, []⟩) := Lib.hid (by
      rw [HXX.out]
      repeat (first | rw [if_pos (by omega)] | rw [if_neg (by omega)]))
    have HO := Lib.hid ho
    clear HXX
    go_enter Tryz.func13, Tryz.ntmps13
    go_wp2_with fail
    refine (p1.out _).mono ?_; rintro e w1 ⟨rfl, rfl⟩
    go_wp2_with fail
    refine (p2.out _).mono ?_; rintro e w1 ⟨rfl, rfl⟩
    go_wp2_with fail
    refine (p3.out _).mono ?_; rintro e w1 ⟨rfl, rfl⟩
    go_wp2_with fail
    refine (p4.out _).mono ?_; rintro e w1 ⟨rfl, rfl⟩
    go_wp2_with fail
    refine (p5.out _).mono ?_; rintro e w1 ⟨rfl, rfl⟩
    go_wp2_with fail
    exact bodyPost_ret (v := inV ⟨o, d, a, b, 0, []⟩) (by simp [results, Tryz.results13, go_sem, inV]; rfl) rfl ⟨by rw [HV.out]; rfl, by repeat (first | exact Below.refl _ _ | (refine ext_alloc ?_ _) | (refine ext_drew ?_) | (refine ext_set ?_ (by simp) _))⟩
  · -- 12 < o ∧ o ≤ 15
    have HV : Hid (X = ⟨o, d, a, 0, 0, []⟩) := Lib.hid (by
      rw [HXX.out]
      repeat (first | rw [if_pos (by omega)] | rw [if_neg (by omega)]))
    have HO := Lib.hid ho
    clear HXX
    obtain ⟨h1, h2⟩ := h
    go_enter Tryz.func13, Tryz.ntmps13
    go_wp2_with fail
    refine (p1.out _).mono ?_; rintro e w1 ⟨rfl, rfl⟩
    go_wp2_with fail
    refine (p2.out _).mono ?_; rintro e w1 ⟨rfl, rfl⟩
    go_wp2_with fail
    refine (p3.out _).mono ?_; rintro e w1 ⟨rfl, rfl⟩
    go_wp2_with fail
    refine (p4.out _).mono ?_; rintro e w1 ⟨rfl, rfl⟩
    go_wp2_with fail
    refine (p5.out _).mono ?_; rintro e w1 ⟨rfl, rfl⟩
    go_wp2_with fail
    exact bodyPost_ret (v := inV ⟨o, d, a, 0, 0, []⟩) (by simp [results, Tryz.results13, go_sem, inV]; rfl) rfl ⟨by rw [HV.out]; rfl, by repeat (first | exact Below.refl _ _ | (refine ext_alloc ?_ _) | (refine ext_drew ?_) | (refine ext_set ?_ (by simp) _))⟩
  · -- o = 16
    have HV : Hid (X = ⟨o, d, 0, 0, x.n, []⟩) := Lib.hid (by
      rw [HXX.out]
      repeat (first | rw [if_pos (by omega)] | rw [if_neg (by omega)]))
    have HO := Lib.hid ho
    clear HXX
    subst h
    clear o1 o2
    go_enter Tryz.func13, Tryz.ntmps13
    go_wp2_with fail
    refine (p1.out _).mono ?_; rintro e w1 ⟨rfl, rfl⟩
    go_wp2_with fail
    refine (p2.out _).mono ?_; rintro e w1 ⟨rfl, rfl⟩
    go_wp2_with fail
    refine (p3.out _).mono ?_; rintro e w1 ⟨rfl, rfl⟩
    go_wp2_with fail
    refine (p4.out _).mono ?_; rintro e w1 ⟨rfl, rfl⟩
    go_wp2_with fail
    refine (p5.out _).mono ?_; rintro e w1 ⟨rfl, rfl⟩
    go_wp2_with fail
    exact bodyPost_ret (v := inV ⟨16, d, 0, 0, x.n, []⟩) (by simp [results, Tryz.results13, go_sem, inV]; rfl) rfl ⟨by rw [HV.out]; rfl, by repeat (first | exact Below.refl _ _ | (refine ext_alloc ?_ _) | (refine ext_drew ?_) | (refine ext_set ?_ (by simp) _))⟩
  · -- o = 17
    have HV : Hid (X = ⟨o, d, 0, 0, 0, t⟩) := Lib.hid (by
      rw [HXX.out]
      repeat (first | rw [if_pos (by omega)] | rw [if_neg (by omega)]))
    have HO := Lib.hid ho
    clear HXX
    subst h
    clear o1 o2
    go_enter Tryz.func13, Tryz.ntmps13
    go_wp2_with fail
    refine (p1.out _).mono ?_; rintro e w1 ⟨rfl, rfl⟩
    go_wp2_with fail
    refine (p2.out _).mono ?_; rintro e w1 ⟨rfl, rfl⟩
    go_wp2_with fail
    refine (p3.out _).mono ?_; rintro e w1 ⟨rfl, rfl⟩
    go_wp2_with fail
    refine (p4.out _).mono ?_; rintro e w1 ⟨rfl, rfl⟩
    go_wp2_with fail
    refine (p5.out _).mono ?_; rintro e w1 ⟨rfl, rfl⟩
    go_wp2_with fail
    refine (p6.out _).mono ?_; rintro e w2 ⟨rfl, g2⟩
    have hsz : w.heap.size + 2 < w2.heap.size := by have := g2.size; simp at this; omega
    have hrb := (g2.block (w.heap.size + 2) (by simp)).trans (heap_new' _ (.cells #[.int .i64 17, .int .i64 d, .int .i64 0, .int .i64 0, .int .i64 0, .string (mk [])] 46) _ (by simp))
    have hbx := (g2.block (w.heap.size + 1) (by simp)).trans ((Lib.alloc_old _ _ _ (by simp)).trans (heap_new' _ (.cells (inC zeroI) 46) _ (by simp)))
    have hbl := ext_trans (ext_alloc (ext_alloc (ext_alloc (Below.refl w.heap.size w) _) _) _) g2
    have hrb2 := heap_setCell_same _ _ 5 _ _ (.string (mk t)) hrb
    have hbx2 := (heap_setCell_other w2 ⟨w.heap.size + 2, 5, none⟩ (w.heap.size + 1) (.string (mk t)) (by simp)).trans hbx
    have hbl2 := ext_set hbl (p := ⟨w.heap.size + 2, 5, none⟩) (by simp) (.string (mk t))
    obtain ⟨wf, hwf, hhf, hbf⟩ := six_store hbx2 hbl2 (by simp) ⟨17, d, 0, 0, 0, t⟩
    obtain ⟨⟨d0, d1, d2, d3, d4, d5⟩, f0, f1, f2, f3, f4, f5⟩ := six_at hrb
    obtain ⟨⟨c0, c1, c2, c3, c4, c5⟩, g0, g1, g2', g3, g4, g5⟩ := six_at hbx
    have HWF := Lib.hid hwf
    have HHF := Lib.hid hhf
    have HBF := Lib.hid hbf
    clear hwf hhf hbf hrb hbx hbl hrb2 hbx2 hbl2 g2
    go_wp2_with fail
    refine bodyPost_world HWF.out ?_
    clear c0 c1 c2 c3 c4 c5 g0 g1 g2' g3 g4 g5 d0 d1 d2 d3 d4 d5 f0 f1 f2 f3 f4 f5
    obtain ⟨⟨c0, c1, c2, c3, c4, c5⟩, g0, g1, g2, g3, g4, g5⟩ := six_at HHF.out
    exact bodyPost_ret (v := inV ⟨17, d, 0, 0, 0, t⟩) (by simp [results, Tryz.results13, go_sem, inV, c0, c1, c2, c3, c4, c5]) rfl ⟨by rw [HV.out]; rfl, HBF.out⟩
  · -- o = 18
    have HV : Hid (X = ⟨o, d, a, 0, (m - 2047), []⟩) := Lib.hid (by
      rw [HXX.out]
      repeat (first | rw [if_pos (by omega)] | rw [if_neg (by omega)]))
    have HO := Lib.hid ho
    clear HXX
    subst h
    clear o1 o2
    go_enter Tryz.func13, Tryz.ntmps13
    go_wp2_with fail
    refine (p1.out _).mono ?_; rintro e w1 ⟨rfl, rfl⟩
    go_wp2_with fail
    refine (p2.out _).mono ?_; rintro e w1 ⟨rfl, rfl⟩
    go_wp2_with fail
    refine (p3.out _).mono ?_; rintro e w1 ⟨rfl, rfl⟩
    go_wp2_with fail
    refine (p4.out _).mono ?_; rintro e w1 ⟨rfl, rfl⟩
    go_wp2_with fail
    refine (p5.out _).mono ?_; rintro e w1 ⟨rfl, rfl⟩
    go_wp2_with fail
    exact bodyPost_ret (v := inV ⟨18, d, a, 0, (m - 2047), []⟩) (by simp [results, Tryz.results13, go_sem, inV]; rfl) rfl ⟨by rw [HV.out]; rfl, by repeat (first | exact Below.refl _ _ | (refine ext_alloc ?_ _) | (refine ext_drew ?_) | (refine ext_set ?_ (by simp) _))⟩
  · -- o = 19
    have HV : Hid (X = ⟨o, d, a, 0, (m - 2047), []⟩) := Lib.hid (by
      rw [HXX.out]
      repeat (first | rw [if_pos (by omega)] | rw [if_neg (by omega)]))
    have HO := Lib.hid ho
    clear HXX
    subst h
    clear o1 o2
    go_enter Tryz.func13, Tryz.ntmps13
    go_wp2_with fail
    refine (p1.out _).mono ?_; rintro e w1 ⟨rfl, rfl⟩
    go_wp2_with fail
    refine (p2.out _).mono ?_; rintro e w1 ⟨rfl, rfl⟩
    go_wp2_with fail
    refine (p3.out _).mono ?_; rintro e w1 ⟨rfl, rfl⟩
    go_wp2_with fail
    refine (p4.out _).mono ?_; rintro e w1 ⟨rfl, rfl⟩
    go_wp2_with fail
    refine (p5.out _).mono ?_; rintro e w1 ⟨rfl, rfl⟩
    go_wp2_with fail
    exact bodyPost_ret (v := inV ⟨19, d, a, 0, (m - 2047), []⟩) (by simp [results, Tryz.results13, go_sem, inV]; rfl) rfl ⟨by rw [HV.out]; rfl, by repeat (first | exact Below.refl _ _ | (refine ext_alloc ?_ _) | (refine ext_drew ?_) | (refine ext_set ?_ (by simp) _))⟩
  · -- o = 20
    have HV : Hid (X = ⟨o, 0, a, b, (m - 2047), []⟩) := Lib.hid (by
      rw [HXX.out]
      repeat (first | rw [if_pos (by omega)] | rw [if_neg (by omega)]))
    have HO := Lib.hid ho
    clear HXX
    subst h
    clear o1 o2
    go_enter Tryz.func13, Tryz.ntmps13
    go_wp2_with fail
    refine (p1.out _).mono ?_; rintro e w1 ⟨rfl, rfl⟩
    go_wp2_with fail
    refine (p2.out _).mono ?_; rintro e w1 ⟨rfl, rfl⟩
    go_wp2_with fail
    refine (p3.out _).mono ?_; rintro e w1 ⟨rfl, rfl⟩
    go_wp2_with fail
    refine (p4.out _).mono ?_; rintro e w1 ⟨rfl, rfl⟩
    go_wp2_with fail
    refine (p5.out _).mono ?_; rintro e w1 ⟨rfl, rfl⟩
    go_wp2_with fail
    exact bodyPost_ret (v := inV ⟨20, 0, a, b, (m - 2047), []⟩) (by simp [results, Tryz.results13, go_sem, inV]; rfl) rfl ⟨by rw [HV.out]; rfl, by repeat (first | exact Below.refl _ _ | (refine ext_alloc ?_ _) | (refine ext_drew ?_) | (refine ext_set ?_ (by simp) _))⟩
  · -- 20 < o ∧ o ≤ 24
    have HV : Hid (X = ⟨o, 0, a, b, 0, t⟩) := Lib.hid (by
      rw [HXX.out]
      repeat (first | rw [if_pos (by omega)] | rw [if_neg (by omega)]))
    have HO := Lib.hid ho
    clear HXX
    obtain ⟨h1, h2⟩ := h
    go_enter Tryz.func13, Tryz.ntmps13
    go_wp2_with fail
    refine (p1.out _).mono ?_; rintro e w1 ⟨rfl, rfl⟩
    go_wp2_with fail
    refine (p2.out _).mono ?_; rintro e w1 ⟨rfl, rfl⟩
    go_wp2_with fail
    refine (p3.out _).mono ?_; rintro e w1 ⟨rfl, rfl⟩
    go_wp2_with fail
    refine (p4.out _).mono ?_; rintro e w1 ⟨rfl, rfl⟩
    go_wp2_with fail
    refine (p5.out _).mono ?_; rintro e w1 ⟨rfl, rfl⟩
    go_wp2_with fail
    refine (p6.out _).mono ?_; rintro e w2 ⟨rfl, g2⟩
    have hsz : w.heap.size + 2 < w2.heap.size := by have := g2.size; simp at this; omega
    have hrb := (g2.block (w.heap.size + 2) (by simp)).trans (heap_new' _ (.cells #[.int .i64 o, .int .i64 0, .int .i64 a, .int .i64 b, .int .i64 0, .string (mk [])] 46) _ (by simp))
    have hbx := (g2.block (w.heap.size + 1) (by simp)).trans ((Lib.alloc_old _ _ _ (by simp)).trans (heap_new' _ (.cells (inC zeroI) 46) _ (by simp)))
    have hbl := ext_trans (ext_alloc (ext_alloc (ext_alloc (Below.refl w.heap.size w) _) _) _) g2
    have hrb2 := heap_setCell_same _ _ 5 _ _ (.string (mk t)) hrb
    have hbx2 := (heap_setCell_other w2 ⟨w.heap.size + 2, 5, none⟩ (w.heap.size + 1) (.string (mk t)) (by simp)).trans hbx
    have hbl2 := ext_set hbl (p := ⟨w.heap.size + 2, 5, none⟩) (by simp) (.string (mk t))
    obtain ⟨wf, hwf, hhf, hbf⟩ := six_store hbx2 hbl2 (by simp) ⟨o, 0, a, b, 0, t⟩
    obtain ⟨⟨d0, d1, d2, d3, d4, d5⟩, f0, f1, f2, f3, f4, f5⟩ := six_at hrb
    obtain ⟨⟨c0, c1, c2, c3, c4, c5⟩, g0, g1, g2', g3, g4, g5⟩ := six_at hbx
    have HWF := Lib.hid hwf
    have HHF := Lib.hid hhf
    have HBF := Lib.hid hbf
    clear hwf hhf hbf hrb hbx hbl hrb2 hbx2 hbl2 g2
    go_wp2_with fail
    refine bodyPost_world HWF.out ?_
    clear c0 c1 c2 c3 c4 c5 g0 g1 g2' g3 g4 g5 d0 d1 d2 d3 d4 d5 f0 f1 f2 f3 f4 f5
    obtain ⟨⟨c0, c1, c2, c3, c4, c5⟩, g0, g1, g2, g3, g4, g5⟩ := six_at HHF.out
    exact bodyPost_ret (v := inV ⟨o, 0, a, b, 0, t⟩) (by simp [results, Tryz.results13, go_sem, inV, c0, c1, c2, c3, c4, c5]) rfl ⟨by rw [HV.out]; rfl, HBF.out⟩
  · -- o = 25
    have HV : Hid (X = ⟨o, 0, 0, 0, 0, t⟩) := Lib.hid (by
      rw [HXX.out]
      repeat (first | rw [if_pos (by omega)] | rw [if_neg (by omega)]))
    have HO := Lib.hid ho
    clear HXX
    subst h
    clear o1 o2
    go_enter Tryz.func13, Tryz.ntmps13
    go_wp2_with fail
    refine (p1.out _).mono ?_; rintro e w1 ⟨rfl, rfl⟩
    go_wp2_with fail
    refine (p2.out _).mono ?_; rintro e w1 ⟨rfl, rfl⟩
    go_wp2_with fail
    refine (p3.out _).mono ?_; rintro e w1 ⟨rfl, rfl⟩
    go_wp2_with fail
    refine (p4.out _).mono ?_; rintro e w1 ⟨rfl, rfl⟩
    go_wp2_with fail
    refine (p5.out _).mono ?_; rintro e w1 ⟨rfl, rfl⟩
    go_wp2_with fail
    refine (p6.out _).mono ?_; rintro e w2 ⟨rfl, g2⟩
    have hsz : w.heap.size + 2 < w2.heap.size := by have := g2.size; simp at this; omega
    have hrb := (g2.block (w.heap.size + 2) (by simp)).trans (heap_new' _ (.cells #[.int .i64 25, .int .i64 0, .int .i64 0, .int .i64 0, .int .i64 0, .string (mk [])] 46) _ (by simp))
    have hbx := (g2.block (w.heap.size + 1) (by simp)).trans ((Lib.alloc_old _ _ _ (by simp)).trans (heap_new' _ (.cells (inC zeroI) 46) _ (by simp)))
    have hbl := ext_trans (ext_alloc (ext_alloc (ext_alloc (Below.refl w.heap.size w) _) _) _) g2
    have hrb2 := heap_setCell_same _ _ 5 _ _ (.string (mk t)) hrb
    have hbx2 := (heap_setCell_other w2 ⟨w.heap.size + 2, 5, none⟩ (w.heap.size + 1) (.string (mk t)) (by simp)).trans hbx
    have hbl2 := ext_set hbl (p := ⟨w.heap.size + 2, 5, none⟩) (by simp) (.string (mk t))
    obtain ⟨wf, hwf, hhf, hbf⟩ := six_store hbx2 hbl2 (by simp) ⟨25, 0, 0, 0, 0, t⟩
    obtain ⟨⟨d0, d1, d2, d3, d4, d5⟩, f0, f1, f2, f3, f4, f5⟩ := six_at hrb
    obtain ⟨⟨c0, c1, c2, c3, c4, c5⟩, g0, g1, g2', g3, g4, g5⟩ := six_at hbx
    have HWF := Lib.hid hwf
    have HHF := Lib.hid hhf
    have HBF := Lib.hid hbf
    clear hwf hhf hbf hrb hbx hbl hrb2 hbx2 hbl2 g2
    go_wp2_with fail
    refine bodyPost_world HWF.out ?_
    clear c0 c1 c2 c3 c4 c5 g0 g1 g2' g3 g4 g5 d0 d1 d2 d3 d4 d5 f0 f1 f2 f3 f4 f5
    obtain ⟨⟨c0, c1, c2, c3, c4, c5⟩, g0, g1, g2, g3, g4, g5⟩ := six_at HHF.out
    exact bodyPost_ret (v := inV ⟨25, 0, 0, 0, 0, t⟩) (by simp [results, Tryz.results13, go_sem, inV, c0, c1, c2, c3, c4, c5]) rfl ⟨by rw [HV.out]; rfl, HBF.out⟩
  · -- o = 26
    have HV : Hid (X = ⟨o, 0, 0, 0, 0, t⟩) := Lib.hid (by
      rw [HXX.out]
      repeat (first | rw [if_pos (by omega)] | rw [if_neg (by omega)]))
    have HO := Lib.hid ho
    clear HXX
    subst h
    clear o1 o2
    go_enter Tryz.func13, Tryz.ntmps13
    go_wp2_with fail
    refine (p1.out _).mono ?_; rintro e w1 ⟨rfl, rfl⟩
    go_wp2_with fail
    refine (p2.out _).mono ?_; rintro e w1 ⟨rfl, rfl⟩
    go_wp2_with fail
    refine (p3.out _).mono ?_; rintro e w1 ⟨rfl, rfl⟩
    go_wp2_with fail
    refine (p4.out _).mono ?_; rintro e w1 ⟨rfl, rfl⟩
    go_wp2_with fail
    refine (p5.out _).mono ?_; rintro e w1 ⟨rfl, rfl⟩
    go_wp2_with fail
    refine (p6.out _).mono ?_; rintro e w2 ⟨rfl, g2⟩
    have hsz : w.heap.size + 2 < w2.heap.size := by have := g2.size; simp at this; omega
    have hrb := (g2.block (w.heap.size + 2) (by simp)).trans (heap_new' _ (.cells #[.int .i64 26, .int .i64 0, .int .i64 0, .int .i64 0, .int .i64 0, .string (mk [])] 46) _ (by simp))
    have hbx := (g2.block (w.heap.size + 1) (by simp)).trans ((Lib.alloc_old _ _ _ (by simp)).trans (heap_new' _ (.cells (inC zeroI) 46) _ (by simp)))
    have hbl := ext_trans (ext_alloc (ext_alloc (ext_alloc (Below.refl w.heap.size w) _) _) _) g2
    have hrb2 := heap_setCell_same _ _ 5 _ _ (.string (mk t)) hrb
    have hbx2 := (heap_setCell_other w2 ⟨w.heap.size + 2, 5, none⟩ (w.heap.size + 1) (.string (mk t)) (by simp)).trans hbx
    have hbl2 := ext_set hbl (p := ⟨w.heap.size + 2, 5, none⟩) (by simp) (.string (mk t))
    obtain ⟨wf, hwf, hhf, hbf⟩ := six_store hbx2 hbl2 (by simp) ⟨26, 0, 0, 0, 0, t⟩
    obtain ⟨⟨d0, d1, d2, d3, d4, d5⟩, f0, f1, f2, f3, f4, f5⟩ := six_at hrb
    obtain ⟨⟨c0, c1, c2, c3, c4, c5⟩, g0, g1, g2', g3, g4, g5⟩ := six_at hbx
    have HWF := Lib.hid hwf
    have HHF := Lib.hid hhf
    have HBF := Lib.hid hbf
    clear hwf hhf hbf hrb hbx hbl hrb2 hbx2 hbl2 g2
    go_wp2_with fail
    refine bodyPost_world HWF.out ?_
    clear c0 c1 c2 c3 c4 c5 g0 g1 g2' g3 g4 g5 d0 d1 d2 d3 d4 d5 f0 f1 f2 f3 f4 f5
    obtain ⟨⟨c0, c1, c2, c3, c4, c5⟩, g0, g1, g2, g3, g4, g5⟩ := six_at HHF.out
    exact bodyPost_ret (v := inV ⟨26, 0, 0, 0, 0, t⟩) (by simp [results, Tryz.results13, go_sem, inV, c0, c1, c2, c3, c4, c5]) rfl ⟨by rw [HV.out]; rfl, HBF.out⟩
  · -- 26 < o
    have HV : Hid (X = ⟨o, 0, 0, 0, 0, []⟩) := Lib.hid (by
      rw [HXX.out]
      repeat (first | rw [if_pos (by omega)] | rw [if_neg (by omega)]))
    have HO := Lib.hid ho
    clear HXX
    go_enter Tryz.func13, Tryz.ntmps13
    go_wp2_with fail
    refine (p1.out _).mono ?_; rintro e w1 ⟨rfl, rfl⟩
    go_wp2_with fail
    refine (p2.out _).mono ?_; rintro e w1 ⟨rfl, rfl⟩
    go_wp2_with fail
    refine (p3.out _).mono ?_; rintro e w1 ⟨rfl, rfl⟩
    go_wp2_with fail
    refine (p4.out _).mono ?_; rintro e w1 ⟨rfl, rfl⟩
    go_wp2_with fail
    refine (p5.out _).mono ?_; rintro e w1 ⟨rfl, rfl⟩
    go_wp2_with fail
    exact bodyPost_ret (v := inV ⟨o, 0, 0, 0, 0, []⟩) (by simp [results, Tryz.results13, go_sem, inV]; rfl) rfl ⟨by rw [HV.out]; rfl, by repeat (first | exact Below.refl _ _ | (refine ext_alloc ?_ _) | (refine ext_drew ?_) | (refine ext_set ?_ (by simp) _))⟩
end Go.Proofs.YtlaihjefmhcmcaaGreatDoor
