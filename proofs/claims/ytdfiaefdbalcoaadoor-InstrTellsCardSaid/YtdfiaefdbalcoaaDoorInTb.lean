/- The document's own answer: what may be. -/
import Derived.Test.YtdfiaefdbalcoaaDoorRows
import Derived.WalkKit
import Derived.ProofKit
import Derived.OpenShut
import Derived.WalkLawsBesides
import Derived.WalkSpells
import Derived.Outline
import Derived.Handy
import Derived.Lib.Hide
import Derived.Lib.OthersKept
import Derived.KernelRfl
import Derived.Test.YtdfiaefdbalcoaaDoorInTa
import Derived.Test.YtdfiaefdbalcoaaDoorInTl
namespace Go.Proofs.YtdfiaefdbalcoaaDoor
open Go.ChangeShapes Go.WideShapes Go.ChangeAt Go.RowKit
set_option linter.unusedVariables false
theorem in_ext {y x : In} (h0 : y.op = x.op) (h1 : y.d = x.d) (h2 : y.a = x.a) (h3 : y.b = x.b) (h4 : y.n = x.n) (h5 : y.name = x.name) : y = x := by
  cases y; cases x; simp_all
theorem rfold_drop (x : In) (l : List UInt8) (i : Nat) (h : i < l.length) (o : In) : rfold x (l.drop i) o = match rstep x o (l[i]'h) with | some o' => rfold x (l.drop (i + 1)) o' | none => none := by
  rw [drop_at l i h]; rfl
set_option maxHeartbeats 16000000 in
set_option maxRecDepth 100000 in
theorem rright_any (x : In) (w : World) (hl : x.name.length ≤ 140737488355328) : Calls Tryd.prog 14 #[inV x] w fun e w' => e = .returned (.bool (rightB x)) ∧ Below w.heap.size w w' := by
  have HF := Lib.hid (fun w => rform_any x.op w)
  have HAS := has_any x.op
  have hR : Hid (rightB x = (isOp x.op && match rfold x (hasL x.op) ⟨x.op, 0, 0, 0, 0, []⟩ with | some o => decide (o = x) && regB x.d && regB x.a && regB x.b | none => false)) := Lib.hid (rright_eq x).symm
  have HLAB := Lib.hid (fun w => rlabel_any x.name w hl)
  have hnm : isOp x.op = !(nmL x.op).isEmpty := by
    cases h : isOp x.op
    · have : nmL x.op = [] := by unfold nmL; rw [h]; rfl
      rw [this]; rfl
    · have := (nm_len h).1
      cases hn : nmL x.op with
      | nil => rw [hn] at this; simp at this
      | cons a r => rfl
  have HB0 := Lib.hid (fun (w1 : World) (g : Below (w.alloc (.cells (inC x) 23)).heap.size (w.alloc (.cells (inC x) 23)) w1) => (g.block w.heap.size (by simp)).trans (heap_new w (.cells (inC x) 23)))
  unfold rformV at HF
  unfold inV
  generalize hasL x.op = H at *
  generalize isOp x.op = b0 at *
  generalize nmL x.op = NM at *
  have tn : (mk NM).toList = NM := mk_tl NM
  cases NM with
  | nil =>
    have HT : Hid (rightB x = false) := Lib.hid (by rw [hR.out, hnm]; rfl)
    go_enter Tryd.func14, Tryd.ntmps14
    go_wp2_with fail
    refine (HF.out _).mono ?_; rintro e w1 ⟨rfl, g1⟩
    go_wp2_with fail
    go_ret
    exact ⟨by rw [HT.out]; rfl, ext_trans (ext_alloc (Below.refl _ _) _) g1⟩
  | cons n0 NR =>
    have hb0 : b0 = true := hnm
    subst hb0
    rw [Bool.true_and] at hR
    clear hnm
    have hnb : ((n0 :: NR) == ([] : List UInt8)) = false := rfl
    go_enter Tryd.func14, Tryd.ntmps14
    go_wp2_with fail
    refine (HF.out _).mono ?_; rintro e w1 ⟨rfl, g1⟩
    have hB := HB0.out _ g1
    have hz : w.heap.size < w1.heap.size := (Array.getElem?_eq_some_iff.1 hB).1
    obtain ⟨⟨c0, c1, c2, c3, c4, c5⟩, f0, f1, f2, f3, f4, f5⟩ := six_at hB
    have G1 : Below w.heap.size w w1 := ext_trans (ext_alloc (Below.refl _ _) _) g1
    have HB := Lib.hid hB
    clear hB g1
    go_wp2_with fail
    clear c0 c1 c2 c3 c4 c5 f0 f1 f2 f3 f4 f5
    have hHs : (mk H).size = H.length := rfl
    go_loopw [6] (fun iv wr => ∃ (pos : Nat) (y : In), iv = .int .i64 pos ∧ pos ≤ H.length ∧ wr.heap[w1.heap.size]? = some (.cells (inC y) 23 (0, 0)) ∧
        wr.heap[w.heap.size]? = some (.cells (inC x) 23 (0, 0)) ∧ Below w.heap.size w wr ∧ rfold x (H.drop pos) y = rfold x H ⟨x.op, 0, 0, 0, 0, []⟩) (fun iv wr => H.length - (match iv with | .int _ x => x.toNat | _ => 0))
    case atStart =>
      exact ⟨0, ⟨x.op, 0, 0, 0, 0, []⟩, rfl, Nat.zero_le _, heap_new w1 _, (Lib.alloc_old _ _ _ hz).trans HB.out, ext_alloc G1 _, rfl⟩
    case round =>
      obtain ⟨pos, y, rfl, hp, hrb, hbx, hbl, hfo⟩ := hrel
      have HFO := Lib.hid hfo
      clear hfo
      obtain ⟨⟨c0, c1, c2, c3, c4, c5⟩, g0, g1, g2, g3, g4, g5⟩ := six_at hbx
      obtain ⟨⟨d0, d1, d2, d3, d4, d5⟩, f0, f1, f2, f3, f4, f5⟩ := six_at hrb
      have HRB := Lib.hid hrb
      have HBX := Lib.hid hbx
      have HBL := Lib.hid hbl
      clear hrb hbx hbl
      by_cases hlt : pos < H.length
      · have h' : pos < (mk H).size := hlt
        have hst := Lib.hid (fun o => rfold_drop x H pos hlt o)
        have hg : ((mk H)[pos]'h').toNat = (H[pos]'hlt).toNat := rfl
        generalize H[pos]'hlt = c at *
        by_cases h68 : c = 68
        · subst h68
          have hg : ((mk H)[pos]'h').toNat = 68 := hg
          go_wp2_with fail
          go_roundw
          case rel => exact ⟨pos + 1, { y with d := x.d }, rfl, by omega, (heap_setCell_same _ _ 1 _ _ _ HRB.out).trans rfl, (heap_setCell_other _ _ _ _ (by simp; omega)).trans HBX.out, ext_set HBL.out (by simp; omega) _, by rw [← HFO.out, hst.out]; rfl⟩
          case measure => simp; omega
        by_cases h65 : c = 65
        · subst h65
          have hg : ((mk H)[pos]'h').toNat = 65 := hg
          go_wp2_with fail
          go_roundw
          case rel => exact ⟨pos + 1, { y with a := x.a }, rfl, by omega, (heap_setCell_same _ _ 2 _ _ _ HRB.out).trans rfl, (heap_setCell_other _ _ _ _ (by simp; omega)).trans HBX.out, ext_set HBL.out (by simp; omega) _, by rw [← HFO.out, hst.out]; rfl⟩
          case measure => simp; omega
        by_cases h66 : c = 66
        · subst h66
          have hg : ((mk H)[pos]'h').toNat = 66 := hg
          go_wp2_with fail
          go_roundw
          case rel => exact ⟨pos + 1, { y with b := x.b }, rfl, by omega, (heap_setCell_same _ _ 3 _ _ _ HRB.out).trans rfl, (heap_setCell_other _ _ _ _ (by simp; omega)).trans HBX.out, ext_set HBL.out (by simp; omega) _, by rw [← HFO.out, hst.out]; rfl⟩
          case measure => simp; omega
        by_cases h78 : c = 78
        · subst h78
          have hg : ((mk H)[pos]'h').toNat = 78 := hg
          go_wp2_with fail
          go_roundw
          case rel => exact ⟨pos + 1, { y with n := x.n }, rfl, by omega, (heap_setCell_same _ _ 4 _ _ _ HRB.out).trans rfl, (heap_setCell_other _ _ _ _ (by simp; omega)).trans HBX.out, ext_set HBL.out (by simp; omega) _, by rw [← HFO.out, hst.out]; rfl⟩
          case measure => simp; omega
        by_cases h83 : c = 83
        · subst h83
          have hg : ((mk H)[pos]'h').toNat = 83 := hg
          by_cases n1 : x.n < -2047
          · have HS : Hid (rightB x = false) := Lib.hid (by
              have e : smallB x.n = false := decide_eq_false (by omega)
              rw [hR.out, ← HFO.out, hst.out, show rstep x y 83 = none from by unfold rstep; rw [if_neg (by decide), if_neg (by decide), if_neg (by decide), if_neg (by decide), if_pos rfl, e]; rfl])
            go_wp2_with fail
            go_ret
            exact ⟨by rw [HS.out]; rfl, ext_set HBL.out (by simp; omega) _⟩
          · by_cases n2 : 2047 < x.n
            · have HS : Hid (rightB x = false) := Lib.hid (by
                have e : smallB x.n = false := decide_eq_false (by omega)
                rw [hR.out, ← HFO.out, hst.out, show rstep x y 83 = none from by unfold rstep; rw [if_neg (by decide), if_neg (by decide), if_neg (by decide), if_neg (by decide), if_pos rfl, e]; rfl])
              go_wp2_with fail
              go_ret
              exact ⟨by rw [HS.out]; rfl, ext_set HBL.out (by simp; omega) _⟩
            · have HS : Hid (rstep x y 83 = some { y with n := x.n }) := Lib.hid (by
                have e : smallB x.n = true := decide_eq_true (by omega)
                unfold rstep; rw [if_neg (by decide), if_neg (by decide), if_neg (by decide), if_neg (by decide), if_pos rfl, e]; rfl)
              go_wp2_with fail
              go_roundw
              case rel => exact ⟨pos + 1, { y with n := x.n }, rfl, by omega, (heap_setCell_same _ _ 4 _ _ _ HRB.out).trans rfl, (heap_setCell_other _ _ _ _ (by simp; omega)).trans HBX.out, ext_set HBL.out (by simp; omega) _, by rw [← HFO.out, hst.out, HS.out]⟩
              case measure => simp; omega
        by_cases h76 : c = 76
        · subst h76
          have hg : ((mk H)[pos]'h').toNat = 76 := hg
          cases hlb : labelB x.name
          · have HS : Hid (rightB x = false) := Lib.hid (by
              rw [hR.out, ← HFO.out, hst.out, show rstep x y 76 = none from by unfold rstep; rw [if_neg (by decide), if_neg (by decide), if_neg (by decide), if_neg (by decide), if_neg (by decide), if_pos rfl, hlb]; rfl])
            rw [hlb] at HLAB
            clear hlb
            go_wp2_with fail
            refine (HLAB.out _).mono ?_; rintro e w2 ⟨rfl, rfl⟩
            go_wp2_with fail
            go_ret
            exact ⟨by rw [HS.out]; rfl, ext_set HBL.out (by simp; omega) _⟩
          · have HS : Hid (rstep x y 76 = some { y with name := x.name }) := Lib.hid (by
              unfold rstep; rw [if_neg (by decide), if_neg (by decide), if_neg (by decide), if_neg (by decide), if_neg (by decide), if_pos rfl, hlb]; rfl)
            rw [hlb] at HLAB
            clear hlb
            go_wp2_with fail
            refine (HLAB.out _).mono ?_; rintro e w2 ⟨rfl, rfl⟩
            go_wp2_with fail
            go_roundw
            case rel => exact ⟨pos + 1, { y with name := x.name }, rfl, by omega, (heap_setCell_same _ _ 5 _ _ _ HRB.out).trans rfl, (heap_setCell_other _ _ _ _ (by simp; omega)).trans HBX.out, ext_set HBL.out (by simp; omega) _, by rw [← HFO.out, hst.out, HS.out]⟩
            case measure => simp; omega
        have e68 := byte_ne (k := 68) (by decide) h68
        have e65 := byte_ne (k := 65) (by decide) h65
        have e66 := byte_ne (k := 66) (by decide) h66
        have e78 := byte_ne (k := 78) (by decide) h78
        have e83 := byte_ne (k := 83) (by decide) h83
        have e76 := byte_ne (k := 76) (by decide) h76
        have HSTO : Hid (rstep x y c = some y) := Lib.hid (by unfold rstep; rw [if_neg h68, if_neg h65, if_neg h66, if_neg h78, if_neg h83, if_neg h76])
        clear h68 h65 h66 h78 h83 h76
        rw [← hg] at e68 e65 e66 e78 e83 e76
        clear hg
        have e68 : ((((mk H)[pos]'h').toNat : Int) == 68) = false := e68
        have e65 : ((((mk H)[pos]'h').toNat : Int) == 65) = false := e65
        have e66 : ((((mk H)[pos]'h').toNat : Int) == 66) = false := e66
        have e78 : ((((mk H)[pos]'h').toNat : Int) == 78) = false := e78
        have e83 : ((((mk H)[pos]'h').toNat : Int) == 83) = false := e83
        have e76 : ((((mk H)[pos]'h').toNat : Int) == 76) = false := e76
        go_wp2_with fail
        go_roundw
        case rel => exact ⟨pos + 1, y, rfl, by omega, HRB.out, HBX.out, HBL.out, by rw [← HFO.out, hst.out, HSTO.out]⟩
        case measure => simp; omega
      · have HR2 : Hid (rightB x = (decide (y = x) && regB x.d && regB x.a && regB x.b)) := Lib.hid (by
          rw [hR.out, ← HFO.out, List.drop_eq_nil_of_le (by omega)]; rfl)
        have ty : (mk y.name).toList = y.name := mk_tl _
        have tx : (mk x.name).toList = x.name := mk_tl _
        by_cases hyx : y = x
        · subst hyx
          have hrg : ((regB y.d = true ∧ 0 ≤ y.d ∧ y.d < 32) ∨ (regB y.d = false ∧ (y.d < 0 ∨ 32 ≤ y.d))) ∧ ((regB y.a = true ∧ 0 ≤ y.a ∧ y.a < 32) ∨ (regB y.a = false ∧ (y.a < 0 ∨ 32 ≤ y.a))) ∧ ((regB y.b = true ∧ 0 ≤ y.b ∧ y.b < 32) ∨ (regB y.b = false ∧ (y.b < 0 ∨ 32 ≤ y.b))) := by
            unfold regB; simp only [decide_eq_true_iff, decide_eq_false_iff_not]; omega
          have HR3 : Hid (rightB y = (regB y.d && regB y.a && regB y.b)) := Lib.hid (by rw [HR2.out]; simp)
          clear HR2
          obtain ⟨k1, k2, k3⟩ := hrg
          rcases k1 with ⟨r1, s1, s1'⟩ | ⟨r1, s1 | s1⟩
          · rcases k2 with ⟨r2, s2, s2'⟩ | ⟨r2, s2 | s2⟩
            · rcases k3 with ⟨r3, s3, s3'⟩ | ⟨r3, s3 | s3⟩
              all_goals
                have HR4 := Lib.hid HR3.out
                rw [r1, r2, r3] at HR4
                clear r1 r2 r3 HR3
                go_wp2_with fail
                go_ret
                exact ⟨by
                  rw [HR4.out]
                  first
                    | rfl
                    | (show Ending.returned (.bool (decide (y.b < 32))) = .returned (.bool false)
                       rw [decide_eq_false (by omega)]), HBL.out⟩
            all_goals
              have HR4 : Hid (rightB y = false) := Lib.hid (by rw [HR3.out, r1, r2]; rfl)
              clear r1 r2 HR3 k3
              go_wp2_with fail
              go_ret
              exact ⟨by rw [HR4.out]; rfl, HBL.out⟩
          all_goals
            have HR4 : Hid (rightB y = false) := Lib.hid (by rw [HR3.out, r1]; rfl)
            clear r1 HR3 k2 k3
            go_wp2_with fail
            go_ret
            exact ⟨by rw [HR4.out]; rfl, HBL.out⟩
        · have HNE := Lib.hid hyx
          have HR3 : Hid (rightB x = false) := Lib.hid (by rw [HR2.out, decide_eq_false hyx]; rfl)
          clear HR2 hyx
          go_wp2_with fail
          all_goals first
            | (go_ret; exact ⟨by rw [HR3.out]; rfl, HBL.out⟩)
            | exact absurd (in_ext ‹_› ‹_› ‹_› ‹_› ‹_› ‹_›) HNE.out
end Go.Proofs.YtdfiaefdbalcoaaDoor
