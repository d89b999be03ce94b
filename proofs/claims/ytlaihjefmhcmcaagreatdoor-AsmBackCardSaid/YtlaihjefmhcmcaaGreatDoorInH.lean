/- An instruction is parsed. -/
import Derived.Test.YtlaihjefmhcmcaaGreatDoorRows
import Derived.WalkKit
import Derived.ProofKit
import Derived.OpenShut
import Derived.WalkLawsBesides
import Derived.WalkSpells
import Derived.Outline
import Derived.Handy
import Derived.Lib.Hide
import Derived.Lib.OthersKept
import Derived.KernelRfl
import Derived.Test.YtlaihjefmhcmcaaGreatDoorInF
import Derived.Test.YtlaihjefmhcmcaaGreatDoorInG
namespace Go.Proofs.YtlaihjefmhcmcaaGreatDoor
open Go.ChangeShapes Go.WideShapes Go.ChangeAt Go.RowKit
set_option linter.unusedVariables false
theorem atoiV_i (l : List UInt8) : I64 (atoiV l) := by
  unfold atoiV
  cases h : Lib.atoiAll l with
  | ok v => exact Lib.atoiAll_bounds h
  | «syntax» => exact ⟨by decide, by decide⟩
  | range => exact ⟨by decide, by decide⟩
theorem foldP_fits (L : Nat) : ∀ (h : List UInt8) (st : List UInt8 × In), st.1.length ≤ L → I64 st.2.n → st.2.name.length ≤ L → I64 (foldP h st).2.n ∧ (foldP h st).2.name.length ≤ L
  | [], st, _, h2, h3 => ⟨h2, h3⟩
  | c :: h, st, h1, h2, h3 => by
    show I64 (foldP h (stepP st c)).2.n ∧ (foldP h (stepP st c)).2.name.length ≤ L
    refine foldP_fits L h _ ?_ ?_ ?_
    · unfold stepP
      repeat' split
      all_goals (show (List.drop _ st.1).length ≤ L; rw [List.length_drop]; omega)
    · unfold stepP
      repeat' split
      all_goals first | exact h2 | exact atoiV_i _
    · unfold stepP
      repeat' split
      all_goals first | exact h3 | (show (List.take _ st.1).length ≤ L; rw [List.length_take]; omega)
theorem read_fits (l h : List UInt8) : I64 (readI l h).n ∧ (readI l h).name.length ≤ l.length :=
  foldP_fits l.length h (l, zeroI) (Nat.le_refl _) (show I64 0 from ⟨by decide, by decide⟩) (Nat.zero_le _)
theorem cut2_len (l : List UInt8) : (cut2 l).length ≤ l.length := by
  unfold cut2 Lib.cut
  split
  · show (List.drop _ l).length ≤ _; rw [List.length_drop]; omega
  · exact Nat.zero_le _
theorem cut_any (l : List UInt8) (hl : l.length ≤ 100000) (w : World) (hv : Env w) : Calls Tryz.prog 19 #[.string (mk l), .string ⟨#[32]⟩] w fun e w' => e = .returned (.tuple #[.string (mk (cut1 l)), .string (mk (cut2 l)), .bool (Lib.cut l [32]).2.2]) ∧ Below w.heap.size w w' := by
  obtain ⟨⟨m, hm⟩, _⟩ := hv
  refine (Tryz.strings_Cut (mk l) ⟨#[32]⟩ m w (by show l.length < _; omega) hm).mono ?_
  rintro e w' ⟨rfl, n, rfl⟩
  exact ⟨rfl, ext_drewN (Below.refl _ _) _⟩
theorem bodyPost_world {P : Program} {f : Func} {Q : Ending → World → Prop} {ex : Exit} {a : Act} {w w' : World} (h : w = w') (k : bodyPost P f Q ex a w') : bodyPost P f Q ex a w := by rw [h]; exact k
def ParseRes (l : List UInt8) (e : Ending) : Prop :=
  (∃ x, rightB x = true ∧ I64 x.n ∧ txtL x = l ∧ e = .returned (.tuple #[inV x, .int .i64 0])) ∨ ((∀ x, rightB x = true → I64 x.n → txtL x ≠ l) ∧ e = .returned (.tuple #[inV zeroI, .int .i64 60]))
set_option maxHeartbeats 8000000 in
set_option maxRecDepth 100000 in
theorem parse_any (l : List UInt8) (hl : l.length ≤ 100000) (w : World) (hv : Env w) : Calls Tryz.prog 45 #[.string (mk l)] w fun e w' => ParseRes l e ∧ Below w.heap.size w w' := by
  have HV := Lib.hid hv
  clear hv
  have hts : (mk l).toList = l := mk_tl l
  have HZ : ∀ o, Below w.heap.size w (w.alloc o) := fun o => ext_alloc (Below.refl _ _) o
  have HCUT := Lib.hid (cut_any l hl _ (HV.out.ext (HZ (.cells (inC zeroI) 46))))
  have HL2 := Lib.hid (cut2_len l)
  have HCT : Hid (∀ x, rightB x = true → txtL x = l → nmL x.op = cut1 l) := Lib.hid (fun x h e => by rw [← (cut_txt x (right_op h)).1, e])
  have HRB : Hid (∀ x, rightB x = true → I64 x.n → txtL x = l → { readI (cut2 l) (hasL x.op) with op := x.op } = x) := Lib.hid (fun x h hn e => by rw [← e]; exact read_back h hn)
  have hc1 : (mk (cut1 l)).toList = cut1 l := mk_tl _
  generalize (Lib.cut l [32]).2.2 = b6 at *
  generalize cut1 l = C1 at *
  generalize cut2 l = C2 at *
  clear HZ
  go_enter Tryz.func45, Tryz.ntmps45
  go_wp2_with fail
  refine HCUT.out.mono ?_; rintro e w1 ⟨rfl, g1⟩
  have hbx1 := Lib.hid ((g1.block w.heap.size (by simp)).trans (heap_new w (.cells (inC zeroI) 46)))
  have G1 := Lib.hid (ext_trans (ext_alloc (Below.refl w.heap.size w) (.cells (inC zeroI) 46)) g1)
  clear g1 HCUT
  go_wp2_with fail
  go_loopw [7] (fun v wr => ∃ k : Nat, v = .int .i64 k ∧ 1 ≤ k ∧ k ≤ 29 ∧ wr.heap[w.heap.size]? = some (.cells (inC zeroI) 46 (0, 0)) ∧ Below w.heap.size w wr ∧ (∀ x, rightB x = true → I64 x.n → txtL x = l → (k : Int) ≤ x.op)) (fun v wr => 29 - (match v with | .int _ k => k.toNat | _ => 0))
  case atStart => exact ⟨1, rfl, Nat.le_refl _, by decide, hbx1.out, G1.out, fun x h _ _ => (of_decide_eq_true (right_op h)).1⟩
  case round =>
    obtain ⟨k, rfl, hk1, hk2, hbx, hbl, hno⟩ := hrel
    have HNO := Lib.hid hno
    have HBX := Lib.hid hbx
    have HBL := Lib.hid hbl
    have hzr : w.heap.size < wr.heap.size := (Array.getElem?_eq_some_iff.1 hbx).1
    clear hno hbx hbl
    by_cases hk : k ≤ 28
    · have hop : isOp (k : Int) = true := decide_eq_true (by omega)
      have HF := Lib.hid (fun w => form_any (k : Int) w)
      rw [hop] at HF
      unfold formV at HF
      have HAS := has_any (k : Int)
      have hn1 : (mk (nmL (k : Int))).toList = nmL (k : Int) := mk_tl _
      have HNM : Hid (∀ x, rightB x = true → x.op = (k : Int) → txtL x = l → nmL (k : Int) = C1) := Lib.hid (fun x h e t => by rw [← e]; exact HCT.out x h t)
      have HRK : Hid (∀ x, rightB x = true → I64 x.n → x.op = (k : Int) → txtL x = l → { readI C2 (hasL (k : Int)) with op := (k : Int) } = x) := Lib.hid (fun x h hn e t => by rw [← e]; exact HRB.out x h hn t)
      have HNEXT : Hid ((∀ x, rightB x = true → I64 x.n → txtL x = l → x.op ≠ (k : Int)) → ∀ x, rightB x = true → I64 x.n → txtL x = l → ((k + 1 : Nat) : Int) ≤ x.op) := Lib.hid (fun h x h1 h2 h3 => by have := HNO.out x h1 h2 h3; have := h x h1 h2 h3; omega)
      clear hop
      generalize nmL (k : Int) = NM at *
      generalize hasL (k : Int) = H at *
      go_wp2_with fail
      refine (HF.out _).mono ?_; rintro e w2 ⟨rfl, g2⟩
      have HBX2 := Lib.hid ((g2.block w.heap.size hzr).trans HBX.out)
      have HBL2 := Lib.hid (ext_trans HBL.out g2)
      have hz2 : w.heap.size < w2.heap.size := by have := g2.size; omega
      clear g2 HBX HBL HF
      by_cases hnm : NM = C1
      · subst hnm
        have HE3 := Lib.hid (HV.out.ext (ext_alloc HBL2.out (.cells #[.string (mk NM), .string (mk H)] 75)))
        have HRD := Lib.hid (read_any C2 H (by have := HL2.out; omega) HAS.2 HAS.1 _ HE3.out)
        have HFI := Lib.hid (read_fits C2 H)
        go_wp2_with fail
        refine HRD.out.mono ?_; rintro e w3 ⟨rfl, g3⟩
        have HBX3 := Lib.hid ((g3.block w.heap.size (by simp; omega)).trans ((Lib.alloc_old _ _ _ hz2).trans HBX2.out))
        have HBL3 := Lib.hid (ext_trans (ext_alloc HBL2.out (.cells #[.string (mk NM), .string (mk H)] 75)) g3)
        have hz3 : w.heap.size < w3.heap.size := by have := g3.size; simp at this; omega
        clear g3 HRD HE3 HBX2 HBL2
        obtain ⟨y, hy⟩ : ∃ y : In, { readI C2 H with op := (k : Int) } = y := ⟨_, rfl⟩
        have hyv : inV (readI C2 H) = .agg #[.int .i64 (readI C2 H).op, .int .i64 y.d, .int .i64 y.a, .int .i64 y.b, .int .i64 y.n, .string (mk y.name)] := by rw [← hy]; rfl
        have hyo : y.op = (k : Int) := by rw [← hy]
        have hyn : I64 y.n := by rw [← hy]; exact HFI.out.1
        have hyl : y.name.length ≤ 140737488355328 := by rw [← hy]; have := HFI.out.2; have := HL2.out; show (readI C2 H).name.length ≤ _; omega
        rw [hy] at HRK
        have HYL := Lib.hid hyl
        have HYN := Lib.hid hyn
        have HY := Lib.hid hy
        have HYO := Lib.hid hyo
        clear hy hyn hyl
        rw [hyv]
        generalize (readI C2 H).op = o0 at *
        clear hyv hyo
        have HIV : Hid (inV y = .agg #[.int .i64 (k : Int), .int .i64 y.d, .int .i64 y.a, .int .i64 y.b, .int .i64 y.n, .string (mk y.name)]) := Lib.hid (by rw [← HYO.out]; rfl)
        have HE4 := Lib.hid (HV.out.ext (ext_alloc HBL3.out (.cells #[.int .i64 (k : Int), .int .i64 y.d, .int .i64 y.a, .int .i64 y.b, .int .i64 y.n, .string (mk y.name)] 46)))
        cases hr : rightB y
        · have HPN := Lib.hid (fun w => print_no y w HYL.out hr)
          rw [HIV.out] at HPN
          have HN2 : Hid (∀ x, rightB x = true → I64 x.n → txtL x = l → x.op ≠ (k : Int)) := Lib.hid (fun x h1 h2 h3 e => by
            have := HRK.out x h1 h2 e h3
            rw [this, h1] at hr; cases hr)
          clear hr
          go_wp2_with fail
          refine (HPN.out _).mono ?_; rintro e w4 ⟨rfl, g4⟩
          go_wp2_with fail
          go_roundw
          case rel => exact ⟨k + 1, rfl, by omega, by omega, (g4.block w.heap.size (by simp; omega)).trans ((Lib.alloc_old _ _ _ hz3).trans HBX3.out), ext_trans (ext_alloc HBL3.out _) g4, HNEXT.out HN2.out⟩
          case measure => simp; omega
        · have HPY := Lib.hid (fun w hv => print_yes y w HYN.out hr hv)
          rw [HIV.out] at HPY
          have HR := Lib.hid hr
          clear hr
          have ht2 : (mk (txtL y)).toList = txtL y := mk_tl _
          by_cases hty : txtL y = l
          · have HTY := Lib.hid hty
            have HGOOD : Hid (ParseRes l (.returned (.tuple #[inV y, .int .i64 0]))) := Lib.hid (.inl ⟨y, HR.out, HYN.out, hty, rfl⟩)
            rw [hty] at HPY ht2
            clear hty
            go_wp2_with fail
            refine (HPY.out _ HE4.out).mono ?_; rintro e w4 ⟨rfl, g4⟩
            have hrb4 := (g4.block w3.heap.size (by simp)).trans (heap_new w3 _)
            have hbx4 := (g4.block w.heap.size (by simp; omega)).trans ((Lib.alloc_old _ _ _ hz3).trans HBX3.out)
            have hbl4 := ext_trans (ext_alloc HBL3.out _) g4
            obtain ⟨⟨d0, d1, d2, d3, d4, d5⟩, f0, f1, f2, f3, f4, f5⟩ := six_at hrb4
            obtain ⟨⟨c0, c1, c2, c3, c4, c5⟩, g0, g1, g2, g3, g4', g5⟩ := six_at hbx4
            obtain ⟨wf, hwf, hhf, hbf⟩ := six_store hbx4 hbl4 (Nat.le_refl _) y
            rw [HYO.out] at hwf
            have HWF := Lib.hid hwf
            have HHF := Lib.hid hhf
            have HBF := Lib.hid hbf
            clear hwf hhf hbf hrb4 hbx4 hbl4 g4
            go_wp2_with fail
            rw [HWF.out]
            clear c0 c1 c2 c3 c4 c5 g0 g1 g2 g3 g4' g5 d0 d1 d2 d3 d4 d5 f0 f1 f2 f3 f4 f5
            obtain ⟨⟨c0, c1, c2, c3, c4, c5⟩, g0, g1, g2, g3, g4, g5⟩ := six_at HHF.out
            exact bodyPost_ret (v := .tuple #[inV y, .int .i64 0]) (by simp [results, Tryz.results45, go_sem, inV, c0, c1, c2, c3, c4, c5]) rfl ⟨HGOOD.out, HBF.out⟩
          · have HN2 : Hid (∀ x, rightB x = true → I64 x.n → txtL x = l → x.op ≠ (k : Int)) := Lib.hid (fun x h1 h2 h3 e => by
              have := HRK.out x h1 h2 e h3
              rw [← this] at h3; exact hty h3)
            have hbe : (txtL y == l) = false := beq_eq_false_iff_ne.2 hty
            generalize txtL y = T at *
            clear hty
            go_wp2_with fail
            refine (HPY.out _ HE4.out).mono ?_; rintro e w4 ⟨rfl, g4⟩
            go_wp2_with fail
            go_roundw
            case rel => exact ⟨k + 1, rfl, by omega, by omega, (g4.block w.heap.size (by simp; omega)).trans ((Lib.alloc_old _ _ _ hz3).trans HBX3.out), ext_trans (ext_alloc HBL3.out _) g4, HNEXT.out HN2.out⟩
            case measure => simp; omega
      · have HN2 : Hid (∀ x, rightB x = true → I64 x.n → txtL x = l → x.op ≠ (k : Int)) := Lib.hid (fun x h1 h2 h3 e => hnm (HNM.out x h1 e h3))
        have hbe : (NM == C1) = false := beq_eq_false_iff_ne.2 hnm
        clear hnm
        go_wp2_with fail
        go_roundw
        case rel => exact ⟨k + 1, rfl, by omega, by omega, (Lib.alloc_old _ _ _ hz2).trans HBX2.out, ext_alloc HBL2.out _, HNEXT.out HN2.out⟩
        case measure => simp; omega
    · obtain rfl : k = 29 := by omega
      have HBAD : Hid (ParseRes l (.returned (.tuple #[inV zeroI, .int .i64 60]))) := Lib.hid (.inr ⟨fun x h1 h2 h3 => by have := HNO.out x h1 h2 h3; have := (of_decide_eq_true (right_op h1)).2; omega, rfl⟩)
      obtain ⟨⟨c0, c1, c2, c3, c4, c5⟩, g0, g1, g2, g3, g4, g5⟩ := six_at HBX.out
      obtain ⟨wf, hwf, hhf, hbf⟩ := six_store HBX.out HBL.out (Nat.le_refl _) zeroI
      have HWF := Lib.hid hwf
      have HHF := Lib.hid hhf
      have HBF := Lib.hid hbf
      clear hwf hhf hbf
      go_wp2_with fail
      refine bodyPost_world HWF.out ?_
      clear c0 c1 c2 c3 c4 c5 g0 g1 g2 g3 g4 g5
      obtain ⟨⟨c0, c1, c2, c3, c4, c5⟩, g0, g1, g2, g3, g4, g5⟩ := six_at HHF.out
      exact bodyPost_ret (v := .tuple #[inV zeroI, .int .i64 60]) (by simp [results, Tryz.results45, go_sem, inV, c0, c1, c2, c3, c4, c5]) rfl ⟨HBAD.out, HBF.out⟩
end Go.Proofs.YtlaihjefmhcmcaaGreatDoor
