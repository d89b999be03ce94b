/- The walk of AsmBack. -/
import Derived.Test.YtlaihjefmhcmcaaGreatDoorRows
import Derived.WalkKit
import Derived.ProofKit
import Derived.OpenShut
import Derived.WalkLawsBesides
import Derived.WalkSpells
import Derived.Outline
import Derived.Handy
import Derived.Lib.Hide
import Derived.Lib.OthersKept
import Derived.KernelRfl
import Derived.Carry
import Derived.OwnWalk
import Derived.RegionTactic
import Derived.BigRegion
import Derived.BigQuiet
import Derived.Deep.QuietTactic
import Derived.Test.YtlaihjefmhcmcaaGreatDoorAs12
import Derived.Test.YtlaihjefmhcmcaaGreatDoorAs9
import Derived.Test.YtlaihjefmhcmcaaGreatDoorAsP
import Derived.Test.YtlaihjefmhcmcaaGreatDoorAsF
import Derived.Test.YtlaihjefmhcmcaaGreatDoorAsAw
import Derived.Test.YtlaihjefmhcmcaaGreatDoorArgL
namespace Go.Proofs.YtlaihjefmhcmcaaGreatDoor
open Go.ChangeShapes Go.WideShapes Go.ChangeAt Go.RowKit
set_option linter.unusedVariables false
section
variable {H : Type} {enc : TypeId × Value → H} {W : World} {base : Nat} {sp : Nat → Bool} {held : Bool} {v : Value} {d : DataW H} {ps : List MemPlace} {b0 : Nat}
set_option maxRecDepth 100000 in
theorem open_nums (hv : Value.okWide Tryz.prog W .any b0 23 v) (h : DataW.Trod enc Tryz.prog W base sp held 23 v d ps) : ∃ L, NumsAt W v L ∧ (∀ x ∈ L, I64 x) := by
  obtain ⟨a0, len, cap, rfl⟩ := okWide_slice Tryz.underlying23 hv
  obtain ⟨fuel, hf⟩ := h
  have hml : maxLen = 9223372036854775807 := by unfold maxLen; decide
  rcases open_ints Tryz.underlying23 Tryz.underlying3 cInt hf with ⟨hcs, _⟩ | ⟨a, len', cap', zs, hcs, _, hl, hm, hz, _, hcell, hwz⟩
  · simp [Value.cells] at hcs
    obtain ⟨rfl, rfl, rfl⟩ := hcs
    exact ⟨[], ⟨by simp, _, _, rfl, fun i hi => by cases hi⟩, fun x hx => by cases hx⟩
  · simp [Value.cells] at hcs
    obtain ⟨rfl, rfl, rfl⟩ := hcs
    have hlen : len ≤ zs.length := by rw [hz]; split <;> omega
    have htl : (zs.take len).length = len := by rw [List.length_take]; omega
    refine ⟨zs.take len, ⟨by omega, some a, cap, by rw [htl], fun i hi => ⟨a, rfl, ?_⟩⟩, fun x hx => bounds_i64 (hwz x (List.mem_of_mem_take hx))⟩
    have hi' : i < zs.length := by omega
    rw [hcell i hi', List.getElem_take, List.getD_eq_getElem?_getD, List.getElem?_eq_getElem hi']; rfl
end
theorem pick8_any (c n : Int) (w : World) (h1 : I64 c) (h3 : 0 < n) :
    Calls Tryz.prog 8 #[.int .i64 c, .int .i64 n] w fun e w' => e = .returned (.int .i64 (pickN c n)) ∧ w = w' := by
  obtain ⟨h1, h2⟩ := h1
  have hn : (n == 0) = false := by simpa using (show n ≠ 0 by omega)
  by_cases h : c < 0
  · have e : pickN c n = -((c + 1).tmod n) := by rw [pickN, if_pos h, ← Int.neg_tmod, Int.tmod_eq_emod_of_nonneg (by omega)]
    have E := Lib.hid e; clear e
    go_enter Tryz.func8, Tryz.ntmps8
    go_wp2
    go_ret
    exact ⟨by rw [E.out]; rfl, rfl⟩
  · have e : pickN c n = c % n := by simp [pickN, h]
    have E := Lib.hid e; clear e
    go_enter Tryz.func8, Tryz.ntmps8
    go_wp2
    go_ret
    exact ⟨by rw [E.out]; rfl, rfl⟩
theorem cut_mk (l : List UInt8) (i : Nat) (h : i < l.length) : (mk l).extract i (i + 1) = mk [l[i]'h] := by
  apply ByteArray.ext
  apply Array.toList_inj.1
  simp [mk]
  rw [List.drop_eq_getElem_cons h]
  rfl
theorem byte_at (T : List UInt8) (j : Nat) (h : j < T.length) (p : j < (mk T).size) : (mk T)[j]'p = T[j]'h := by
  have h2 : j < T.toArray.size := by simpa using h
  show T.toArray[j]'h2 = _
  simp
def CodeAt (w : World) (B : Nat) (va vl : Value) (c : Cd) : Prop := w.heap[B]? = some (.cells #[va, vl] 27 (0, 0)) ∧ CdAt w (.agg #[va, vl]) c
theorem CodeAt.ext {w w' : World} {B : Nat} {va vl : Value} {c : Cd} (h : CodeAt w B va vl c) (g : Below w.heap.size w w') : CodeAt w' B va vl c :=
  ⟨(g.block _ (Array.getElem?_eq_some_iff.1 h.1).1).trans h.1, h.2.ext g⟩
theorem CodeAt.lt {w : World} {B : Nat} {va vl : Value} {c : Cd} (h : CodeAt w B va vl c) : B < w.heap.size := (Array.getElem?_eq_some_iff.1 h.1).1
/-- Which of the six ends each line has. -/
def bsN (bl : List Int) (k : Nat) : Nat := if k < bl.length then (pickN (bl.getD k 0) 6).toNat else 0
set_option maxHeartbeats 8000000 in
set_option maxRecDepth 100000 in
theorem back_walk (rv : Value) (raw : List Ln) (bv : Value) (bl : List Int) (w : World) (h : LnsAt w rv raw) (hr : AllRaw raw) (h2 : NumsAt w bv bl) (h64 : ∀ x ∈ bl, I64 x) (hv : Env w) : Calls Tryz.prog 3 #[rv, bv] w fun e w' => e = .returned (.bool true) ∧ Below w.heap.size w w' := by
  have HV := Lib.hid hv
  have HAW := Lib.hid (awake8_any w hv)
  have HF1 := Lib.hid (fun w' (g : Below w.heap.size w w') => lawfit_any rv raw w' (h.ext g) hr)
  have hml := fitC_len raw hr
  have HFT := Lib.hid (fitC_fit raw hr)
  have HOK := Lib.hid (fitC_ok raw hr)
  have HN : Hid (∀ l ∈ (fitC raw).lines, I64 l.ins.n) := Lib.hid (fun l hl => by
    obtain ⟨i, hi, rfl⟩ := List.getElem_of_mem hl
    exact (fitC_lines raw hr i hi).2)
  have HTX := Lib.hid (fitC_txt raw hr)
  have HAR : Hid ((fitC raw).arrays = arrsAB) := Lib.hid (fitC_arrs raw)
  have HPC : Hid (parseL (cdTxt (fitC raw)) = (fitC raw, 0, 0)) := Lib.hid (parse_cd HOK.out HN.out)
  have HPS : Hid (parseL (spreadL (bsN bl) (cdTxt (fitC raw)) 0) = (fitC raw, 0, 0)) := Lib.hid (parse_spread HOK.out HN.out (bsN bl))
  have hsl := spread_len HOK.out HN.out (bsN bl)
  have har2 : (fitC raw).arrays.length = 2 := by rw [HAR.out]; rfl
  have H64 := Lib.hid h64
  obtain ⟨hn, p, cap, rfl, _⟩ := h
  obtain ⟨hn2, p', cap', rfl, hbl⟩ := h2
  have HBL := Lib.hid hbl
  clear hr hv h64 hbl
  generalize fitC raw = c at *
  have hws : (spreadL (bsN bl) (cdTxt c) 0).length ≤ 100000 := by have := HTX.out; omega
  have htx := HTX.out
  clear hsl har2
  go_enter Tryz.func3, Tryz.ntmps3
  go_wp2_with fail
  refine HAW.out.mono ?_; rintro e w1 ⟨rfl, g1⟩
  have G1 := Lib.hid g1
  clear g1
  go_wp2_with fail
  refine (HF1.out _ G1.out).mono ?_; rintro e w2 ⟨hres, g2⟩
  obtain ⟨pa, ca, pl, cl, rfl, ha, hl⟩ := hres.shape
  obtain ⟨wA, hwA⟩ : ∃ wA, w2.alloc (.cells #[.slice pa 2 ca, .slice pl c.lines.length cl] 27) = wA := ⟨_, rfl⟩
  have X2 : Below w2.heap.size w2 wA := by rw [← hwA]; exact ext_alloc (Below.refl _ _) _
  have CA := Lib.hid (show CodeAt wA w2.heap.size (.slice pa 2 ca) (.slice pl c.lines.length cl) c from ⟨by rw [← hwA]; exact heap_new w2 _, ⟨_, _, rfl, by rw [HAR.out]; exact row_ars (L := arrsAB) (own_ext ha X2) (by decide), row_lns (own_ext hl X2) (by omega), by rw [HAR.out]; decide, by omega⟩⟩)
  have GA := Lib.hid (ext_trans (ext_trans G1.out g2) X2)
  clear hres ha hl g2 X2
  have HPR := Lib.hid (aprint_yes _ c wA (HV.out.ext GA.out) CA.out.2 HFT.out (by rw [HOK.out]) (by omega) HN.out)
  obtain ⟨c0, c1⟩ := two_cells CA.out.1
  have zA := CA.out.lt
  go_wp2_with fail
  try rw [hwA]
  clear hwA c0 c1 zA
  refine HPR.out.mono ?_; rintro e w3 ⟨rfl, g3⟩
  have GB := Lib.hid (ext_trans GA.out g3)
  have CB := Lib.hid (CA.out.ext g3)
  clear g3 HPR CA
  have s1 := aparse_any (cdTxt c) (by omega) w3 (HV.out.ext GB.out)
  unfold AParse at s1
  rw [HPC.out] at s1
  have S1 := Lib.hid s1
  clear s1
  generalize hS : cdTxt c = S at *
  clear hS
  go_wp2_with fail
  refine S1.out.mono ?_; rintro e w4 ⟨⟨vd, rfl, hcd⟩, g4⟩
  obtain ⟨pa4, ca4, pl4, cl4, rfl⟩ := cd_shape hcd
  have la : c.arrays.length = 2 := by rw [HAR.out]; rfl
  rw [la] at hcd
  rw [la]
  clear la
  obtain ⟨wD, hwD⟩ : ∃ wD, w4.alloc (.cells #[.slice pa4 2 ca4, .slice pl4 c.lines.length cl4] 27) = wD := ⟨_, rfl⟩
  have X4 : Below w4.heap.size w4 wD := by rw [← hwD]; exact ext_alloc (Below.refl _ _) _
  have CD := Lib.hid (show CodeAt wD w4.heap.size (.slice pa4 2 ca4) (.slice pl4 c.lines.length cl4) c from ⟨by rw [← hwD]; exact heap_new w4 _, hcd.ext X4⟩)
  have CC := Lib.hid ((CB.out.ext g4).ext X4)
  have GD := Lib.hid (ext_trans (ext_trans GB.out g4) X4)
  clear hcd g4 X4 S1 CB
  obtain ⟨W, hW⟩ : ∃ W, spreadL (bsN bl) S 0 = W := ⟨_, rfl⟩
  have HW := Lib.hid hW
  rw [hW] at HPS hws
  clear hW
  have zS : (mk S).size = S.length := rfl
  go_wp2_with fail
  try rw [hwD]
  clear hwD
  go_loopw [12, 13, 14] (fun tv kv iv wr => ∃ (i k : Nat) (t : List UInt8), iv = .int .i64 i ∧ i ≤ S.length ∧ kv = .int .i64 k ∧ k ≤ i ∧ tv = .string (mk t) ∧ t ++ spreadL (bsN bl) (S.drop i) k = W ∧ Below wD.heap.size wD wr) (fun _ _ iv wr => S.length - slotN iv)
  case atStart => exact ⟨0, 0, [], rfl, Nat.zero_le _, rfl, Nat.le_refl _, rfl, by rw [List.drop_zero, List.nil_append]; exact HW.out, Below.refl _ _⟩
  case round =>
    obtain ⟨i, k, t, rfl, hi, rfl, hk, rfl, ht, hb⟩ := hrel
    have HB := Lib.hid hb
    have HT := Lib.hid ht
    have htl : t.length ≤ W.length := by rw [← ht]; simp
    clear hb ht
    by_cases h : i < S.length
    · have HCT : Hid (∀ q, (((mk S)[i]'q).toNat : Int) = ((S[i]'h).toNat : Int)) := Lib.hid (fun q => by rw [byte_at S i h q])
      have HEX : Hid ((mk S).extract i (i + 1) = mk [S[i]'h]) := Lib.hid (cut_mk S i h)
      have HDR := Lib.hid (List.drop_eq_getElem_cons h)
      generalize S[i]'h = cb at *
      have zt : (mk t).size = t.length := rfl
      have hz1 : ¬ 9223372036854775807 < t.length + 1 := by omega
      by_cases h10 : cb = 10
      · subst h10
        have hct : ∀ q, (((mk S)[i]'q).toNat : Int) = 10 := fun q => HCT.out q
        have HST : Hid ((t ++ endB (bsN bl k)) ++ spreadL (bsN bl) (S.drop (i + 1)) (k + 1) = W) := Lib.hid (by
          have := HT.out
          rw [HDR.out, spreadL, if_pos rfl] at this
          rw [List.append_assoc]
          exact this)
        clear HCT HEX
        by_cases hkb : k < bl.length
        · obtain ⟨a, rfl, k0⟩ := HBL.out k hkb
          have hgd : bl.getD k 0 = bl[k]'hkb := by rw [List.getD_eq_getElem?_getD, List.getElem?_eq_getElem hkb]; rfl
          have hx := H64.out _ (List.getElem_mem hkb)
          have hq : bsN bl k = (pickN (bl[k]'hkb) 6).toNat := by unfold bsN; rw [if_pos hkb, hgd]
          have hlo := pickN_lo (bl[k]'hkb) 6 (by omega)
          have hhi := pickN_hi (bl[k]'hkb) 6 (by omega)
          have k0 := ((ext_trans GD.out HB.out).cell (at_lt k0)).trans k0
          have lk := at_lt k0
          clear hgd
          have HPK := Lib.hid (fun w => pick8_any (bl[k]'hkb) 6 w hx (by omega))
          generalize bl[k]'hkb = x at *
          generalize hqq : pickN x 6 = qi at *
          obtain ⟨q, rfl⟩ := Int.eq_ofNat_of_zero_le hlo
          have hq : bsN bl k = q := by rw [hq]; simp
          have hq6 : q < 6 := by omega
          rw [hq] at HST
          clear hq hqq hlo hhi hx
          go_wp2_with fail
          refine (HPK.out _).mono ?_; rintro e w5 ⟨rfl, rfl⟩
          clear HPK
          rcases (by omega : q = 0 ∨ q = 1 ∨ q = 2 ∨ q = 3 ∨ q = 4 ∨ q = 5) with rfl | rfl | rfl | rfl | rfl | rfl
          · have hcat : mk t ++ (⟨#[10]⟩ : ByteArray) = mk (t ++ endB 0) := mk_app t [10]
            have hov : ¬ 9223372036854775807 < t.length + 1 := by omega
            go_wp2_with fail
            go_roundw
            case rel => exact ⟨i + 1, k + 1, t ++ endB 0, by go_num, by omega, by go_num, by omega, rfl, HST.out, ext_alloc HB.out _⟩
            case measure => simp [slotN]; omega
          · have hcat : mk t ++ (⟨#[32, 10]⟩ : ByteArray) = mk (t ++ endB 1) := mk_app t [32, 10]
            have hov : ¬ 9223372036854775807 < t.length + 2 := by omega
            go_wp2_with fail
            go_roundw
            case rel => exact ⟨i + 1, k + 1, t ++ endB 1, by go_num, by omega, by go_num, by omega, rfl, HST.out, ext_alloc HB.out _⟩
            case measure => simp [slotN]; omega
          · have hcat : mk t ++ (⟨#[32, 35, 32, 106, 32, 120, 58, 10]⟩ : ByteArray) = mk (t ++ endB 2) := mk_app t [32, 35, 32, 106, 32, 120, 58, 10]
            have hov : ¬ 9223372036854775807 < t.length + 8 := by omega
            go_wp2_with fail
            go_roundw
            case rel => exact ⟨i + 1, k + 1, t ++ endB 2, by go_num, by omega, by go_num, by omega, rfl, HST.out, ext_alloc HB.out _⟩
            case measure => simp [slotN]; omega
          · have hcat : mk t ++ (⟨#[10, 10]⟩ : ByteArray) = mk (t ++ endB 3) := mk_app t [10, 10]
            have hov : ¬ 9223372036854775807 < t.length + 2 := by omega
            go_wp2_with fail
            go_roundw
            case rel => exact ⟨i + 1, k + 1, t ++ endB 3, by go_num, by omega, by go_num, by omega, rfl, HST.out, ext_alloc HB.out _⟩
            case measure => simp [slotN]; omega
          · have hcat : mk t ++ (⟨#[35, 10, 9]⟩ : ByteArray) = mk (t ++ endB 4) := mk_app t [35, 10, 9]
            have hov : ¬ 9223372036854775807 < t.length + 3 := by omega
            go_wp2_with fail
            go_roundw
            case rel => exact ⟨i + 1, k + 1, t ++ endB 4, by go_num, by omega, by go_num, by omega, rfl, HST.out, ext_alloc HB.out _⟩
            case measure => simp [slotN]; omega
          · have hcat : mk t ++ (⟨#[9, 9, 10, 32, 32]⟩ : ByteArray) = mk (t ++ endB 5) := mk_app t [9, 9, 10, 32, 32]
            have hov : ¬ 9223372036854775807 < t.length + 5 := by omega
            go_wp2_with fail
            go_roundw
            case rel => exact ⟨i + 1, k + 1, t ++ endB 5, by go_num, by omega, by go_num, by omega, rfl, HST.out, ext_alloc HB.out _⟩
            case measure => simp [slotN]; omega
        · have hq : bsN bl k = 0 := by unfold bsN; rw [if_neg hkb]
          rw [hq] at HST
          clear hq
          have hcat : mk t ++ (⟨#[10]⟩ : ByteArray) = mk (t ++ endB 0) := mk_app t [10]
          have hov : ¬ 9223372036854775807 < t.length + 1 := by omega
          go_wp2_with fail
          go_roundw
          case rel => exact ⟨i + 1, k + 1, t ++ endB 0, by go_num, by omega, by go_num, by omega, rfl, HST.out, ext_alloc HB.out _⟩
          case measure => simp [slotN]; omega
      · have HST : Hid ((t ++ [cb]) ++ spreadL (bsN bl) (S.drop (i + 1)) k = W) := Lib.hid (by
          have := HT.out
          rw [HDR.out, spreadL, if_neg h10] at this
          rw [List.append_assoc]
          exact this)
        have hcb : ((cb.toNat : Int) != 10) = true := bne_iff_ne.2 (fun e => h10 (UInt8.toNat_inj.1 (by show cb.toNat = 10; omega)))
        have hct := HCT.out
        have hex := HEX.out
        have hcat := mk_app t [cb]
        have z1 : (mk [cb]).size = 1 := rfl
        have hii : (i : Int) ≤ (i : Int) + 1 := by omega
        have hiS : (i : Int) + 1 ≤ (S.length : Int) := by omega
        clear HCT HEX h10
        generalize (cb.toNat : Int) = cc at *
        go_wp2_with fail
        go_roundw
        case rel => exact ⟨i + 1, k, t ++ [cb], by go_num, by omega, rfl, by omega, rfl, HST.out, HB.out⟩
        case measure => simp [slotN]; omega
    · obtain rfl : i = S.length := by omega
      have hWt : t = W := by
        have := HT.out
        rw [List.drop_length, spreadL, List.append_nil] at this
        exact this
      subst hWt
      have s2 := aparse_any t hws wr (HV.out.ext (ext_trans GD.out HB.out))
      unfold AParse at s2
      rw [HPS.out] at s2
      have S2 := Lib.hid s2
      clear s2 HT
      go_wp2_with fail
      refine S2.out.mono ?_; rintro e w6 ⟨⟨vg, rfl, hcg⟩, g6⟩
      obtain ⟨pa6, ca6, pl6, cl6, rfl⟩ := cd_shape hcg
      have la : c.arrays.length = 2 := by rw [HAR.out]; rfl
      rw [la] at hcg
      rw [la]
      clear la
      obtain ⟨wF, hwF⟩ : ∃ wF, w6.alloc (.cells #[.slice pa6 2 ca6, .slice pl6 c.lines.length cl6] 27) = wF := ⟨_, rfl⟩
      have X6 : Below w6.heap.size w6 wF := by rw [← hwF]; exact ext_alloc (Below.refl _ _) _
      have CG := Lib.hid (show CodeAt wF w6.heap.size (.slice pa6 2 ca6) (.slice pl6 c.lines.length cl6) c from ⟨by rw [← hwF]; exact heap_new w6 _, hcg.ext X6⟩)
      have CC := Lib.hid (((CC.out.ext HB.out).ext g6).ext X6)
      have CD := Lib.hid (((CD.out.ext HB.out).ext g6).ext X6)
      have GF := Lib.hid (ext_trans (ext_trans (ext_trans GD.out HB.out) g6) X6)
      clear hcg g6 X6 S2
      have HS1 := Lib.hid (same_any _ _ c c wF CC.out.2 CD.out.2)
      rw [decide_eq_true (rfl : c = c)] at HS1
      obtain ⟨a0, a1⟩ := two_cells CC.out.1
      obtain ⟨d0, d1⟩ := two_cells CD.out.1
      obtain ⟨e0, e1⟩ := two_cells CG.out.1
      have la := CC.out.lt
      have ld := CD.out.lt
      have le := CG.out.lt
      go_wp2_with fail
      try rw [hwF]
      clear hwF
      refine HS1.out.mono ?_; rintro e w7 ⟨rfl, g7⟩
      have CC := Lib.hid (CC.out.ext g7)
      have CG := Lib.hid (CG.out.ext g7)
      have G7 := Lib.hid (ext_trans GF.out g7)
      clear a0 a1 d0 d1 e0 e1 la ld le g7
      have HS2 := Lib.hid (same_any _ _ c c w7 CC.out.2 CG.out.2)
      rw [decide_eq_true (rfl : c = c)] at HS2
      obtain ⟨a0, a1⟩ := two_cells CC.out.1
      obtain ⟨e0, e1⟩ := two_cells CG.out.1
      have la := CC.out.lt
      have le := CG.out.lt
      go_wp2_with fail
      refine HS2.out.mono ?_; rintro e w8 ⟨rfl, g8⟩
      have G8 := Lib.hid (ext_trans G7.out g8)
      clear a0 a1 e0 e1 la le g8
      go_wp2_with fail
      go_ret
      exact ⟨rfl, G8.out⟩
end Go.Proofs.YtlaihjefmhcmcaaGreatDoor
