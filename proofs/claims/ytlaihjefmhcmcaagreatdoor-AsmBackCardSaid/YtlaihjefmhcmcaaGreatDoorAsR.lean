/- asm.readArray, asm.readLine. -/
import Derived.Test.YtlaihjefmhcmcaaGreatDoorRows
import Derived.WalkKit
import Derived.ProofKit
import Derived.OpenShut
import Derived.WalkLawsBesides
import Derived.WalkSpells
import Derived.Outline
import Derived.Handy
import Derived.Lib.Hide
import Derived.Lib.OthersKept
import Derived.KernelRfl
import Derived.Carry
import Derived.Test.YtlaihjefmhcmcaaGreatDoorAsQ
import Derived.Test.YtlaihjefmhcmcaaGreatDoorInC
import Derived.Test.YtlaihjefmhcmcaaGreatDoorAsV
import Derived.Test.YtlaihjefmhcmcaaGreatDoorInH
namespace Go.Proofs.YtlaihjefmhcmcaaGreatDoor
open Go.ChangeShapes Go.WideShapes Go.ChangeAt Go.RowKit
set_option linter.unusedVariables false
def arrV (a : Ar) : Value := .agg #[.string (mk a.name), .int .i64 a.size]
def arrRes (o : Option Ar) : Value := match o with | some a => .tuple #[arrV a, .bool true] | none => .tuple #[.agg #[.string ⟨#[]⟩, .int .i64 0], .bool false]
theorem two_store {w wr : World} {b : Nat} {v0 v1 : Value} {t : TypeId} (h : wr.heap[b]? = some (.cells #[v0, v1] t (0, 0))) (hb : Below w.heap.size w wr) (hB : w.heap.size ≤ b) (x y : Value) :
    ∃ wf, (wr.setCell ⟨b, 0, none⟩ x).setCell ⟨b, 1, none⟩ y = wf ∧ wf.heap[b]? = some (.cells #[x, y] t (0, 0)) ∧ Below w.heap.size w wf := by
  refine ⟨_, rfl, ?_, ext_set (ext_set hb hB _) hB _⟩
  exact (heap_setCell_same _ b 1 _ _ _ ((heap_setCell_same _ b 0 _ _ _ h).trans rfl)).trans rfl
def pre7 : List UInt8 := [46, 97, 114, 114, 97, 121, 32]
theorem arr_no {l : List UInt8} (h : ∀ a, arrOk a → l = arrLine a → False) : readA l = none := readA_none (fun a h1 h2 => h a h1 h2)
theorem arr_pre (a : Ar) : Lib.hasPrefix (arrLine a) pre7 = true ∧ (arrLine a).drop 7 = a.name ++ 32 :: Lib.itoa a.size := by
  refine ⟨List.isPrefixOf_iff_prefix.2 ⟨_, rfl⟩, rfl⟩
theorem arr_cut {a : Ar} (h : arrOk a) : Lib.cut (a.name ++ 32 :: Lib.itoa a.size) [32] = (a.name, Lib.itoa a.size, true) := cutB_at _ _ (lab_no32 h.1)
theorem arr_num {a : Ar} (h : arrOk a) : Lib.atoiAll (Lib.itoa a.size) = .ok a.size := atoi_itoa a.size (by have := h.2.1; omega) (by have := h.2.2; omega)
/-- What readArray asks, one thing behind the other. -/
theorem arr_yes {l n m : List UInt8} {v : Int} (h1 : Lib.hasPrefix l pre7 = true) (h2 : Lib.cut (l.drop 7) [32] = (n, m, true)) (h3 : labelB n = true) (h4 : Lib.itoa v = m) (h5 : 1 ≤ v) (h6 : v ≤ 1048576) : readA l = some ⟨n, v⟩ := by
  have e : l = arrLine ⟨n, v⟩ := by
    obtain ⟨r, hr⟩ := List.isPrefixOf_iff_prefix.1 h1
    rw [← hr] at h2 ⊢
    have hd : (pre7 ++ r).drop 7 = r := rfl
    rw [hd] at h2
    rcases cut_cases r 32 with ⟨k1, _⟩ | ⟨a, b, k1, _, k3⟩
    · rw [k1] at h2; cases h2
    · rw [k3] at h2
      simp only [Prod.mk.injEq] at h2
      obtain ⟨rfl, rfl, _⟩ := h2
      rw [k1]
      unfold arrLine
      rw [h4]; rfl
  rw [e]
  exact readA_some ⟨h3, h5, h6⟩
set_option maxHeartbeats 1000000 in
set_option maxRecDepth 100000 in
theorem readArray_any (l : List UInt8) (hl : l.length ≤ 100000) (w : World) (hv : Env w) : Calls Tryz.prog 21 #[.string (mk l)] w fun e w' => e = .returned (arrRes (readA l)) ∧ Below w.heap.size w w' := by
  have HP := Lib.hid (fun w => cutp_any l pre7 hl (by decide) w)
  have HV := Lib.hid hv
  have hp7 : mk pre7 = ⟨#[46, 97, 114, 114, 97, 121, 32]⟩ := rfl
  rw [hp7] at HP
  clear hv hp7
  cases hb : Lib.hasPrefix l pre7
  · have HN : Hid (readA l = none) := Lib.hid (arr_no fun a h1 h2 => by rw [h2, (arr_pre a).1] at hb; cases hb)
    have HC := Lib.hid (fun w hv => cut_any l hl w hv)
    have HA := Lib.hid (fun w hv => atoi_any (cut2 l) (by have := cut2_len l; omega) w hv)
    rw [hb, if_neg (by simp)] at HP
    clear hb
    rw [HN.out]
    clear HN
    generalize (Lib.cut l [32]).2.2 = b6 at *
    generalize cut1 l = C1 at *
    generalize cut2 l = C2 at *
    unfold arrRes
    go_enter Tryz.func21, Tryz.ntmps21
    go_wp2_with fail
    refine (HP.out _).mono ?_; rintro e w' ⟨rfl, rfl⟩
    go_wp2_with fail
    refine (HC.out _ (HV.out.ext (ext_alloc (Below.refl _ _) _))).mono ?_; rintro e w1 ⟨rfl, g1⟩
    have G1 := Lib.hid (ext_trans (ext_alloc (Below.refl w.heap.size w) _) g1)
    have B1 := Lib.hid ((g1.block w.heap.size (by simp)).trans (heap_new w _))
    clear g1
    go_wp2_with fail
    refine (HA.out _ (HV.out.ext G1.out)).mono ?_; rintro e w2 ⟨hA, g2⟩
    have G2 := Lib.hid (ext_trans G1.out g2)
    have l1 : w.heap.size < w1.heap.size := (Array.getElem?_eq_some_iff.1 B1.out).1
    have B2 := (g2.block w.heap.size l1).trans B1.out
    have l2 : w.heap.size < w2.heap.size := (Array.getElem?_eq_some_iff.1 B2).1
    obtain ⟨wf, hwf, hhf, hbf⟩ := two_store B2 G2.out (Nat.le_refl _) (.string ⟨#[]⟩) (.int .i64 0)
    have HWF := Lib.hid hwf
    have HBF := Lib.hid hbf
    obtain ⟨c0, c1⟩ := two_cells B2
    obtain ⟨d0, d1⟩ := two_cells hhf
    have f0 : w2.frozen? ⟨w.heap.size, 0, none⟩ = false := frozen_of_row w2 _ _ _ _ B2
    have f1 : w2.frozen? ⟨w.heap.size, 1, none⟩ = false := frozen_of_row w2 _ _ _ _ B2
    clear g2 hwf hbf hhf G1 B1
    rcases hA with ⟨x, tp, q, rfl, hz⟩ | rfl
    all_goals
      go_wp2_with fail
      rw [HWF.out]
      clear c0 c1 f0 f1
      exact bodyPost_ret (v := .tuple #[.agg #[.string ⟨#[]⟩, .int .i64 0], .bool false]) (by simp [results, Tryz.results21, go_sem, d0, d1]) rfl ⟨rfl, HBF.out⟩
  · obtain ⟨n, m, b, hc⟩ : ∃ n m b, Lib.cut (l.drop 7) [32] = (n, m, b) := ⟨_, _, _, rfl⟩
    have e1 : cut1 (l.drop 7) = n := by unfold cut1; rw [hc]
    have e2 : cut2 (l.drop 7) = m := by unfold cut2; rw [hc]
    have e3 : (Lib.cut (l.drop 7) [32]).2.2 = b := by rw [hc]
    have hdl : (l.drop 7).length ≤ 100000 := by rw [List.length_drop]; omega
    have hml : m.length ≤ 100000 := by have := cut2_len (l.drop 7); rw [e2] at this; omega
    have hnl : n.length ≤ 140737488355328 := by
      rcases cut_cases (l.drop 7) 32 with ⟨k1, _⟩ | ⟨a, b, k1, _, k3⟩
      · rw [k1] at hc; cases hc; omega
      · rw [k3] at hc; cases hc
        rw [k1, List.length_append] at hdl
        omega
    have HC := Lib.hid (fun w hv => cut_any (l.drop 7) hdl w hv)
    rw [e1, e2, e3] at HC
    have HA := Lib.hid (fun w hv => atoi_any m (by omega) w hv)
    have HL := Lib.hid (fun w => label_any n w hnl)
    have HIT := Lib.hid (fun w hv => itoa_any (atoiV m) (atoiV_i m) w hv)
    have HYE : Hid (b = true → labelB n = true → Lib.itoa (atoiV m) = m → 1 ≤ atoiV m → atoiV m ≤ 1048576 → readA l = some ⟨n, atoiV m⟩) := Lib.hid (fun hbt h3 h4 h5 h6 => arr_yes hb (by rw [hc, hbt]) h3 h4 h5 h6)
    have h7 : pre7.length = 7 := rfl
    rw [hb, if_pos rfl, h7] at HP
    have tm : (mk m).toList = m := mk_tl _
    have tn : (mk (Lib.itoa (atoiV m))).toList = Lib.itoa (atoiV m) := mk_tl _
    have HNO : Hid (∀ a, arrOk a → l = arrLine a → n = a.name ∧ m = Lib.itoa a.size ∧ b = true) := Lib.hid (fun a h1 h2 => by
      rw [h2, (arr_pre a).2, arr_cut h1] at hc
      simp only [Prod.mk.injEq] at hc
      exact ⟨hc.1.symm, hc.2.1.symm, hc.2.2.symm⟩)
    clear hb hc e1 e2 e3 hdl h7
    generalize l.drop 7 = R at *
    go_enter Tryz.func21, Tryz.ntmps21
    go_wp2_with fail
    refine (HP.out _).mono ?_; rintro e w' ⟨rfl, rfl⟩
    go_wp2_with fail
    refine (HC.out _ (HV.out.ext (ext_alloc (Below.refl _ _) _))).mono ?_; rintro e w1 ⟨rfl, g1⟩
    have G1 := Lib.hid (ext_trans (ext_alloc (Below.refl w.heap.size w) _) g1)
    have B1 := Lib.hid ((g1.block w.heap.size (by simp)).trans (heap_new w _))
    clear g1
    go_wp2_with fail
    refine (HA.out _ (HV.out.ext G1.out)).mono ?_; rintro e w2 ⟨hA, g2⟩
    have G2 := Lib.hid (ext_trans G1.out g2)
    have l1 : w.heap.size < w1.heap.size := (Array.getElem?_eq_some_iff.1 B1.out).1
    have B2 := (g2.block w.heap.size l1).trans B1.out
    have l2 : w.heap.size < w2.heap.size := (Array.getElem?_eq_some_iff.1 B2).1
    have HB2 := Lib.hid B2
    obtain ⟨wf, hwf, hhf, hbf⟩ := two_store B2 G2.out (Nat.le_refl _) (.string ⟨#[]⟩) (.int .i64 0)
    have HWF := Lib.hid hwf
    have HBF := Lib.hid hbf
    obtain ⟨c0, c1⟩ := two_cells B2
    obtain ⟨d0, d1⟩ := two_cells hhf
    have f0 : w2.frozen? ⟨w.heap.size, 0, none⟩ = false := frozen_of_row w2 _ _ _ _ B2
    have f1 : w2.frozen? ⟨w.heap.size, 1, none⟩ = false := frozen_of_row w2 _ _ _ _ B2
    clear g2 hwf hbf hhf G1 B1 B2
    rcases hA with ⟨x, tp, q, rfl, hz⟩ | rfl
    · have HN : Hid (readA l = none) := Lib.hid (arr_no fun a h1 h2 => by
        have h3 := (HNO.out a h1 h2).2.1
        rw [h3] at hz
        unfold atoiV at hz
        rw [arr_num h1] at hz
        have hz2 : a.size = 0 := hz
        have := h1.2.1
        omega)
      clear HNO hz
      cases b
      · go_wp2_with fail
        rw [HWF.out]
        clear c0 c1 f0 f1
        exact bodyPost_ret (v := .tuple #[.agg #[.string ⟨#[]⟩, .int .i64 0], .bool false]) (by simp [results, Tryz.results21, go_sem, d0, d1]) rfl ⟨by rw [HN.out]; rfl, HBF.out⟩
      · cases hlb : labelB n
        all_goals
          rw [hlb] at HL
          clear hlb
          go_wp2_with fail
          refine (HL.out _).mono ?_; rintro e w3 ⟨rfl, rfl⟩
          go_wp2_with fail
          rw [HWF.out]
          clear c0 c1 f0 f1
          exact bodyPost_ret (v := .tuple #[.agg #[.string ⟨#[]⟩, .int .i64 0], .bool false]) (by simp [results, Tryz.results21, go_sem, d0, d1]) rfl ⟨by rw [HN.out]; rfl, HBF.out⟩
    · cases b
      · have HN : Hid (readA l = none) := Lib.hid (arr_no fun a h1 h2 => by have := (HNO.out a h1 h2).2.2; cases this)
        clear HNO
        go_wp2_with fail
        rw [HWF.out]
        clear c0 c1 f0 f1
        exact bodyPost_ret (v := .tuple #[.agg #[.string ⟨#[]⟩, .int .i64 0], .bool false]) (by simp [results, Tryz.results21, go_sem, d0, d1]) rfl ⟨by rw [HN.out]; rfl, HBF.out⟩
      · cases hlb : labelB n
        · have HN : Hid (readA l = none) := Lib.hid (arr_no fun a h1 h2 => by have := (HNO.out a h1 h2).1; rw [this, h1.1] at hlb; cases hlb)
          rw [hlb] at HL
          clear hlb
          clear HNO
          go_wp2_with fail
          refine (HL.out _).mono ?_; rintro e w3 ⟨rfl, rfl⟩
          go_wp2_with fail
          rw [HWF.out]
          clear c0 c1 f0 f1
          exact bodyPost_ret (v := .tuple #[.agg #[.string ⟨#[]⟩, .int .i64 0], .bool false]) (by simp [results, Tryz.results21, go_sem, d0, d1]) rfl ⟨by rw [HN.out]; rfl, HBF.out⟩
        · have HLB := Lib.hid hlb
          rw [hlb] at HL
          clear hlb
          by_cases hm : Lib.itoa (atoiV m) = m
          case neg =>
            have HN : Hid (readA l = none) := Lib.hid (arr_no fun a h1 h2 => by
              have h3 := (HNO.out a h1 h2).2.1
              apply hm
              have h4 : atoiV m = a.size := by unfold atoiV; rw [h3, arr_num h1]
              rw [h4, h3])
            have hmb : (Lib.itoa (atoiV m) == m) = false := beq_eq_false_iff_ne.2 hm
            have hmb2 : (Lib.itoa (atoiV m) != m) = true := bne_iff_ne.2 hm
            clear HNO hm
            go_wp2_with fail
            refine (HL.out _).mono ?_; rintro e w3 ⟨rfl, rfl⟩
            go_wp2_with fail
            refine (HIT.out _ (HV.out.ext G2.out)).mono ?_; rintro e w4 ⟨rfl, g4⟩
            clear c0 c1 d0 d1 f0 f1 HWF HBF
            have G4 := Lib.hid (ext_trans G2.out g4)
            have B4 := (g4.block w.heap.size l2).trans HB2.out
            have l4 : w.heap.size < w4.heap.size := (Array.getElem?_eq_some_iff.1 B4).1
            obtain ⟨wf, hwf, hhf, hbf⟩ := two_store B4 G4.out (Nat.le_refl _) (.string ⟨#[]⟩) (.int .i64 0)
            have HWF := Lib.hid hwf
            have HBF := Lib.hid hbf
            obtain ⟨c0, c1⟩ := two_cells B4
            obtain ⟨d0, d1⟩ := two_cells hhf
            have f0 : w4.frozen? ⟨w.heap.size, 0, none⟩ = false := frozen_of_row w4 _ _ _ _ B4
            have f1 : w4.frozen? ⟨w.heap.size, 1, none⟩ = false := frozen_of_row w4 _ _ _ _ B4
            clear g4 hwf hbf hhf B4
            go_wp2_with fail
            rw [HWF.out]
            clear c0 c1 f0 f1
            exact bodyPost_ret (v := .tuple #[.agg #[.string ⟨#[]⟩, .int .i64 0], .bool false]) (by simp [results, Tryz.results21, go_sem, d0, d1]) rfl ⟨by rw [HN.out]; rfl, HBF.out⟩
          case pos =>
            have hmb : (Lib.itoa (atoiV m) == m) = true := by rw [hm]; simp
            have hmb2 : (Lib.itoa (atoiV m) != m) = false := by rw [hm]; simp
            have HV6 : Hid (∀ a, arrOk a → l = arrLine a → atoiV m = a.size) := Lib.hid (fun a h1 h2 => by
              have h3 := (HNO.out a h1 h2).2.1
              unfold atoiV; rw [h3, arr_num h1])
            have HY := Lib.hid (HYE.out rfl HLB.out hm)
            clear HYE
            clear hm HNO
            generalize Lib.itoa (atoiV m) = im at *
            generalize atoiV m = v at *
            by_cases h5 : v < 1
            · have HN : Hid (readA l = none) := Lib.hid (arr_no fun a h1 h2 => by have := HV6.out a h1 h2; have := h1.2.1; omega)
              go_wp2_with fail
              refine (HL.out _).mono ?_; rintro e w3 ⟨rfl, rfl⟩
              go_wp2_with fail
              refine (HIT.out _ (HV.out.ext G2.out)).mono ?_; rintro e w4 ⟨rfl, g4⟩
              clear c0 c1 d0 d1 f0 f1 HWF HBF
              have G4 := Lib.hid (ext_trans G2.out g4)
              have B4 := (g4.block w.heap.size l2).trans HB2.out
              have l4 : w.heap.size < w4.heap.size := (Array.getElem?_eq_some_iff.1 B4).1
              obtain ⟨wf, hwf, hhf, hbf⟩ := two_store B4 G4.out (Nat.le_refl _) (.string ⟨#[]⟩) (.int .i64 0)
              have HWF := Lib.hid hwf
              have HBF := Lib.hid hbf
              obtain ⟨c0, c1⟩ := two_cells B4
              obtain ⟨d0, d1⟩ := two_cells hhf
              have f0 : w4.frozen? ⟨w.heap.size, 0, none⟩ = false := frozen_of_row w4 _ _ _ _ B4
              have f1 : w4.frozen? ⟨w.heap.size, 1, none⟩ = false := frozen_of_row w4 _ _ _ _ B4
              clear g4 hwf hbf hhf B4
              go_wp2_with fail
              rw [HWF.out]
              clear c0 c1 f0 f1
              exact bodyPost_ret (v := .tuple #[.agg #[.string ⟨#[]⟩, .int .i64 0], .bool false]) (by simp [results, Tryz.results21, go_sem, d0, d1]) rfl ⟨by rw [HN.out]; rfl, HBF.out⟩
            · by_cases h6 : 1048576 < v
              · have HN : Hid (readA l = none) := Lib.hid (arr_no fun a h1 h2 => by have := HV6.out a h1 h2; have := h1.2.2; omega)
                go_wp2_with fail
                refine (HL.out _).mono ?_; rintro e w3 ⟨rfl, rfl⟩
                go_wp2_with fail
                refine (HIT.out _ (HV.out.ext G2.out)).mono ?_; rintro e w4 ⟨rfl, g4⟩
                clear c0 c1 d0 d1 f0 f1 HWF HBF
                have G4 := Lib.hid (ext_trans G2.out g4)
                have B4 := (g4.block w.heap.size l2).trans HB2.out
                have l4 : w.heap.size < w4.heap.size := (Array.getElem?_eq_some_iff.1 B4).1
                obtain ⟨wf, hwf, hhf, hbf⟩ := two_store B4 G4.out (Nat.le_refl _) (.string ⟨#[]⟩) (.int .i64 0)
                have HWF := Lib.hid hwf
                have HBF := Lib.hid hbf
                obtain ⟨c0, c1⟩ := two_cells B4
                obtain ⟨d0, d1⟩ := two_cells hhf
                have f0 : w4.frozen? ⟨w.heap.size, 0, none⟩ = false := frozen_of_row w4 _ _ _ _ B4
                have f1 : w4.frozen? ⟨w.heap.size, 1, none⟩ = false := frozen_of_row w4 _ _ _ _ B4
                clear g4 hwf hbf hhf B4
                go_wp2_with fail
                rw [HWF.out]
                clear c0 c1 f0 f1
                exact bodyPost_ret (v := .tuple #[.agg #[.string ⟨#[]⟩, .int .i64 0], .bool false]) (by simp [results, Tryz.results21, go_sem, d0, d1]) rfl ⟨by rw [HN.out]; rfl, HBF.out⟩
              · · have HN : Hid (readA l = some ⟨n, v⟩) := Lib.hid (HY.out (by omega) (by omega))
                  go_wp2_with fail
                  refine (HL.out _).mono ?_; rintro e w3 ⟨rfl, rfl⟩
                  go_wp2_with fail
                  refine (HIT.out _ (HV.out.ext G2.out)).mono ?_; rintro e w4 ⟨rfl, g4⟩
                  clear c0 c1 d0 d1 f0 f1 HWF HBF
                  have G4 := Lib.hid (ext_trans G2.out g4)
                  have B4 := (g4.block w.heap.size l2).trans HB2.out
                  have l4 : w.heap.size < w4.heap.size := (Array.getElem?_eq_some_iff.1 B4).1
                  obtain ⟨wf, hwf, hhf, hbf⟩ := two_store B4 G4.out (Nat.le_refl _) (.string (mk n)) (.int .i64 v)
                  have HWF := Lib.hid hwf
                  have HBF := Lib.hid hbf
                  obtain ⟨c0, c1⟩ := two_cells B4
                  obtain ⟨d0, d1⟩ := two_cells hhf
                  have f0 : w4.frozen? ⟨w.heap.size, 0, none⟩ = false := frozen_of_row w4 _ _ _ _ B4
                  have f1 : w4.frozen? ⟨w.heap.size, 1, none⟩ = false := frozen_of_row w4 _ _ _ _ B4
                  clear g4 hwf hbf hhf B4
                  go_wp2_with fail
                  rw [HWF.out]
                  clear c0 c1 f0 f1
                  exact bodyPost_ret (v := .tuple #[.agg #[.string (mk n), .int .i64 v], .bool true]) (by simp [results, Tryz.results21, go_sem, d0, d1]) rfl ⟨by rw [HN.out]; rfl, HBF.out⟩
end Go.Proofs.YtlaihjefmhcmcaaGreatDoor
