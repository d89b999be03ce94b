/- asm.fault and asm.Check: the first place that may not be. -/
import Derived.Test.YtlaihjefmhcmcaaGreatDoorRows
import Derived.WalkKit
import Derived.ProofKit
import Derived.OpenShut
import Derived.WalkLawsBesides
import Derived.WalkSpells
import Derived.Outline
import Derived.Handy
import Derived.Lib.Hide
import Derived.Lib.OthersKept
import Derived.KernelRfl
import Derived.Carry
import Derived.Test.YtlaihjefmhcmcaaGreatDoorAs1
import Derived.Test.YtlaihjefmhcmcaaGreatDoorAsV
import Derived.Test.YtlaihjefmhcmcaaGreatDoorAsX
namespace Go.Proofs.YtlaihjefmhcmcaaGreatDoor
open Go.ChangeShapes Go.WideShapes Go.ChangeAt Go.RowKit
set_option linter.unusedVariables false
def CdFit (c : Cd) : Prop := LabFit c.lines ∧ ∀ a ∈ c.arrays, a.name.length ≤ 140737488355328
theorem ar_at {w : World} {a : Addr} {x : Ar} (h : ArAt w a x) : w.cell? a = some (.string (mk x.name)) ∧ w.cell? ⟨a.block, a.off + 1, none⟩ = some (.int .i64 x.size) := h
/-- The second loop: the names ahead are in the map; so far none was there twice. -/
def ArrRel (w : World) (B : Nat) (L : List Ar) (j : Nat) : Prop := ∃ F ns, IMap w B j F ∧ (∀ n, (F n).isSome = ns.contains n) ∧ arrsE L [] = arrsE (L.drop j) ns ∧ ∀ n, ns.contains n = hasArr (L.take j) n
theorem arrRel_start {w : World} {B : Nat} {L : List Ar} (h : IMap w B 0 (fun _ => none)) : ArrRel w B L 0 := ⟨_, [], h, fun _ => rfl, rfl, fun _ => rfl⟩
theorem arrRel_next {B : Nat} {L : List Ar} {j : Nat} {nm : List UInt8} {F : List UInt8 → Option Int} {ns : List (List UInt8)} (hF : ∀ n, (F n).isSome = ns.contains n) (hE : arrsE L [] = arrsE (L.drop j) ns) (hN : ∀ n, ns.contains n = hasArr (L.take j) n)
    (hS : arrsE (L.drop j) ns = (ns.contains nm || arrsE (L.drop (j + 1)) (nm :: ns))) (hT : ∀ n, hasArr (L.take (j + 1)) n = (hasArr (L.take j) n || decide (nm = n))) (hc : ns.contains nm = false) :
    ∀ w', IMap w' B (j + 1) (putF F nm (j : Int)) → ArrRel w' B L (j + 1) := by
  intro w' h
  refine ⟨_, nm :: ns, h, fun n => ?_, by rw [hE, hS, hc]; rfl, fun n => ?_⟩
  · unfold putF
    rw [List.contains_cons]
    by_cases e : n = nm
    · rw [if_pos e, e]; simp
    · rw [if_neg e, hF, beq_eq_false_iff_ne.2 e]; rfl
  · rw [hT, List.contains_cons, hN, Bool.or_comm]
    congr 1
    by_cases e : n = nm
    · rw [e]; simp
    · rw [beq_eq_false_iff_ne.2 e, decide_eq_false (fun k => e k.symm)]
set_option maxHeartbeats 1000000 in
set_option maxRecDepth 100000 in
theorem fault_any (v : Value) (c : Cd) (w : World) (h : CdAt w v c) (hf : CdFit c) : Calls Tryz.prog 23 #[v] w fun e w' => e = .returned (.tuple #[.int .i64 (faultL c).1, .int .i64 (faultL c).2]) ∧ Below w.heap.size w w' := by
  have H := Lib.hid h
  obtain ⟨va, vl, rfl, ⟨hna, pa, capa, rfl, hca⟩, ⟨hn, p, cap, rfl, hc⟩, hlena, hlen⟩ := h
  have HC := Lib.hid hc
  have HCA := Lib.hid hca
  have HF := Lib.hid hf
  have hmm := @run_makeMap Tryz.prog
  clear hca hc hf
  by_cases h4 : 40000 < c.lines.length
  · have HG := Lib.hid (faultL_long c h4)
    go_enter Tryz.func23, Tryz.ntmps23
    go_wp2_with fail
    go_ret2
    exact ⟨by rw [HG.out]; rfl, ext_alloc (Below.refl _ _) _⟩
  have h4i : (c.lines.length : Int) ≤ 40000 := by omega
  go_enter Tryz.func23, Tryz.ntmps23
  go_wp2_with fail
  go_loopw [23] (fun iv wr => ∃ j : Nat, iv = .int .i64 j ∧ j ≤ c.arrays.length ∧ Below w.heap.size w wr ∧ wr.heap[w.heap.size]? = some (.cells #[.slice pa c.arrays.length capa, .slice p c.lines.length cap] 27 (0, 0)) ∧ IMap wr (w.heap.size + 1) 0 (fun _ => none) ∧ c.arrays.any badArr = (c.arrays.drop j).any badArr) (fun iv wr => c.arrays.length - slotN iv)
  case atStart =>
    refine ⟨0, rfl, Nat.zero_le _, ext_alloc (ext_alloc (Below.refl _ _) _) _, ?_, ?_, rfl⟩
    · exact (Lib.alloc_old _ _ _ (by simp)).trans (heap_new w _)
    · have := imap_made (w.alloc (.cells #[.slice pa c.arrays.length capa, .slice p c.lines.length cap] 27))
      simpa using this
  case round =>
    obtain ⟨j, rfl, hj, hbl, hbx, hm, hbad⟩ := hrel
    have HB := Lib.hid hbl
    have HBX := Lib.hid hbx
    have HM := Lib.hid hm
    have HBAD := Lib.hid hbad
    have hs2 : w.heap.size + 1 < wr.heap.size := hm.lt
    by_cases h : j < c.arrays.length
    · obtain ⟨a, rfl, k⟩ := HCA.out j h
      obtain ⟨k0, k1⟩ := ar_at (k.ext hbl)
      have hlb : (c.arrays[j]'h).name.length ≤ 140737488355328 := HF.out.2 _ (List.getElem_mem h)
      have HST := Lib.hid (any_step badArr c.arrays j h)
      clear k hbl hbx hm hbad
      generalize c.arrays[j]'h = x at *
      obtain ⟨nm, sz⟩ := x
      simp only at k0 k1 hlb
      have HL := Lib.hid (fun w => label_any nm w hlb)
      cases hb : labelB nm
      · have HG := Lib.hid (faultL_arr c h4 (by rw [HBAD.out, HST.out]; simp [badArr, hb]))
        rw [hb] at HL
        clear hb
        go_wp2_with fail
        refine (HL.out _).mono ?_; rintro e w1 ⟨rfl, rfl⟩
        go_wp2_with fail
        go_ret2
        exact ⟨by rw [HG.out]; rfl, ext_alloc HB.out _⟩
      · rw [hb] at HL
        by_cases hsz : sz < 1
        · have HG := Lib.hid (faultL_arr c h4 (by rw [HBAD.out, HST.out]; simp [badArr, hsz]))
          clear hb
          go_wp2_with fail
          refine (HL.out _).mono ?_; rintro e w1 ⟨rfl, rfl⟩
          go_wp2_with fail
          go_ret2
          exact ⟨by rw [HG.out]; rfl, ext_alloc HB.out _⟩
        · by_cases hsz2 : 1048576 < sz
          · have HG := Lib.hid (faultL_arr c h4 (by rw [HBAD.out, HST.out]; simp [badArr, hsz2]))
            clear hb
            go_wp2_with fail
            refine (HL.out _).mono ?_; rintro e w1 ⟨rfl, rfl⟩
            go_wp2_with fail
            go_ret2
            exact ⟨by rw [HG.out]; rfl, ext_alloc HB.out _⟩
          · have HG : Hid (c.arrays.any badArr = (c.arrays.drop (j + 1)).any badArr) := Lib.hid (by rw [HBAD.out, HST.out]; simp [badArr, hb, hsz, hsz2])
            clear hb
            go_wp2_with fail
            refine (HL.out _).mono ?_; rintro e w1 ⟨rfl, rfl⟩
            go_wp2_with fail
            go_roundw
            case rel => exact ⟨j + 1, by go_num, by omega, ext_alloc HB.out _, (Lib.alloc_old _ _ _ (by omega)).trans HBX.out, HM.out.ext (ext_alloc (Below.refl _ _) _), HG.out⟩
            case measure => simp [slotN]; omega
    · have HBAD2 : Hid (c.arrays.any badArr = false) := Lib.hid (by rw [HBAD.out, List.drop_eq_nil_of_le (by omega)]; rfl)
      obtain ⟨c0, c1⟩ := two_cells hbx
      clear HBAD hbl hbx hm hbad
      obtain ⟨wo, rfl⟩ : ∃ wo : World, wo = wr := ⟨_, rfl⟩
      go_wp2_with fail
      go_loopw [45] (fun iv wr => ∃ j : Nat, iv = .int .i64 j ∧ j ≤ c.arrays.length ∧ Below w.heap.size w wr ∧ wr.heap[w.heap.size]? = some (.cells #[.slice pa c.arrays.length capa, .slice p c.lines.length cap] 27 (0, 0)) ∧ ArrRel wr (w.heap.size + 1) c.arrays j) (fun iv wr => c.arrays.length - slotN iv)
      case atStart => exact ⟨0, rfl, Nat.zero_le _, HB.out, HBX.out, arrRel_start HM.out⟩
      case round =>
        clear HB HBX HM c0 c1
        obtain ⟨j, rfl, hj, hbl, hbx, F, ns, hm, hF, hE, hN⟩ := hrel
        have HB := Lib.hid hbl
        have HBX := Lib.hid hbx
        have HM := Lib.hid hm
        have HFF := Lib.hid hF
        have HE := Lib.hid hE
        have HN := Lib.hid hN
        have hs3 : w.heap.size + 1 < wr.heap.size := hm.lt
        by_cases h : j < c.arrays.length
        · obtain ⟨a, rfl, k⟩ := HCA.out j h
          obtain ⟨k0, k1⟩ := ar_at (k.ext hbl)
          have hlb : (c.arrays[j]'h).name.length ≤ maxLen := by have := HF.out.2 _ (List.getElem_mem h); unfold maxLen; omega
          have HST := Lib.hid (arrsE_step c.arrays j h ns)
          have HSN := Lib.hid (hasArr_step c.arrays j h)
          clear k hbl hbx hm hF hE hN
          generalize c.arrays[j]'h = x at *
          obtain ⟨nm, sz⟩ := x
          simp only at k0 k1 hlb
          generalize hs : (F nm).isSome = s at *
          have hsv := hs
          have HSV := Lib.hid hs
          clear hs
          cases s
          · have hc2 : ns.contains nm = false := by rw [← HFF.out]; exact hsv
            have HNXT := Lib.hid (arrRel_next (B := w.heap.size + 1) HFF.out HE.out HN.out HST.out HSN.out hc2)
            clear hc2
            go_wp2_with (first | (at_lookup; refine wp_look_ok (w.heap.size + 1) j F (HM.out.ext (ext_alloc (Below.refl _ _) _)) nm hlb rfl _ _ rfl rfl rfl ?_) | (at_mapUpdate; refine wp_put (w.heap.size + 1) j F (HM.out.ext (ext_alloc (Below.refl _ _) _)) (by omega) nm hlb (j : Int) (by unfold I64; omega) rfl _ _ _ rfl rfl rfl rfl ?_; intro w1 hown1 hgrow1))
            go_roundw
            case rel => exact ⟨j + 1, by go_num, by omega, (ext_alloc HB.out _).grown hgrow1 (by simp; omega) (fun k hk => by cases hk; omega), (hgrow1.block w.heap.size (by simp; omega) (by simp)).trans ((Lib.alloc_old _ _ _ (by omega)).trans HBX.out), HNXT.out _ hown1⟩
            case measure => simp [slotN]; omega
          · have hc2 : ns.contains nm = true := by rw [← HFF.out]; exact hsv
            have HG := Lib.hid (faultL_twice c h4 HBAD2.out (by rw [HE.out, HST.out, hc2]; rfl))
            clear hc2
            go_wp2_with (at_lookup; refine wp_look_ok (w.heap.size + 1) j F (HM.out.ext (ext_alloc (Below.refl _ _) _)) nm hlb rfl _ _ rfl rfl rfl ?_)
            go_ret2
            exact ⟨by rw [HG.out]; rfl, ext_alloc HB.out _⟩
        · have HE2 : Hid (arrsE c.arrays [] = false) := Lib.hid (by rw [HE.out, List.drop_eq_nil_of_le (by omega)]; rfl)
          have HA : Hid (∀ n, (F n).isSome = hasArr c.arrays n) := Lib.hid (fun n => by rw [HFF.out, HN.out, List.take_of_length_le (by omega)])
          obtain ⟨c0, c1⟩ := two_cells hbx
          have HLB := Lib.hid (labels_any _ c wr (H.out.ext hbl) HF.out.1)
          clear HE HFF HN hbl hbx hm hF hE hN
          obtain ⟨wo, rfl⟩ : ∃ wo : World, wo = wr := ⟨_, rfl⟩
          go_wp2_with fail
          refine HLB.out.mono ?_; rintro e w2 ⟨⟨bl, rfl, hml, hbl2⟩, g2⟩
          have HB2 := Lib.hid (ext_trans HB.out g2)
          have HBX2 := (g2.block w.heap.size (by omega)).trans HBX.out
          have HM2 := Lib.hid ((HM.out.mono hj).ext g2)
          have HML := Lib.hid hml
          obtain ⟨c0', c1'⟩ := two_cells HBX2
          have HLE : Hid (∀ i (h : i < c.lines.length), lineG F (fun n => firstLab n c.lines 0) (i : Int) (c.lines[i]'h) = lineE c i (c.lines[i]'h)) := Lib.hid (lineG_eq c F _ HA.out (fun n => rfl))
          have HFL := Lib.hid (faultL_lines c h4 HBAD2.out HE2.out)
          clear c0 c1 hml g2 HB HBX HM HBX2 HLB hbl2
          go_wp2_with fail
          go_loopw [68] (fun iv wr => ∃ j : Nat, iv = .int .i64 j ∧ j ≤ c.lines.length ∧ Below w.heap.size w wr ∧ IMap wr (w.heap.size + 1) c.arrays.length F ∧ IMap wr bl c.lines.length (fun n => firstLab n c.lines 0) ∧ linesE c c.lines 0 = linesE c (c.lines.drop j) j) (fun iv wr => c.lines.length - slotN iv)
          case atStart => exact ⟨0, rfl, Nat.zero_le _, HB2.out, HM2.out, HML.out, rfl⟩
          case round =>
            clear HB2 HM2 HML c0' c1'
            obtain ⟨i, rfl, hi, hbl, hm, hml, hLE⟩ := hrel
            have HB := Lib.hid hbl
            have HM := Lib.hid hm
            have HML := Lib.hid hml
            have HLL := Lib.hid hLE
            clear h
            by_cases h : i < c.lines.length
            · obtain ⟨a, rfl, k⟩ := HC.out i h
              obtain ⟨k0, k1, k2, k3, k4, k5, k6⟩ := ln_at (k.ext hbl)
              have hff := HF.out.1 _ (List.getElem_mem h)
              have HLF := Lib.hid (fun w' (g : Below wr.heap.size wr w') => lineFault_any (c.lines[i]'h) (i : Int) (w.heap.size + 1) bl c.arrays.length c.lines.length F (fun n => firstLab n c.lines 0) w' (HM.out.ext g) (HML.out.ext g) hff.1 hff.2)
              have HEQ := HLE.out i h
              have HST := Lib.hid (linesE_step c c.lines i h)
              have HHT := Lib.hid (linesE_hit c c.lines i h)
              clear k hbl hm hml hLE hff
              rw [HEQ] at HLF
              clear HEQ
              generalize lineE c i (c.lines[i]'h) = q at *
              unfold lnV at HLF
              generalize c.lines[i]'h = l at *
              obtain ⟨lab, ⟨lo, ld, la, lb, ln, lm⟩⟩ := l
              simp only at k0 k1 k2 k3 k4 k5 k6 HLF
              by_cases hq : q = 0
              · have HNX := Lib.hid (HST.out hq)
                subst hq
                clear HST HHT
                go_wp2_with fail
                refine (HLF.out _ (ext_alloc (Below.refl _ _) _)).mono ?_; rintro e w3 ⟨rfl, g3⟩
                have G3 := Lib.hid (ext_trans (ext_alloc (Below.refl wr.heap.size wr) _) g3)
                clear g3 HLF
                go_wp2_with fail
                go_roundw
                case rel => exact ⟨i + 1, by go_num, by omega, ext_trans HB.out G3.out, HM.out.ext G3.out, HML.out.ext G3.out, by rw [HLL.out, HNX.out]⟩
                case measure => simp [slotN]; omega
              · have HNX := Lib.hid (HHT.out hq)
                have hqb : (q != 0) = true := bne_iff_ne.2 hq
                have hqb2 : (q == 0) = false := beq_eq_false_iff_ne.2 hq
                clear HST HHT hq
                go_wp2_with fail
                refine (HLF.out _ (ext_alloc (Below.refl _ _) _)).mono ?_; rintro e w3 ⟨rfl, g3⟩
                have G3 := Lib.hid (ext_trans (ext_alloc (Below.refl wr.heap.size wr) _) g3)
                clear g3 HLF
                go_wp2_with fail
                go_ret2
                exact ⟨by rw [HFL.out, HLL.out, HNX.out]; rfl, ext_trans HB.out G3.out⟩
            · have HNX := Lib.hid (linesE_end c c.lines i h)
              clear hbl hm hml hLE
              go_wp2_with fail
              go_ret2
              exact ⟨by rw [HFL.out, HLL.out, HNX.out]; rfl, HB.out⟩
theorem ret2i {e a b : Int} (h : a = b) : Ending.returned (.tuple #[.int .i64 e, .int .i64 a]) = .returned (.tuple #[.int .i64 e, .int .i64 b]) := by rw [h]
set_option maxRecDepth 100000 in
theorem acheck_any (v : Value) (c : Cd) (w : World) (h : CdAt w v c) (hf : CdFit c) : Calls Tryz.prog 11 #[v] w fun e w' => e = .returned (.tuple #[.int .i64 (faultL c).1, .int .i64 (max (faultL c).2 0)]) ∧ Below w.heap.size w w' := by
  have HF := Lib.hid (fun w' (g : Below w.heap.size w w') => fault_any v c w' (h.ext g) hf)
  obtain ⟨va, vl, rfl, _, _, _, _⟩ := h
  generalize (faultL c).1 = e1 at *
  generalize (faultL c).2 = e2 at *
  go_enter Tryz.func11, Tryz.ntmps11
  go_wp2_with fail
  refine (HF.out _ (ext_alloc (Below.refl _ _) _)).mono ?_; rintro e w3 ⟨rfl, g3⟩
  have G3 := Lib.hid (ext_trans (ext_alloc (Below.refl w.heap.size w) _) g3)
  clear g3 HF
  go_wp2_with fail
  all_goals
    go_ret2
    first
      | exact ⟨ret2i (e := e1) (a := e2) (by omega), G3.out⟩
      | exact ⟨ret2i (e := e1) (a := 0) (by omega), G3.out⟩
end Go.Proofs.YtlaihjefmhcmcaaGreatDoor
