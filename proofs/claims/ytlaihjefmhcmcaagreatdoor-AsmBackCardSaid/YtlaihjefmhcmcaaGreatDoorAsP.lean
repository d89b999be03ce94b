/- asm.Print: code's text. -/
import Derived.Test.YtlaihjefmhcmcaaGreatDoorRows
import Derived.WalkKit
import Derived.ProofKit
import Derived.OpenShut
import Derived.WalkLawsBesides
import Derived.WalkSpells
import Derived.Outline
import Derived.Handy
import Derived.Lib.Hide
import Derived.Lib.OthersKept
import Derived.KernelRfl
import Derived.Carry
import Derived.RegionTactic
import Derived.BigRegion
import Derived.BigQuiet
import Derived.Deep.RegionHeld3
import Derived.Deep.Cut
import Derived.Test.YtlaihjefmhcmcaaGreatDoorAs3
import Derived.Test.YtlaihjefmhcmcaaGreatDoorAsY
import Derived.Test.YtlaihjefmhcmcaaGreatDoorInG
namespace Go.Proofs.YtlaihjefmhcmcaaGreatDoor
open Go.ChangeShapes Go.WideShapes Go.ChangeAt Go.RowKit
set_option linter.unusedVariables false
set_option maxRecDepth 100000 in
theorem aprint_no (v : Value) (c : Cd) (w : World) (h : CdAt w v c) (hf : CdFit c) (hb : (faultL c).1 ≠ 0) : Calls Tryz.prog 6 #[v] w fun e w' => e = .returned (.tuple #[.string (mk []), .int .i64 1]) ∧ Below w.heap.size w w' := by
  have HC := Lib.hid (fun w' (g : Below w.heap.size w w') => acheck_any v c w' (h.ext g) hf)
  obtain ⟨va, vl, rfl, _, _, _, _⟩ := h
  have hqb : ((faultL c).1 != 0) = true := bne_iff_ne.2 hb
  have hqb2 : ((faultL c).1 == 0) = false := beq_eq_false_iff_ne.2 hb
  clear hb
  generalize (faultL c).1 = e1 at *
  generalize max (faultL c).2 0 = e2 at *
  go_enter Tryz.func6, Tryz.ntmps6
  go_wp2_with fail
  refine (HC.out _ (ext_alloc (Below.refl _ _) _)).mono ?_; rintro e w3 ⟨rfl, g3⟩
  have G3 := Lib.hid (ext_trans (ext_alloc (Below.refl w.heap.size w) _) g3)
  clear g3 HC
  go_wp2_with fail
  go_ret2
  exact ⟨rfl, G3.out⟩
theorem app_len {a b t : List UInt8} (h : a ++ b = t) : a.length + b.length = t.length := by rw [← h, List.length_append]
set_option maxHeartbeats 2000000 in
set_option maxRecDepth 100000 in
theorem aprint_yes (v : Value) (c : Cd) (w : World) (hv : Env w) (h : CdAt w v c) (hf : CdFit c) (hb : (faultL c).1 = 0) (hlt : (cdTxt c).length ≤ 100000000) (hn64 : ∀ l ∈ c.lines, I64 l.ins.n) : Calls Tryz.prog 6 #[v] w fun e w' => e = .returned (.tuple #[.string (mk (cdTxt c)), .int .i64 0]) ∧ Below w.heap.size w w' := by
  have HCK := Lib.hid (fun w' (g : Below w.heap.size w w') => acheck_any v c w' (h.ext g) hf)
  obtain ⟨va, vl, rfl, ⟨hna, pa, capa, rfl, hca⟩, ⟨hn, p, cap, rfl, hc⟩, _, _⟩ := h
  have HV := Lib.hid hv
  have HC := Lib.hid hc
  have HCA := Lib.hid hca
  have HF := Lib.hid hf
  have HOK := Lib.hid hb
  have HN := Lib.hid hn64
  have HBA := Lib.hid (ok_all hb).2.1
  have HLN := Lib.hid (fun i hi => ok_line ((ok_all hb).2.2.2.2 i hi))
  have h4 := (ok_all hb).1
  rw [hb] at HCK
  clear hc hca hf hb hv hn64
  generalize max (faultL c).2 0 = e2 at *
  go_enter Tryz.func6, Tryz.ntmps6
  go_wp2_with fail
  refine (HCK.out _ (ext_alloc (Below.refl _ _) _)).mono ?_; rintro e w1 ⟨rfl, g1⟩
  have G1 := Lib.hid (ext_trans (ext_alloc (Below.refl w.heap.size w) _) g1)
  have HBX := Lib.hid ((g1.block w.heap.size (by simp)).trans (heap_new w _))
  have hs1 : w.heap.size < w1.heap.size := (Array.getElem?_eq_some_iff.1 HBX.out).1
  obtain ⟨c0, c1⟩ := two_cells HBX.out
  clear g1 HCK
  go_wp2_with fail
  clear c0 c1
  go_loopw [23] (fun iv wr => ∃ (j : Nat) (acc : List UInt8), iv = .int .i64 j ∧ j ≤ c.arrays.length ∧ acc ++ ((c.arrays.drop j).flatMap arrTxt ++ c.lines.flatMap lnTxt) = cdTxt c ∧ Bld w1.heap.size w1.heap.size acc wr ∧ Below w1.heap.size w1 wr) (fun iv wr => c.arrays.length - slotN iv)
  case atStart => exact ⟨0, [], rfl, Nat.zero_le _, rfl, Bld.fresh w1, ext_alloc (Below.refl _ _) _⟩
  case round =>
    obtain ⟨j, acc, rfl, hj, hacc, hI, hbl⟩ := hrel
    have HI := Lib.hid hI
    have HB := Lib.hid hbl
    have HA := Lib.hid hacc
    have hs2 : w1.heap.size < wr.heap.size := hI.lt
    have HBW := Lib.hid (ext_trans G1.out hbl)
    by_cases h : j < c.arrays.length
    · obtain ⟨a, rfl, k⟩ := HCA.out j h
      obtain ⟨k0, k1⟩ := ar_at (k.ext HBW.out)
      have hlb : labelB (c.arrays[j]'h).name = true ∧ 1 ≤ (c.arrays[j]'h).size ∧ (c.arrays[j]'h).size ≤ 1048576 := by
        have := List.any_eq_false.1 HBA.out _ (List.getElem_mem h)
        simp [badArr] at this
        exact ⟨this.1, by omega, by omega⟩
      have HNX : Hid ((acc ++ arrTxt (c.arrays[j]'h)) ++ ((c.arrays.drop (j + 1)).flatMap arrTxt ++ c.lines.flatMap lnTxt) = cdTxt c) := Lib.hid (by
        rw [← hacc, List.drop_eq_getElem_cons h, List.flatMap_cons]
        simp only [List.append_assoc])
      have hlen : acc.length + (arrTxt (c.arrays[j]'h)).length ≤ 100000000 := by
        have := app_len HNX.out
        rw [List.length_append] at this
        omega
      clear k hI hbl hacc
      generalize c.arrays[j]'h = x at *
      obtain ⟨nm, sz⟩ := x
      simp only at k0 k1 hlb
      obtain ⟨q1, q2, q3⟩ := hlb
      have HIT := Lib.hid (fun w hv => itoa_any sz ⟨by omega, by omega⟩ w hv)
      obtain ⟨t1, ht1⟩ : ∃ t1, t1 = [46, 97, 114, 114, 97, 121, 32] ++ nm := ⟨_, rfl⟩
      obtain ⟨t2, ht2⟩ : ∃ t2, t2 = t1 ++ [32] := ⟨_, rfl⟩
      obtain ⟨t3, ht3⟩ : ∃ t3, t3 = t2 ++ Lib.itoa sz := ⟨_, rfl⟩
      have ht4 : t3 ++ [10] = arrTxt ⟨nm, sz⟩ := by rw [ht3, ht2, ht1]; unfold arrTxt; simp
      have e1 : (⟨#[46, 97, 114, 114, 97, 121, 32]⟩ : ByteArray) ++ mk nm = mk t1 := by rw [ht1]; exact mk_app [46, 97, 114, 114, 97, 121, 32] nm
      have e2' : mk t1 ++ (⟨#[32]⟩ : ByteArray) = mk t2 := by rw [ht2]; exact mk_app t1 [32]
      have e3 : mk t2 ++ mk (Lib.itoa sz) = mk t3 := by rw [ht3]; exact mk_app _ _
      have e4 : mk t3 ++ (⟨#[10]⟩ : ByteArray) = mk (arrTxt ⟨nm, sz⟩) := by rw [← ht4]; exact mk_app t3 [10]
      have l4 : t3.length + 1 = (arrTxt ⟨nm, sz⟩).length := by rw [← ht4]; simp
      have l3 : t2.length + (Lib.itoa sz).length = t3.length := by rw [ht3]; simp
      have l2 : t1.length + 1 = t2.length := by rw [ht2]; simp
      have l1 : 7 + nm.length = t1.length := by rw [ht1]; simp; omega
      clear ht1 ht2 ht3 ht4
      generalize arrTxt ⟨nm, sz⟩ = t4 at *
      generalize Lib.itoa sz = ti at *
      have s7 : (⟨#[46, 97, 114, 114, 97, 121, 32]⟩ : ByteArray).size = 7 := rfl
      have s1 : (⟨#[32]⟩ : ByteArray).size = 1 := rfl
      have s1' : (⟨#[10]⟩ : ByteArray).size = 1 := rfl
      have sn : (mk nm).size = nm.length := rfl
      have sa : (mk t1).size = t1.length := rfl
      have sb : (mk t2).size = t2.length := rfl
      have sc : (mk t3).size = t3.length := rfl
      have si : (mk ti).size = ti.length := rfl
      have b1 : ¬ 9223372036854775807 < 7 + nm.length := by omega
      have b2 : ¬ 9223372036854775807 < t1.length + 1 := by omega
      have b3 : ¬ 9223372036854775807 < t2.length + ti.length := by omega
      have b4 : ¬ 9223372036854775807 < t3.length + 1 := by omega
      have L4 := Lib.hid l4
      have L3 := Lib.hid l3
      have L2 := Lib.hid l2
      have L1 := Lib.hid l1
      clear l1 l2 l3 l4
      go_wp2_with fail
      have c0 : ((wr.alloc (.cells #[.string (mk nm), .int .i64 sz] 44)).drew).cell? ⟨wr.heap.size, 0, none⟩ = some (.string (mk nm)) := cell_row (heap_new wr _) 0
      have c1 : ((wr.alloc (.cells #[.string (mk nm), .int .i64 sz] 44)).drew).cell? ⟨wr.heap.size, 1, none⟩ = some (.int .i64 sz) := cell_row (heap_new wr _) 1
      have hq : ((wr.alloc (.cells #[.string (mk nm), .int .i64 sz] 44)).drew).heap[wr.heap.size]? = some (.cells #[.string (mk nm), .int .i64 sz] 44 (0, 0)) := heap_new wr _
      have hI := (HI.out.alloc (.cells #[.string (mk nm), .int .i64 sz] 44)).ext (ext_drew (Below.refl _ _))
      have gg : Below w1.heap.size w1 (wr.alloc (.cells #[.string (mk nm), .int .i64 sz] 44)).drew := ext_drew (ext_alloc HB.out _)
      have gs : w1.heap.size ≤ (wr.alloc (.cells #[.string (mk nm), .int .i64 sz] 44)).drew.heap.size := gg.size
      go_region_held3 (fun w' => w'.cell? ⟨wr.heap.size, 0, none⟩ = some (.string (mk nm)) ∧ w'.cell? ⟨wr.heap.size, 1, none⟩ = some (.int .i64 sz)) (exact ⟨c0, c1⟩) ((first
        | (go_at_call 15; refine (HIT.out _ (HV.out.ext (ext_trans G1.out gg))).mono ?_; rintro e w5 ⟨rfl, g5⟩; have hq := (g5.block _ (cell_lt c0)).trans hq; have c0 := (g5.cell (cell_lt c0)).trans c0; have c1 := (g5.cell (cell_lt c1)).trans c1; have hI := hI.ext g5; have gg := ext_trans gg g5; have gs : w1.heap.size ≤ w5.heap.size := gg.size)
        | (go_at_call 14; refine (write_any w1.heap.size w1.heap.size acc t4 _ hI (by omega) gs).mono ?_; rintro e w6 ⟨rfl, hI6, b6, k6⟩; have hq := k6 wr.heap.size _ hq (by simp; omega) (by intro c fz e; cases e); have c0 := cell_row hq 0; have c1 := cell_row hq 1; have gg := gg.trans b6)))
      go_wp2_with fail
      go_roundw
      case rel => exact ⟨j + 1, acc ++ t4, by go_num, by omega, HNX.out, hI6, gg⟩
      case measure => simp [slotN]; omega
    · have HA2 : Hid (acc ++ ((c.lines.drop 0).flatMap lnTxt) = cdTxt c) := Lib.hid (by
        have e : c.arrays.drop j = [] := List.drop_eq_nil_of_le (by omega)
        rw [← hacc, e, List.drop_zero]; rfl)
      obtain ⟨wo, rfl⟩ : ∃ wo : World, wo = wr := ⟨_, rfl⟩
      have hbx : wo.heap[w.heap.size]? = some (.cells #[.slice pa c.arrays.length capa, .slice p c.lines.length cap] 27 (0, 0)) := (hbl.block w.heap.size (by omega)).trans HBX.out
      obtain ⟨c0, c1⟩ := two_cells hbx
      clear hI hbl hacc HA hbx
      go_wp2_with fail
      clear c0 c1
      go_loopw [41] (fun iv wr => ∃ (j : Nat) (acc : List UInt8), iv = .int .i64 j ∧ j ≤ c.lines.length ∧ acc ++ ((c.lines.drop j).flatMap lnTxt) = cdTxt c ∧ Bld w1.heap.size w1.heap.size acc wr ∧ Below w1.heap.size w1 wr) (fun iv wr => c.lines.length - slotN iv)
      case atStart => exact ⟨0, acc, rfl, Nat.zero_le _, HA2.out, HI.out, HB.out⟩
      case round =>
        clear HI HB HA2 HBW
        obtain ⟨i, acc2, rfl, hi, hacc, hI, hbl⟩ := hrel
        have HI := Lib.hid hI
        have HB := Lib.hid hbl
        have HA := Lib.hid hacc
        have hs2 : w1.heap.size < wr.heap.size := hI.lt
        have HBW := Lib.hid (ext_trans G1.out hbl)
        by_cases h : i < c.lines.length
        · obtain ⟨a, rfl, k⟩ := HC.out i h
          obtain ⟨k0, k1, k2, k3, k4, k5, k6⟩ := ln_at (k.ext HBW.out)
          have HNX : Hid ((acc2 ++ lnTxt (c.lines[i]'h)) ++ ((c.lines.drop (i + 1)).flatMap lnTxt) = cdTxt c) := Lib.hid (by
            rw [← hacc, List.drop_eq_getElem_cons h, List.flatMap_cons]
            simp only [List.append_assoc])
          have hlen : acc2.length + (lnTxt (c.lines[i]'h)).length ≤ 100000000 := by
            have := app_len HNX.out
            rw [List.length_append] at this
            omega
          have hok := HLN.out i h
          have hn6 := HN.out _ (List.getElem_mem h)
          clear k hI hbl hacc
          generalize c.lines[i]'h = l at *
          obtain ⟨lab, x⟩ := l
          simp only at k0 k1 k2 k3 k4 k5 k6 hok hn6
          have tl : (mk lab).toList = lab := mk_tl _
          by_cases h0 : lab = []
          · subst h0
            obtain ⟨hr, _⟩ := hok.2 rfl
            have HPR := Lib.hid (fun w hv => print_yes x w hn6 hr hv)
            unfold inV at HPR
            have e0 : lnTxt ⟨[], x⟩ = 9 :: txtL x ++ [10] := rfl
            have e1 : (⟨#[9]⟩ : ByteArray) ++ mk (txtL x) = mk (9 :: txtL x) := mk_app [9] (txtL x)
            have e2' : mk (9 :: txtL x) ++ (⟨#[10]⟩ : ByteArray) = mk (lnTxt ⟨[], x⟩) := by rw [e0]; exact mk_app (9 :: txtL x) [10]
            have l1 : (txtL x).length + 2 = (lnTxt ⟨[], x⟩).length := by rw [e0]; simp
            have s9 : (⟨#[9]⟩ : ByteArray).size = 1 := rfl
            have s1' : (⟨#[10]⟩ : ByteArray).size = 1 := rfl
            have sx : (mk (txtL x)).size = (txtL x).length := rfl
            have sy : (mk (9 :: txtL x)).size = (txtL x).length + 1 := rfl
            have b1 : ¬ 9223372036854775807 < 1 + (txtL x).length := by omega
            have b2 : ¬ 9223372036854775807 < (txtL x).length + 1 + 1 := by omega
            have L1 := Lib.hid l1
            clear l1 e0 hok hr
            generalize lnTxt ⟨[], x⟩ = t2 at *
            generalize (9 :: txtL x) = t1 at *
            generalize txtL x = t0 at *
            go_wp2_with fail
            refine (HPR.out _ (HV.out.ext (ext_alloc HBW.out _))).mono ?_; rintro e w5 ⟨rfl, g5⟩
            have gg := ext_trans (ext_alloc HB.out _) g5
            have gs : w1.heap.size ≤ w5.heap.size := gg.size
            have hI := ((HI.out.alloc (.cells #[.string ⟨#[]⟩, .int .i64 x.op, .int .i64 x.d, .int .i64 x.a, .int .i64 x.b, .int .i64 x.n, .string (mk x.name)] 48)).ext g5)
            go_wp2_with fail
            refine (write_any w1.heap.size w1.heap.size acc2 t2 _ hI (by omega) gs).mono ?_; rintro e w6 ⟨rfl, hI6, b6, k6⟩
            have HGG := Lib.hid (gg.trans b6)
            clear gg g5 b6 k6 hI
            go_wp2_with fail
            go_roundw
            case rel => exact ⟨i + 1, acc2 ++ t2, by go_num, by omega, HNX.out, hI6, HGG.out⟩
            case measure => simp [slotN]; omega
          · have hie := ie_ne h0
            have e0 : lnTxt ⟨lab, x⟩ = lab ++ [58, 10] := by unfold lnTxt; rw [if_pos h0]
            have e1 : mk lab ++ (⟨#[58, 10]⟩ : ByteArray) = mk (lnTxt ⟨lab, x⟩) := by rw [e0]; exact mk_app lab [58, 10]
            have l1 : lab.length + 2 = (lnTxt ⟨lab, x⟩).length := by rw [e0]; simp
            have s9 : (⟨#[58, 10]⟩ : ByteArray).size = 2 := rfl
            have sx : (mk lab).size = lab.length := rfl
            have b1 : ¬ 9223372036854775807 < lab.length + 2 := by omega
            have L1 := Lib.hid l1
            clear l1 e0 hok h0
            generalize lnTxt ⟨lab, x⟩ = t2 at *
            go_wp2_with fail
            refine (write_any w1.heap.size w1.heap.size acc2 t2 _ (HI.out.alloc _) (by omega) (by simp; omega)).mono ?_; rintro e w6 ⟨rfl, hI6, b6, k6⟩
            have HGG := Lib.hid ((ext_alloc HB.out _).trans b6)
            clear b6 k6
            go_wp2_with fail
            go_roundw
            case rel => exact ⟨i + 1, acc2 ++ t2, by go_num, by omega, HNX.out, hI6, HGG.out⟩
            case measure => simp [slotN]; omega
        · have HA2 : Hid (acc2 = cdTxt c) := Lib.hid (by rw [← hacc, List.drop_eq_nil_of_le (by omega)]; simp)
          have HST := Lib.hid (Tryz.Builder_String_any_f w1.heap.size w1.heap.size acc2 wr hI (by omega))
          clear hI hbl hacc HI
          go_wp2_with fail
          refine HST.out.mono ?_; rintro e w6 ⟨rfl, _, b6⟩
          have HGG := Lib.hid (ext_trans G1.out (HB.out.trans b6))
          clear b6
          go_wp2_with fail
          go_ret2
          exact ⟨by rw [← HA2.out]; rfl, HGG.out⟩
end Go.Proofs.YtlaihjefmhcmcaaGreatDoor
