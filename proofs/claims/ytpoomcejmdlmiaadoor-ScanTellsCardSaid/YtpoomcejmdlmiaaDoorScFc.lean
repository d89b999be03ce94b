/- The document's own answer: space, walked. -/
import Derived.Test.YtpoomcejmdlmiaaDoorRows
import Derived.WalkKit
import Derived.ProofKit
import Derived.OpenShut
import Derived.WalkLawsBesides
import Derived.WalkSpells
import Derived.Outline
import Derived.Handy
import Derived.Lib.Hide
import Derived.Lib.OthersKept
import Derived.KernelRfl
import Derived.Test.YtpoomcejmdlmiaaDoorScFb
namespace Go.Proofs.YtpoomcejmdlmiaaDoor
open Go.ChangeShapes Go.WideShapes Go.ChangeAt Go.RowKit
set_option linter.unusedVariables false
def slotN (v : Value) : Nat := match v with | .int _ x => x.toNat | _ => 0
theorem byte_is (T : List UInt8) (j : Nat) (h : j < T.length) (p : j < (mk T).size) : (mk T)[j]'p = T[j]'h := by
  have h2 : j < T.toArray.size := by simpa using h
  show T.toArray[j]'h2 = _
  simp
theorem cut_list (l : List UInt8) (i n : Nat) : (mk l).extract i (i + n) = mk ((l.drop i).take n) := by
  apply bytes_inj
  rw [Lib.extract_data, mk_list, mk_list, Nat.add_sub_cancel_left]
theorem line_bytes (l : List UInt8) (i : Nat) : (∀ k (h : k < l.length), i ≤ k → k < i + (lineA (l.drop i)).length → l[k]'h ≠ 10) ∧ (∀ h : i + (lineA (l.drop i)).length < l.length, l[i + (lineA (l.drop i)).length]'h = 10) := by
  have e := line_app (l.drop i)
  refine ⟨fun k h h1 h2 => ?_, fun h => ?_⟩
  · have g : l[k]? = (lineA (l.drop i))[k - i]? := by
      have e2 : (l.drop i)[k - i]? = l[k]? := by rw [List.getElem?_drop]; congr 1; omega
      rw [← e2]
      conv => lhs; rw [← e]
      rw [List.getElem?_append_left (by omega)]
    rw [List.getElem?_eq_getElem h, List.getElem?_eq_getElem (by omega)] at g
    rw [Option.some.inj g]
    exact lineA_no _ _ (List.getElem_mem _)
  · have e2 : (l.drop i)[(lineA (l.drop i)).length]? = l[i + (lineA (l.drop i)).length]? := List.getElem?_drop
    have g : (l.drop i)[(lineA (l.drop i)).length]? = (lineD (l.drop i))[0]? := by
      conv => lhs; rw [← e]
      rw [List.getElem?_append_right (by rw [e]; exact Nat.le_refl _)]
      congr 1
      rw [e]; exact Nat.sub_self _
    rw [e2, List.getElem?_eq_getElem h] at g
    rcases lineD_head (l.drop i) with k | ⟨r, k⟩
    · rw [k] at g; cases g
    · rw [k] at g; exact Option.some.inj g
set_option maxHeartbeats 4000000 in
set_option maxRecDepth 100000 in
theorem space_any (l : List UInt8) (at' : Nat) (hat : at' ≤ l.length) (hl : l.length ≤ 20000) (w : World) :
    Calls Tryd.prog 14 #[.string (mk l), .int .i64 at'] w fun e w' => e = .returned (.tuple #[.int .i64 ((sp (l.drop at')).1 : Nat), .bool (sp (l.drop at')).2]) ∧ Below w.heap.size w w' := by
  have hsz : (mk l).size = l.length := rfl
  obtain ⟨R, hR⟩ : ∃ R, sp (l.drop at') = R := ⟨_, rfl⟩
  have HR := Lib.hid hR
  rw [hR]
  clear hR
  obtain ⟨R1, R2⟩ := R
  go_enter Tryd.func14, Tryd.ntmps14
  go_wp2_with fail
  go_loopw [6] (fun iv wr => ∃ i : Nat, iv = .int .i64 i ∧ at' ≤ i ∧ i ≤ l.length ∧ Below w.heap.size w wr ∧ (sp (l.drop i)).1 + (i - at') = R1 ∧ (sp (l.drop i)).2 = R2) (fun iv wr => l.length - slotN iv)
  case atStart => exact ⟨at', rfl, Nat.le_refl _, hat, Below.refl _ _, by rw [HR.out, Nat.sub_self]; rfl, by rw [HR.out]⟩
  case round =>
    obtain ⟨i, rfl, hi1, hi2, hb, hr1, hr2⟩ := hrel
    have HB := Lib.hid hb
    have HR1 := Lib.hid hr1
    have HR2 := Lib.hid hr2
    clear hb hr1 hr2
    by_cases h : i < l.length
    · have HCT : Hid (∀ q, (((mk l)[i]'q).toNat : Int) = ((l[i]'h).toNat : Int)) := Lib.hid (fun q => by rw [byte_is l i h q])
      have HDR := Lib.hid (List.drop_eq_getElem_cons h)
      obtain ⟨c, hc⟩ : ∃ c, l[i]'h = c := ⟨_, rfl⟩
      rw [hc] at HCT HDR
      by_cases hbl : blankR (c.toNat : Int) = true
      · have hs := sp_blank (r := l.drop (i + 1)) hbl
        rw [← HDR.out] at hs
        have HS := Lib.hid hs
        have hv := of_decide_eq_true (show decide _ = true from hbl)
        clear hs hbl HDR hc
        rcases hv with e | e | e | e
        all_goals
          rw [e] at HCT
          have hct := HCT.out
          clear HCT e
          go_wp2_with fail
          go_roundw
          case rel => exact ⟨i + 1, by go_num, by omega, by omega, HB.out, by have := HR1.out; rw [HS.out] at this; simp only at this; omega, by have := HR2.out; rw [HS.out] at this; exact this⟩
          case measure => simp [slotN]; omega
      · have hv := of_decide_eq_false (show decide _ = false from (Bool.not_eq_true _).mp hbl)
        have b1 : ((c.toNat : Int) == 32) = false := beq_eq_false_iff_ne.2 (fun e => hv (.inl e))
        have b2 : ((c.toNat : Int) == 9) = false := beq_eq_false_iff_ne.2 (fun e => hv (.inr (.inl e)))
        have b3 : ((c.toNat : Int) == 10) = false := beq_eq_false_iff_ne.2 (fun e => hv (.inr (.inr (.inl e))))
        have b4 : ((c.toNat : Int) == 13) = false := beq_eq_false_iff_ne.2 (fun e => hv (.inr (.inr (.inr e))))
        have HBL := Lib.hid hbl
        clear hv hbl
        by_cases hsl : slB (l.drop i) = true
        · obtain ⟨r, hlr⟩ := (slB_iff _).1 hsl
          have hc47 : c = 47 := by
            have := HDR.out
            rw [hlr] at this
            injection this with e _
            exact e.symm
          have hl2 : i + 1 < l.length := by
            have := congrArg List.length hlr
            rw [List.length_drop] at this
            simp at this
            omega
          have hc2 : l[i + 1]'hl2 = 47 := by
            have e1 : l.drop (i + 1) = 47 :: r := by
              have := HDR.out
              rw [hlr] at this
              injection this with _ e
              exact e.symm
            rw [List.drop_eq_getElem_cons hl2] at e1
            injection e1
          have hct2 : ∀ q, (((mk l)[i + 1]'q).toNat : Int) = 47 := fun q => by rw [byte_is l (i + 1) hl2 q, hc2]; rfl
          have hcc : (c.toNat : Int) = 47 := by rw [hc47]; rfl
          rw [hcc] at HCT
          have hct := HCT.out
          have hge : decide ((l.length : Int) ≤ (i : Int) + 1) = false := decide_eq_false (by omega)
          obtain ⟨LB1, LB2⟩ := line_bytes l i
          have HL1 := Lib.hid LB1
          have HL2 := Lib.hid LB2
          have hsl2 := sl_len hsl
          rw [List.length_drop] at hsl2
          have hA := line_take (l.drop i)
          have HEX : Hid ((mk l).extract i (i + (lineA (l.drop i)).length) = mk (lineA (l.drop i))) := Lib.hid (by rw [cut_list, hA])
          have HSP : Hid (if badL (lineA (l.drop i)) = true then sp (l.drop i) = (0, false) else sp (l.drop i) = ((sp (l.drop (i + (lineA (l.drop i)).length))).1 + (lineA (l.drop i)).length, (sp (l.drop (i + (lineA (l.drop i)).length))).2)) := Lib.hid (by
            have h1 : ¬ blankR (c.toNat : Int) = true := HBL.out
            have hs : slB (c :: l.drop (i + 1)) = true := by rw [← HDR.out]; exact hsl
            have hd2 : l.drop (i + (lineA (l.drop i)).length) = lineD (l.drop i) := by rw [← List.drop_drop, line_drop]
            split
            · rename_i hbad
              rw [HDR.out] at hbad ⊢
              exact sp_bad h1 hs hbad
            · rename_i hbad
              rw [hd2]
              rw [HDR.out] at hbad ⊢
              exact sp_line h1 hs hbad)
          have hle : i + (lineA (l.drop i)).length ≤ l.length := by omega
          clear LB1 LB2 hA hlr hsl hc2 hc47 hcc HCT hc HDR HBL b1 b2 b3 b4
          generalize lineA (l.drop i) = A at *
          have hszA : (mk A).size = A.length := rfl
          go_wp2_with fail
          clear hct hct2 hge
          obtain ⟨wo, rfl⟩ : ∃ wo : World, wo = wr := ⟨_, rfl⟩
          go_loopw [7] (fun kv wr => ∃ k : Nat, kv = .int .i64 k ∧ i ≤ k ∧ k ≤ i + A.length ∧ Below wo.heap.size wo wr) (fun kv wr => i + A.length - slotN kv)
          case atStart => exact ⟨i, rfl, Nat.le_refl _, by omega, Below.refl _ _⟩
          case round =>
            obtain ⟨k, rfl, hk1, hk2, hbk⟩ := hrel
            have HBK := Lib.hid hbk
            clear hbk
            by_cases hk : k < i + A.length
            · have hkl : k < l.length := by omega
              have hct : ∀ q, ((((mk l)[k]'q).toNat : Int) != 10) = true := fun q => by
                rw [byte_is l k hkl q]
                exact bne_iff_ne.2 (fun e => HL1.out k hkl hk1 hk (UInt8.toNat_inj.1 (by show (l[k]'hkl).toNat = 10; omega)))
              go_wp2_with fail
              go_roundw
              case rel => exact ⟨k + 1, by go_num, by omega, by omega, HBK.out⟩
              case measure => simp [slotN]; omega
            · obtain rfl : k = i + A.length := by omega
              by_cases hkl : i + A.length < l.length
              · have hct : ∀ q, ((((mk l)[i + A.length]'q).toNat : Int) != 10) = false := fun q => by
                  rw [byte_is l _ hkl q, HL2.out hkl]
                  rfl
                have hex := HEX.out
                go_wp2_with fail
                clear hct hex
                obtain ⟨wq, rfl⟩ : ∃ wq : World, wq = wr := ⟨_, rfl⟩
                go_loopw [9] (fun rv wr => ∃ pos : Nat, pos ≤ A.length ∧ wr.heap[wq.heap.size]? = some (.stringIter (mk A) pos) ∧ Below wq.heap.size wq wr ∧ bdR (mk A) A.length pos = badL A) (fun rv wr => A.length - wr.iterPos wq.heap.size)
                case atStart => exact ⟨0, Nat.zero_le _, World.iter_heap _ _ _, (Below.refl _ _).alloc (Nat.le_refl _) _, rfl⟩
                case round =>
                  obtain ⟨pos, hp, hit, hbp, hbd⟩ := hrel
                  have HI := Lib.hid hit
                  have HBD := Lib.hid hbd
                  clear hbd
                  by_cases hlt : pos < (mk A).size
                  · have hw1 := wd_pos (mk A) pos hlt
                    have hw2 := wd_le (mk A) pos hlt
                    have hnx := fun ty => next_at (P := Tryd.prog) ty hit hlt
                    have hit2 := Lib.hid (Lib.iterAt_heap wr _ (mk A) pos (pos + wd (mk A) pos) hit)
                    have hb2 := Lib.hid (Lib.below_iterAt hbp (Nat.le_refl _) (mk A) (pos + wd (mk A) pos))
                    have hst := bdR_step (mk A) pos hlt
                    have HST := Lib.hid (show bdR (mk A) A.length pos = _ from hst)
                    clear hit hst hbp
                    by_cases hbad : rn (mk A) pos = 65533
                    · have e4 : (rn (mk A) pos == 65533) = true := beq_iff_eq.2 hbad
                      have HBA : Hid (badL A = true) := Lib.hid (by rw [← HBD.out, HST.out, if_pos hbad])
                      have hsp := HSP.out
                      rw [if_pos HBA.out] at hsp
                      have h1 := HR1.out
                      have h2 := HR2.out
                      rw [hsp] at h1 h2
                      have h1 : i - at' = R1 := by simp only at h1; omega
                      have h2 : false = R2 := h2
                      subst h1 h2
                      clear hsp hbad
                      go_wp2_with fail
                      go_ret2
                      exact ⟨by rw [show (((i - at' : Nat)) : Int) = (i : Int) - at' from by omega]; rfl, ext_trans HB.out (ext_trans HBK.out hb2.out)⟩
                    · have e4 : (rn (mk A) pos == 65533) = false := beq_eq_false_iff_ne.2 hbad
                      have HNX : Hid (bdR (mk A) A.length (pos + wd (mk A) pos) = badL A) := Lib.hid (by rw [← HBD.out, HST.out, if_neg hbad]; rfl)
                      clear hbad
                      go_wp2_with fail
                      go_roundw
                      case rel => exact ⟨pos + wd (mk A) pos, hw2, hit2.out, hb2.out, HNX.out⟩
                      case measure =>
                        have a : wr.iterPos wq.heap.size = pos := by simp [World.iterPos, HI.out]
                        have b : (wr.iterAt wq.heap.size (mk A) (pos + wd (mk A) pos)).iterPos wq.heap.size = pos + wd (mk A) pos := by simp [World.iterPos, hit2.out]
                        omega
                  · have hnx := fun ty => next_end (P := Tryd.prog) ty hit hlt
                    have HBA : Hid (¬ badL A = true) := Lib.hid (by rw [← HBD.out, bdR_end _ _ _ hlt]; simp)
                    have hsp := HSP.out
                    rw [if_neg HBA.out] at hsp
                    have HSQ := Lib.hid hsp
                    have HBP := Lib.hid hbp
                    clear hit hsp hbp
                    go_wp2_with fail
                    go_roundw
                    case rel => exact ⟨i + A.length, by go_num, by omega, by omega, ext_trans HB.out (ext_trans HBK.out HBP.out), by have := HR1.out; rw [HSQ.out] at this; simp only at this; omega, by have := HR2.out; rw [HSQ.out] at this; exact this⟩
                    case measure => simp [slotN]; omega
              · have hkl2 : ¬ ((i : Int) + A.length < (l.length : Int)) := by omega
                have hex := HEX.out
                go_wp2_with fail
                clear hex
                obtain ⟨wq, rfl⟩ : ∃ wq : World, wq = wr := ⟨_, rfl⟩
                go_loopw [9] (fun rv wr => ∃ pos : Nat, pos ≤ A.length ∧ wr.heap[wq.heap.size]? = some (.stringIter (mk A) pos) ∧ Below wq.heap.size wq wr ∧ bdR (mk A) A.length pos = badL A) (fun rv wr => A.length - wr.iterPos wq.heap.size)
                case atStart => exact ⟨0, Nat.zero_le _, World.iter_heap _ _ _, (Below.refl _ _).alloc (Nat.le_refl _) _, rfl⟩
                case round =>
                  obtain ⟨pos, hp, hit, hbp, hbd⟩ := hrel
                  have HI := Lib.hid hit
                  have HBD := Lib.hid hbd
                  clear hbd
                  by_cases hlt : pos < (mk A).size
                  · have hw1 := wd_pos (mk A) pos hlt
                    have hw2 := wd_le (mk A) pos hlt
                    have hnx := fun ty => next_at (P := Tryd.prog) ty hit hlt
                    have hit2 := Lib.hid (Lib.iterAt_heap wr _ (mk A) pos (pos + wd (mk A) pos) hit)
                    have hb2 := Lib.hid (Lib.below_iterAt hbp (Nat.le_refl _) (mk A) (pos + wd (mk A) pos))
                    have hst := bdR_step (mk A) pos hlt
                    have HST := Lib.hid (show bdR (mk A) A.length pos = _ from hst)
                    clear hit hst hbp
                    by_cases hbad : rn (mk A) pos = 65533
                    · have e4 : (rn (mk A) pos == 65533) = true := beq_iff_eq.2 hbad
                      have HBA : Hid (badL A = true) := Lib.hid (by rw [← HBD.out, HST.out, if_pos hbad])
                      have hsp := HSP.out
                      rw [if_pos HBA.out] at hsp
                      have h1 := HR1.out
                      have h2 := HR2.out
                      rw [hsp] at h1 h2
                      have h1 : i - at' = R1 := by simp only at h1; omega
                      have h2 : false = R2 := h2
                      subst h1 h2
                      clear hsp hbad
                      go_wp2_with fail
                      go_ret2
                      exact ⟨by rw [show (((i - at' : Nat)) : Int) = (i : Int) - at' from by omega]; rfl, ext_trans HB.out (ext_trans HBK.out hb2.out)⟩
                    · have e4 : (rn (mk A) pos == 65533) = false := beq_eq_false_iff_ne.2 hbad
                      have HNX : Hid (bdR (mk A) A.length (pos + wd (mk A) pos) = badL A) := Lib.hid (by rw [← HBD.out, HST.out, if_neg hbad]; rfl)
                      clear hbad
                      go_wp2_with fail
                      go_roundw
                      case rel => exact ⟨pos + wd (mk A) pos, hw2, hit2.out, hb2.out, HNX.out⟩
                      case measure =>
                        have a : wr.iterPos wq.heap.size = pos := by simp [World.iterPos, HI.out]
                        have b : (wr.iterAt wq.heap.size (mk A) (pos + wd (mk A) pos)).iterPos wq.heap.size = pos + wd (mk A) pos := by simp [World.iterPos, hit2.out]
                        omega
                  · have hnx := fun ty => next_end (P := Tryd.prog) ty hit hlt
                    have HBA : Hid (¬ badL A = true) := Lib.hid (by rw [← HBD.out, bdR_end _ _ _ hlt]; simp)
                    have hsp := HSP.out
                    rw [if_neg HBA.out] at hsp
                    have HSQ := Lib.hid hsp
                    have HBP := Lib.hid hbp
                    clear hit hsp hbp
                    go_wp2_with fail
                    go_roundw
                    case rel => exact ⟨i + A.length, by go_num, by omega, by omega, ext_trans HB.out (ext_trans HBK.out HBP.out), by have := HR1.out; rw [HSQ.out] at this; simp only at this; omega, by have := HR2.out; rw [HSQ.out] at this; exact this⟩
                    case measure => simp [slotN]; omega
        · by_cases hl2 : i + 1 < l.length
          · have hge : decide ((l.length : Int) ≤ (i : Int) + 1) = false := decide_eq_false (by omega)
            by_cases hc47 : c = 47
            · have hc2 : l[i + 1]'hl2 ≠ 47 := fun e => hsl ((slB_iff _).2 ⟨l.drop (i + 1 + 1), by rw [HDR.out, hc47, List.drop_eq_getElem_cons hl2, e]⟩)
              have hct2 : ∀ q, ((((mk l)[i + 1]'q).toNat : Int) != 47) = true := fun q => by
                rw [byte_is l (i + 1) hl2 q]
                exact bne_iff_ne.2 (fun e => hc2 (UInt8.toNat_inj.1 (by show (l[i + 1]'hl2).toNat = 47; omega)))
              have hcc : ((c.toNat : Int) != 47) = false := by rw [hc47]; rfl
              clear hc2
              have HS : Hid (sp (l.drop i) = (0, true)) := Lib.hid (by rw [HDR.out]; exact sp_none HBL.out (by rw [← HDR.out]; exact hsl))
              have h1 := HR1.out
              have h2 := HR2.out
              rw [HS.out] at h1 h2
              have h1 : i - at' = R1 := by simp only at h1; omega
              have h2 : true = R2 := h2
              subst h1 h2
              have hct := HCT.out
              clear HDR hc hsl HBL
              go_wp2_with fail
              go_ret2
              exact ⟨by rw [show (((i - at' : Nat)) : Int) = (i : Int) - at' from by omega]; rfl, HB.out⟩
            · have hcc : ((c.toNat : Int) != 47) = true := bne_iff_ne.2 (fun e => hc47 (UInt8.toNat_inj.1 (by show c.toNat = 47; omega)))
              clear hc47
              have HS : Hid (sp (l.drop i) = (0, true)) := Lib.hid (by rw [HDR.out]; exact sp_none HBL.out (by rw [← HDR.out]; exact hsl))
              have h1 := HR1.out
              have h2 := HR2.out
              rw [HS.out] at h1 h2
              have h1 : i - at' = R1 := by simp only at h1; omega
              have h2 : true = R2 := h2
              subst h1 h2
              have hct := HCT.out
              clear HDR hc hsl HBL
              go_wp2_with fail
              go_ret2
              exact ⟨by rw [show (((i - at' : Nat)) : Int) = (i : Int) - at' from by omega]; rfl, HB.out⟩
          · have hge : decide ((l.length : Int) ≤ (i : Int) + 1) = true := decide_eq_true (by omega)
            have HS : Hid (sp (l.drop i) = (0, true)) := Lib.hid (by rw [HDR.out]; exact sp_none HBL.out (by rw [← HDR.out]; exact hsl))
            have h1 := HR1.out
            have h2 := HR2.out
            rw [HS.out] at h1 h2
            have h1 : i - at' = R1 := by simp only at h1; omega
            have h2 : true = R2 := h2
            subst h1 h2
            have hct := HCT.out
            clear HDR hc hsl HBL
            go_wp2_with fail
            go_ret2
            exact ⟨by rw [show (((i - at' : Nat)) : Int) = (i : Int) - at' from by omega]; rfl, HB.out⟩
    · obtain rfl : i = l.length := by omega
      have h1 := HR1.out
      have h2 := HR2.out
      rw [List.drop_length, sp_nil] at h1 h2
      have h1 : l.length - at' = R1 := by simp only at h1; omega
      have h2 : true = R2 := h2
      subst h1 h2
      go_wp2_with fail
      go_ret2
      exact ⟨by rw [show (((l.length - at' : Nat)) : Int) = (l.length : Int) - at' from by omega]; rfl, HB.out⟩
end Go.Proofs.YtpoomcejmdlmiaaDoor
