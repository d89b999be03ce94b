/- The walk of AsmLeads. -/
import Derived.Test.YtiimhbibdfaefaaGreatDoorRows
import Derived.WalkKit
import Derived.ProofKit
import Derived.OpenShut
import Derived.WalkLawsBesides
import Derived.WalkSpells
import Derived.Outline
import Derived.Handy
import Derived.Lib.Hide
import Derived.Lib.OthersKept
import Derived.KernelRfl
import Derived.Carry
import Derived.RegionTactic
import Derived.BigRegion
import Derived.BigQuiet
import Derived.Deep.QuietTactic
import Derived.Test.YtiimhbibdfaefaaGreatDoorAsB
namespace Go.Proofs.YtiimhbibdfaefaaGreatDoor
open Go.ChangeShapes Go.WideShapes Go.ChangeAt Go.RowKit
set_option linter.unusedVariables false
theorem row_num2 {w : World} {base : Nat} {e : TypeId} {p : Option Addr} {m n cap : Nat} {L : List Int} (h : w.ownsRow base e 1 (.slice p m cap) n (L.flatMap cellsN)) {i : Nat} {x : Int} (hx : L[i]? = some x) :
    ∃ g, p = some ⟨g, 0, none⟩ ∧ g < w.heap.size ∧ w.cell? ⟨g, i, none⟩ = some (.int .i64 x) := by
  obtain ⟨hi, hx⟩ := List.getElem?_eq_some_iff.1 hx
  exact row_num h hi hx
set_option maxHeartbeats 4000000 in
set_option maxRecDepth 100000 in
theorem leads_walk (rv : Value) (raw : List Ln) (w : World) (h : LnsAt w rv raw) (hr : AllRaw raw) (hv : Env w) : Calls Tryz.prog 5 #[rv] w fun e w' => e = .returned (.bool true) ∧ Below w.heap.size w w' := by
  have HR := Lib.hid hr
  have HRW := Lib.hid h
  have HAW := Lib.hid (awake8_any w hv)
  have HV := Lib.hid hv
  have HFI := Lib.hid (fun w' (g : Below w.heap.size w w') => lawfit_any rv raw w' (h.ext g) hr)
  have hml := fitC_len raw hr
  have HC : Hid (∀ (w' : World) (B : Nat) (pa pl : Option Addr) (ca cl : Nat), w'.ownsRow B 53 2 (.slice pa 2 ca) 2 (arrsAB.flatMap cellsA) → w'.ownsRow B 29 7 (.slice pl (fitC raw).lines.length cl) (fitC raw).lines.length ((fitC raw).lines.flatMap cellsL) → CdAt w' (.agg #[.slice pa 2 ca, .slice pl (fitC raw).lines.length cl]) (fitC raw)) := Lib.hid (fun w' B pa pl ca cl h1 h2 => fit_code hr h1 h2)
  have HOK : Hid ((faultL (fitC raw)).1 = 0) := Lib.hid (by rw [fitC_ok raw hr])
  have HFT := Lib.hid (fitC_fit raw hr)
  have HLI := Lib.hid (fitC_lines raw hr)
  obtain ⟨hn, p, cap, rfl, _⟩ := h
  clear hr hv HR
  generalize fitC raw = c at *
  have hfl : (flatI c.lines).length ≤ 41 := by
    have : (flatI c.lines).length ≤ c.lines.length := by unfold flatI; rw [List.length_map]; exact List.length_filter_le _ _
    omega
  go_enter Tryz.func5, Tryz.ntmps5
  go_wp2_with fail
  refine HAW.out.mono ?_; rintro e w1 ⟨rfl, g1⟩
  have G1 := Lib.hid g1
  clear g1
  go_wp2_with fail
  refine (HFI.out _ G1.out).mono ?_; rintro e w2 ⟨hres, g2⟩
  obtain ⟨pa, ca, pl, cl, rfl, ha, hl⟩ := hres.shape
  have HA := Lib.hid ha
  have HL := Lib.hid hl
  have G2 := Lib.hid (ext_trans G1.out g2)
  clear hres g2 ha hl
  go_wp2_with fail
  have HFL := Lib.hid (flat_yes _ c _ (HC.out _ _ _ _ _ _ (own_ext HA.out (ext_alloc (Below.refl _ _) (.cells #[.slice pa 2 ca, .slice pl c.lines.length cl] 25))) (own_ext HL.out (ext_alloc (Below.refl _ _) (.cells #[.slice pa 2 ca, .slice pl c.lines.length cl] 25)))) HFT.out HOK.out)
  refine HFL.out.mono ?_; rintro e w3 ⟨hres, g3⟩
  obtain ⟨p1, c1, p2, c2, rfl, h1, h2⟩ := hres.shape
  have H1 := Lib.hid h1
  have H2 := Lib.hid h2
  have HB := Lib.hid ((g3.block w2.heap.size (by simp)).trans (heap_new w2 _))
  have G3 := Lib.hid (ext_trans (ext_alloc G2.out _) g3)
  have HL3 := Lib.hid (own_ext (own_ext HL.out (ext_alloc (Below.refl _ _) (.cells #[.slice pa 2 ca, .slice pl c.lines.length cl] 25))) g3)
  have l3 : w2.heap.size < w3.heap.size := (Array.getElem?_eq_some_iff.1 HB.out).1
  clear hres h1 h2 g3 HFL HL HA
  go_wp2_with fail
  go_loopw [7, 8] (fun nv iv wr => ∃ i : Nat, iv = .int .i64 i ∧ i ≤ c.lines.length ∧ nv = .int .i64 (freeN c.lines i) ∧ Below w3.heap.size w3 wr) (fun nv iv wr => c.lines.length - slotN iv)
  case atStart => exact ⟨0, rfl, Nat.zero_le _, rfl, Below.refl _ _⟩
  case round =>
    obtain ⟨i, rfl, hi, rfl, hbl⟩ := hrel
    have HBL := Lib.hid hbl
    have HBX := Lib.hid ((hbl.block w2.heap.size l3).trans HB.out)
    obtain ⟨c0, c1'⟩ := two_cells HBX.out
    have lr : w2.heap.size < wr.heap.size := (Array.getElem?_eq_some_iff.1 HBX.out).1
    by_cases h : i < c.lines.length
    · have hiL : i < c.lines.length := h
      have hli := HLI.out i hiL
      have hok := ok_line hli.1
      have HST := Lib.hid (free_step c.lines i hiL)
      have HFA := Lib.hid (free_at c.lines i hiL)
      obtain ⟨l, hle⟩ : ∃ l, c.lines[i]'hiL = l := ⟨_, rfl⟩
      obtain ⟨g, hg, hgl, k0, k1, k2, k3, k4, k5, k6⟩ := row_line (own_ext HL3.out hbl) hiL hle
      rw [hle] at hok HST HFA
      have HHAS : Hid (l.label = [] → l.ins.name ≠ [] → l.ins.op ≠ 17 → hasLab c.lines l.ins.name = true) := Lib.hid (fun e1 e2 e3 => by have := (hok.2 e1).2 e2; rw [if_neg e3] at this; exact this)
      subst hg
      clear hli hok hbl hle
      obtain ⟨lab, x⟩ := l
      simp only at k0 k1 k2 k3 k4 k5 k6 HST HFA HHAS
      have tl : (mk lab).toList = lab := mk_tl _
      by_cases h0 : lab = []
      · subst h0
        obtain ⟨hf1, hf2⟩ := HFA.out rfl
        have HNX : Hid (freeN c.lines (i + 1) = freeN c.lines i + 1) := Lib.hid (by rw [HST.out, if_pos rfl])
        obtain ⟨gi, hgi, hgil, q0, q1, q2, q3, q4, q5⟩ := row_in (own_ext H1.out HBL.out) hf1 hf2
        have hf1' : freeN c.lines i < ((flatI c.lines).map (toL c)).length := by rw [List.length_map]; exact hf1
        have hto : ((flatI c.lines).map (toL c))[freeN c.lines i]'hf1' = toL c x := by rw [List.getElem_map, hf2]
        obtain ⟨gt, hgt, hgtl, r0⟩ := row_num (own_ext H2.out HBL.out) hf1' hto
        subst hgi hgt
        have HTO0 : Hid (((flatI c.lines).map (toL c))[freeN c.lines i]? = some (toL c x)) := Lib.hid (by rw [List.getElem?_eq_getElem hf1', hto])
        clear hf2 hf1' hto HST HFA
        generalize (flatI c.lines).length = F at *
        generalize hfn : freeN c.lines i = n at *
        have HFN := Lib.hid hfn
        clear hfn
        obtain ⟨op, d, a, b, nn, name⟩ := x
        simp only at k0 k1 k2 k3 k4 k5 k6 q0 q1 q2 q3 q4 q5 HHAS
        have tn : (mk name).toList = name := mk_tl _
        have hge : decide ((F : Int) ≤ (n : Int)) = false := decide_eq_false (by omega)
        have hgeN : decide (F ≤ n) = false := decide_eq_false (by omega)
        have hge2 : ¬ (F : Int) ≤ (n : Int) := by omega
        have hnF : (n : Int) < (F : Int) := by omega
        by_cases hn0 : name = []
        · have hto : toL c ⟨op, d, a, b, nn, name⟩ = -1 := by unfold toL; rw [if_pos (.inl hn0)]
          rw [hto] at r0
          subst hn0
          clear hto HHAS
          go_wp2_with fail
          go_quiet (fail)
          go_wp2_with fail
          go_roundw
          case rel => exact ⟨i + 1, by go_num, by omega, by rw [HNX.out]; go_num, ext_drewN (ext_alloc HBL.out _) _⟩
          case measure => simp [slotN]; omega
        · by_cases h17 : op = 17
          · have hto : toL c ⟨op, d, a, b, nn, name⟩ = -1 := by unfold toL; rw [if_pos (.inr h17)]
            rw [hto] at r0
            subst h17
            have hie := ie_ne hn0
            clear hto HHAS hn0
            go_wp2_with fail
            go_quiet (fail)
            go_wp2_with fail
            go_roundw
            case rel => exact ⟨i + 1, by go_num, by omega, by rw [HNX.out]; go_num, ext_drewN (ext_alloc HBL.out _) _⟩
            case measure => simp [slotN]; omega
          · have hto : toL c ⟨op, d, a, b, nn, name⟩ = (aheadL c.lines name : Int) := by unfold toL; rw [if_neg (fun k => k.elim hn0 h17)]
            rw [hto] at r0 HTO0
            have hhas := HHAS.out (by simp) hn0 h17
            obtain ⟨K, hK, hK1, hK2, hK3⟩ := first_at c.lines name hhas
            have hal := ahead_le c.lines name
            have hie := ie_ne hn0
            have h17b : (op == 17) = false := beq_eq_false_iff_ne.2 h17
            have h17c : (op != 17) = true := bne_iff_ne.2 h17
            have HK1 := Lib.hid hK1
            have HK2 := Lib.hid hK2
            have HK3 := Lib.hid hK3
            clear hto HHAS hn0 hhas hK1 hK2 hK3 h17
            generalize aheadL c.lines name = ah at *
            have hz : decide ((0 : Int) ≤ (ah : Int)) = true := decide_eq_true (by omega)
            go_wp2_with fail
            go_quiet (fail)
            go_wp2_with fail
            obtain ⟨wo, rfl⟩ : ∃ wo : World, wo = wr := ⟨_, rfl⟩
            have HTO := HTO0
            go_loopw [11, 12] (fun av kv wr => ∃ k : Nat, kv = .int .i64 k ∧ k ≤ K ∧ av = .int .i64 (freeN c.lines k) ∧ Below w3.heap.size w3 wr ∧ wr.heap[wo.heap.size]? = some (.cells #[.string (mk []), .int .i64 op, .int .i64 d, .int .i64 a, .int .i64 b, .int .i64 nn, .string (mk name)] 29 (0, 0))) (fun av kv wr => K + 1 - slotN kv)
            case atStart => exact ⟨0, rfl, Nat.zero_le _, rfl, ext_drewN (ext_alloc HBL.out _) _, heap_new wo _⟩
            case round =>
              obtain ⟨k, rfl, hk, rfl, hbq, hxq⟩ := hrel
              have HBQ := Lib.hid hbq
              have HXQ := Lib.hid hxq
              clear k0 k1 k2 k3 k4 k5 k6 q0 q1 q2 q3 q4 q5 r0 c0 c1'
              have lq : wo.heap.size < wr.heap.size := (Array.getElem?_eq_some_iff.1 hxq).1
              have lq2 : w2.heap.size < wr.heap.size := by omega
              obtain ⟨c0, c1'⟩ := two_cells ((hbq.block w2.heap.size l3).trans HB.out)
              have x6 : wr.cell? ⟨wo.heap.size, 6, none⟩ = some (.string (mk name)) := (cell_row hxq 6).trans rfl
              obtain ⟨gt2, hgt2, hgt2l, r0⟩ := row_num2 (own_ext H2.out hbq) HTO.out
              injection hgt2 with hgt2
              injection hgt2 with hgt2 _ _
              subst hgt2
              have hkL : k < c.lines.length := by omega
              obtain ⟨lk, hlk⟩ : ∃ lk, c.lines[k]'hkL = lk := ⟨_, rfl⟩
              obtain ⟨g2, hg2, hg2l, k0, _⟩ := row_line (own_ext HL3.out hbq) hkL hlk
              injection hg2 with hg2
              injection hg2 with hg2 _ _
              subst hg2
              have tlk : (mk lk.label).toList = lk.label := mk_tl _
              have hki : (k : Int) < (c.lines.length : Int) := by omega
              have HSK := Lib.hid (free_step c.lines k hkL)
              rw [hlk] at HSK
              have hfk : freeN c.lines k ≤ k := by
                have a : (flatI (c.lines.take k)).length ≤ (c.lines.take k).length := by unfold flatI; rw [List.length_map]; exact List.length_filter_le _ _
                rw [List.length_take] at a
                unfold freeN; omega
              by_cases hkK : k < K
              · have hne : lk.label ≠ name := by rw [← hlk]; exact HK2.out k hkK
                have hneb : (lk.label == name) = false := beq_eq_false_iff_ne.2 hne
                have hneb2 : (lk.label != name) = true := bne_iff_ne.2 hne
                clear hbq hxq hlk hne
                generalize lk.label = lb at *
                by_cases hlb : lb = []
                · have HNK : Hid (freeN c.lines (k + 1) = freeN c.lines k + 1) := Lib.hid (by rw [HSK.out, if_pos hlb])
                  subst hlb
                  clear HSK
                  go_wp2_with fail
                  go_quiet (fail)
                  go_wp2_with fail
                  go_roundw
                  case rel => exact ⟨k + 1, by go_num, by omega, by rw [HNK.out]; go_num, ext_drewN HBQ.out _, HXQ.out⟩
                  case measure => simp [slotN]; omega
                · have hie2 := ie_ne hlb
                  have HNK : Hid (freeN c.lines (k + 1) = freeN c.lines k) := Lib.hid (by rw [HSK.out, if_neg hlb])
                  clear HSK hlb
                  go_wp2_with fail
                  go_quiet (fail)
                  go_wp2_with fail
                  go_roundw
                  case rel => exact ⟨k + 1, by go_num, by omega, by rw [HNK.out], ext_drewN HBQ.out _, HXQ.out⟩
                  case measure => simp [slotN]; omega
              · obtain rfl : k = K := by omega
                have heq : lk.label = name := by rw [← hlk]; exact HK1.out
                have HAH := Lib.hid HK3.out
                clear hbq hxq hlk hkK
                generalize lk.label = lb at *
                subst heq
                generalize freeN c.lines k = fk at *
                obtain rfl : ah = fk := HAH.out
                go_wp2_with fail
                go_quiet (fail)
                go_wp2_with fail
                go_roundw
                case rel => exact ⟨i + 1, by go_num, by omega, by rw [HNX.out]; go_num, ext_drewN HBQ.out _⟩
                case measure => simp [slotN]; omega
      · have hie := ie_ne h0
        have HNX : Hid (freeN c.lines (i + 1) = freeN c.lines i) := Lib.hid (by rw [HST.out, if_neg h0])
        clear h0 HST HFA HHAS
        go_wp2_with fail
        go_roundw
        case rel => exact ⟨i + 1, by go_num, by omega, by rw [HNX.out], ext_alloc HBL.out _⟩
        case measure => simp [slotN]; omega
    · have HFF : Hid (freeN c.lines i = (flatI c.lines).length) := Lib.hid (free_all _ _ (by omega))
      clear hbl
      go_wp2_with fail
      go_ret
      exact ⟨by rw [HFF.out]; simp, ext_trans G3.out HBL.out⟩
end Go.Proofs.YtiimhbibdfaefaaGreatDoor
