/- The document's own answer: token, walked: characters, signs. -/
import Derived.Test.YtpoomcejmdlmiaaDoorRows
import Derived.WalkKit
import Derived.ProofKit
import Derived.OpenShut
import Derived.WalkLawsBesides
import Derived.WalkSpells
import Derived.Outline
import Derived.Handy
import Derived.Lib.Hide
import Derived.Lib.OthersKept
import Derived.KernelRfl
import Derived.Lib.SmallJoins
import Derived.Test.YtpoomcejmdlmiaaDoorScFe
namespace Go.Proofs.YtpoomcejmdlmiaaDoor
open Go.ChangeShapes Go.WideShapes Go.ChangeAt Go.RowKit
set_option linter.unusedVariables false
set_option maxRecDepth 100000 in
set_option maxHeartbeats 2000000 in
theorem rtok_quote (c : UInt8) (r : List UInt8) (hs : slB (c :: r) = false) (hl : (c :: r).length ≤ 20000) (hc : c = 39) (w : World) : Calls Tryd.prog 15 #[.string (mk (c :: r))] w fun e w' => TkR (pieceQ (mk (c :: r)) (rnL (c :: r))) e ∧ Below w.heap.size w w' := by
  obtain ⟨h0, hq⟩ := piece_open hs
  have HCT : Hid (∀ q, (((mk (c :: r))[0]'q).toNat : Int) = (c.toNat : Int)) := Lib.hid (fun q => by rw [byte_is (c :: r) 0 (by simp) q]; rfl)
  have hl1 : 1 ≤ (c :: r).length := by simp
  have hct := HCT.out
  subst hc
  rw [if_neg (by decide), if_neg (by decide), if_pos (by decide)] at hq
  have hqc := quot_char r
  have HQU := Lib.hid (fun w => rquoted_any r w (by simp at hl; omega))
  have HCP := Lib.hid (fun p (h : charP (mk (39 :: r)) = some p) => charP_text h)
  obtain ⟨P, hP⟩ : ∃ P, pieceQ (mk (39 :: r)) (rnL (39 :: r)) = P := ⟨_, rfl⟩
  rw [hP] at hq ⊢
  rw [← hq] at hqc
  have HLE : Hid (∀ p, P = some p → p.len ≤ (39 :: r).length) := Lib.hid (fun p e => piece_len _ _ _ (by rw [hP]; exact e))
  have HCQ : Hid (∀ p, P = some p → p.kind = 3 ∧ p.text = (mk (39 :: r)).extract 0 p.len) := Lib.hid (fun p e => HCP.out p (by rw [← hq]; exact e))
  clear hP hq HCP HCT hs
  generalize quotV (mk r) = qv at *
  subst hqc
  have hsz : (mk (39 :: r)).size = (39 :: r).length := rfl
  cases P with
  | none =>
    have hct : ∀ q, (((mk (39 :: r))[0]'q).toNat : Int) = 39 := hct
    generalize 39 :: r = l at *
    have hl0 : 0 < l.length := by omega
    have hl3 : letterR 39 = false := by decide
    have hd3 : digitR 39 = false := by decide
    go_enter Tryd.func15, Tryd.ntmps15
    go_wp2_with (first | (go_at_call 19; refine (rletter_any _ _).mono ?_; rintro e w' ⟨rfl, rfl⟩) | (go_at_call 20; refine (rdigit_any _ _).mono ?_; rintro e w' ⟨rfl, rfl⟩) | (go_at_call 11; refine (HWD.out _).mono ?_; rintro e w' ⟨rfl, rfl⟩) | (go_at_call 9; refine (HNM.out _).mono ?_; rintro e w' ⟨rfl, rfl⟩))
    refine (HQU.out _).mono ?_; rintro e w1 ⟨rfl, g1⟩
    have HB := Lib.hid (ext_trans (ext_alloc (Below.refl w.heap.size w) _) g1)
    have HX := Lib.hid ((g1.block w.heap.size (by simp)).trans (heap_new w _))
    obtain ⟨⟨c0, c1, c2, c3⟩, f0, f1, f2, f3⟩ := four_at HX.out
    have lx : w.heap.size < w1.heap.size := (Array.getElem?_eq_some_iff.1 HX.out).1
    clear g1
    go_wp2_with fail
    exact bodyPost_ret (v := .tuple #[.agg #[.int .i64 3, .string ByteArray.empty, .int .i64 0, .int .i64 0], .int .i64 0]) (by simp [results, Tryd.results15, go_sem, c0, c1, c2, c3]) rfl
      ⟨⟨_, _, _, _, rfl, rfl⟩, ext_set (ext_set (ext_set (ext_set HB.out (Nat.le_refl _) _) (Nat.le_refl _) _) (Nat.le_refl _) _) (Nat.le_refl _) _⟩
  | some p =>
    have hct : ∀ q, (((mk (39 :: r))[0]'q).toNat : Int) = 39 := hct
    obtain ⟨hk, htx⟩ := HCQ.out p rfl
    have hpl := HLE.out p rfl
    obtain ⟨n, k, t, v⟩ := p
    simp only at hk htx hpl HQU
    subst hk
    generalize 39 :: r = l at *
    have hl0 : 0 < l.length := by omega
    have hl3 : letterR 39 = false := by decide
    have hd3 : digitR 39 = false := by decide
    have hex := htx.symm
    clear htx
    go_enter Tryd.func15, Tryd.ntmps15
    go_wp2_with (first | (go_at_call 19; refine (rletter_any _ _).mono ?_; rintro e w' ⟨rfl, rfl⟩) | (go_at_call 20; refine (rdigit_any _ _).mono ?_; rintro e w' ⟨rfl, rfl⟩) | (go_at_call 11; refine (HWD.out _).mono ?_; rintro e w' ⟨rfl, rfl⟩) | (go_at_call 9; refine (HNM.out _).mono ?_; rintro e w' ⟨rfl, rfl⟩))
    refine (HQU.out _).mono ?_; rintro e w1 ⟨rfl, g1⟩
    have HB := Lib.hid (ext_trans (ext_alloc (Below.refl w.heap.size w) _) g1)
    have HX := Lib.hid ((g1.block w.heap.size (by simp)).trans (heap_new w _))
    obtain ⟨⟨c0, c1, c2, c3⟩, f0, f1, f2, f3⟩ := four_at HX.out
    have lx : w.heap.size < w1.heap.size := (Array.getElem?_eq_some_iff.1 HX.out).1
    clear g1
    go_wp2_with fail
    exact bodyPost_ret (v := .tuple #[.agg #[.int .i64 3, .string t, .int .i64 v, .int .i64 0], .int .i64 n]) (by simp [results, Tryd.results15, go_sem, c0, c1, c2, c3]) rfl
      ⟨⟨_, _, _, _, rfl, rfl, rfl, rfl, rfl⟩, ext_set (ext_set (ext_set (ext_set HB.out (Nat.le_refl _) _) (Nat.le_refl _) _) (Nat.le_refl _) _) (Nat.le_refl _) _⟩
theorem strs6 {w : World} {b : Nat} {t : TypeId} (h : w.heap[b]? = some (.cells #[.string ⟨#[61, 61]⟩, .string ⟨#[33, 61]⟩, .string ⟨#[60, 61]⟩, .string ⟨#[62, 61]⟩, .string ⟨#[60, 60]⟩, .string ⟨#[62, 62]⟩] t (0, 0))) (j : Nat) (hj : j < twoL.length) : w.cell? ⟨b, j, none⟩ = some (.string (mk (twoL[j]'hj))) := by
  rw [cell_row h]
  match j, hj with
  | 0, _ => rfl
  | 1, _ => rfl
  | 2, _ => rfl
  | 3, _ => rfl
  | 4, _ => rfl
  | 5, _ => rfl
  | j + 6, hj => exact absurd (show j + 6 < 6 from hj) (by omega)
theorem byts21 {w : World} {b : Nat} {t : TypeId} {fr : Nat × Nat} (h : w.heap[b]? = some (.cells #[.int .u8 40, .int .u8 41, .int .u8 123, .int .u8 125, .int .u8 91, .int .u8 93, .int .u8 44, .int .u8 59, .int .u8 61, .int .u8 124, .int .u8 94, .int .u8 38, .int .u8 43, .int .u8 45, .int .u8 42, .int .u8 47, .int .u8 37, .int .u8 33, .int .u8 126, .int .u8 60, .int .u8 62] t fr)) (j : Nat) (hj : j < signs.length) : w.cell? ⟨b, j, none⟩ = some (.int .u8 ((signs[j]'hj).toNat : Int)) := by
  have hc : w.cell? ⟨b, j, none⟩ = (#[.int .u8 40, .int .u8 41, .int .u8 123, .int .u8 125, .int .u8 91, .int .u8 93, .int .u8 44, .int .u8 59, .int .u8 61, .int .u8 124, .int .u8 94, .int .u8 38, .int .u8 43, .int .u8 45, .int .u8 42, .int .u8 47, .int .u8 37, .int .u8 33, .int .u8 126, .int .u8 60, .int .u8 62] : Array Value)[j]? := by simp [World.cell?, h]
  rw [hc]
  have e : (#[.int .u8 40, .int .u8 41, .int .u8 123, .int .u8 125, .int .u8 91, .int .u8 93, .int .u8 44, .int .u8 59, .int .u8 61, .int .u8 124, .int .u8 94, .int .u8 38, .int .u8 43, .int .u8 45, .int .u8 42, .int .u8 47, .int .u8 37, .int .u8 33, .int .u8 126, .int .u8 60, .int .u8 62] : Array Value) = (signs.map fun c => (.int .u8 (c.toNat : Int) : Value)).toArray := rfl
  rw [e]
  simp [List.getElem?_eq_getElem hj]
theorem conv_bytes (w : World) (C : Array Value) (n c g : Nat) (hg : g = w.heap.size) : (convert 47 47 (.slice (some ⟨g, 0, none⟩) n c)).run Tryd.prog (w.alloc (.cells C 5)) = .ok (.slice (some ⟨g, 0, none⟩) n c) (w.alloc (.cells C 5 (C.size, C.size + 1))) :=
  Go.Joins.run_convert_bytes_const_at w 47 5 C n c g hg Tryd.underlying47 Tryd.underlying5
theorem heap_new' (w : World) (o : Obj) (b : Nat) (hb : b = w.heap.size) : (w.alloc o).heap[b]? = some o := by subst hb; exact heap_new w o
set_option maxRecDepth 100000 in
set_option maxHeartbeats 2000000 in
theorem rtok_sign (c : UInt8) (r : List UInt8) (hs : slB (c :: r) = false) (hl : (c :: r).length ≤ 20000) (hc1 : letterR (c.toNat : Int) = false) (hc2 : digitR (c.toNat : Int) = false) (hc3 : c ≠ 39) (w : World) : Calls Tryd.prog 15 #[.string (mk (c :: r))] w fun e w' => TkR (pieceQ (mk (c :: r)) (rnL (c :: r))) e ∧ Below w.heap.size w w' := by
  obtain ⟨h0, hq⟩ := piece_open hs
  have h39 : ((c.toNat : Int) == 39) = false := beq_eq_false_iff_ne.2 (fun e => hc3 (UInt8.toNat_inj.1 (by show c.toNat = 39; omega)))
  rw [if_neg (by rw [hc1]; simp), if_neg (by rw [hc2]; simp), if_neg (by rw [h39]; simp), signN_first] at hq
  have HP := Lib.hid hq
  have HCT : Hid (∀ q, (((mk (c :: r))[0]'q).toNat : Int) = (c.toNat : Int)) := Lib.hid (fun q => by rw [byte_is (c :: r) 0 (by simp) q]; rfl)
  have hl1 : 1 ≤ (c :: r).length := by simp
  have hct := HCT.out
  have HTW := Lib.hid (two_iff (c :: r))
  have HSM := Lib.hid (sign_mem c)
  have HE2 : Hid ((mk (c :: r)).extract 0 2 = mk ((c :: r).take 2)) := Lib.hid (take_mk _ _)
  have HE1 : Hid ((mk (c :: r)).extract 0 1 = mk [c]) := Lib.hid (by rw [take_mk]; rfl)
  have HT1 : Hid ((c :: r).length ≤ 1 → ¬ (c :: r).take 2 ∈ twoL) := Lib.hid (fun h => by
    have : r = [] := List.length_eq_zero_iff.1 (by simp at h; exact h ▸ rfl)
    subst this
    simp [twoL])
  obtain ⟨P, hP⟩ : ∃ P, pieceQ (mk (c :: r)) (rnL (c :: r)) = P := ⟨_, rfl⟩
  rw [hP] at HP ⊢
  clear hP hq HCT hs hc3
  have hsz : (mk (c :: r)).size = (c :: r).length := rfl
  generalize c :: r = l at *
  have hl0 : 0 < l.length := by omega
  generalize htk : l.take 2 = tk at *
  clear htk
  go_enter Tryd.func15, Tryd.ntmps15
  by_cases h1 : l.length ≤ 1
  · have HNT := Lib.hid (HT1.out h1)
    have hd : ¬ (1 : Int) < (l.length : Int) := by omega
    have hcv := fun n c' => conv_bytes (w.alloc (.cells #[.int .i64 0, .string ⟨#[]⟩, .int .i64 0, .int .i64 0] 30)) #[.int .u8 40, .int .u8 41, .int .u8 123, .int .u8 125, .int .u8 91, .int .u8 93, .int .u8 44, .int .u8 59, .int .u8 61, .int .u8 124, .int .u8 94, .int .u8 38, .int .u8 43, .int .u8 45, .int .u8 42, .int .u8 47, .int .u8 37, .int .u8 33, .int .u8 126, .int .u8 60, .int .u8 62] n c' (w.heap.size + 1) (by simp)
    go_wp2_with (first | (go_at_call 19; refine (rletter_any _ _).mono ?_; rintro e w' ⟨rfl, rfl⟩) | (go_at_call 20; refine (rdigit_any _ _).mono ?_; rintro e w' ⟨rfl, rfl⟩) | (go_at_call 11; refine (HWD.out _).mono ?_; rintro e w' ⟨rfl, rfl⟩) | (go_at_call 9; refine (HNM.out _).mono ?_; rintro e w' ⟨rfl, rfl⟩))
    go_loopw [108] (fun jv wr => ∃ j : Nat, jv = .int .i64 j ∧ j ≤ signs.length ∧ (∀ i (h : i < signs.length), i < j → signs[i]'h ≠ c) ∧ Below w.heap.size w wr ∧ wr.heap[w.heap.size]? = some (.cells #[.int .i64 0, .string ⟨#[]⟩, .int .i64 0, .int .i64 0] 30 (0, 0)) ∧ wr.heap[w.heap.size + 1]? = some (.cells #[.int .u8 40, .int .u8 41, .int .u8 123, .int .u8 125, .int .u8 91, .int .u8 93, .int .u8 44, .int .u8 59, .int .u8 61, .int .u8 124, .int .u8 94, .int .u8 38, .int .u8 43, .int .u8 45, .int .u8 42, .int .u8 47, .int .u8 37, .int .u8 33, .int .u8 126, .int .u8 60, .int .u8 62] 5 (21, 22))) (fun jv wr => signs.length - slotN jv)
    case atStart => exact ⟨0, rfl, Nat.zero_le _, fun i h k => absurd k (Nat.not_lt_zero _), ext_alloc (ext_alloc (Below.refl _ _) _) _, (Lib.alloc_old _ _ _ (by simp)).trans (heap_new w _), heap_new' _ _ _ (by simp)⟩
    case round =>
      obtain ⟨j, rfl, hj, hno, hb, hx, hy⟩ := hrel
      have HB := Lib.hid hb
      have HNO := Lib.hid hno
      have sl : signs.length = 21 := rfl
      have lx : w.heap.size < wr.heap.size := (Array.getElem?_eq_some_iff.1 hx).1
      have ly : w.heap.size + 1 < wr.heap.size := (Array.getElem?_eq_some_iff.1 hy).1
      obtain ⟨⟨c0, c1, c2, c3⟩, f0, f1, f2, f3⟩ := four_at hx
      have HX := Lib.hid hx
      have HY := Lib.hid hy
      clear hb hno hx hy
      by_cases h : j < signs.length
      · have hcell := byts21 HY.out j h
        have HJ : Hid (∀ i (h : i < signs.length), i < j + 1 → signs[i]'h ≠ c ∨ i = j) := Lib.hid (fun i hi k => by
          by_cases e : i = j
          · exact .inr e
          · exact .inl (HNO.out i hi (by omega)))
        have hjj : (j : Int) < 21 := by omega
        rw [sl] at hj
        by_cases he : signs[j]'h = c
        · have HM : Hid (c ∈ signs) := Lib.hid (by rw [← he]; exact List.getElem_mem h)
          rw [he] at hcell
          have hex := HE1.out
          have hPR : P = some ⟨1, 4, mk [c], 0⟩ := by
            rw [HP.out, if_neg (fun k => HNT.out (HTW.out.1 k)), if_pos (HSM.out.2 HM.out), HE1.out]
            rfl
          have HPR := Lib.hid hPR
          clear he hPR
          go_wp2_with fail
          rw [HPR.out]
          exact bodyPost_ret (v := .tuple #[.agg #[.int .i64 4, .string (mk [c]), .int .i64 0, .int .i64 0], .int .i64 1]) (by simp [results, Tryd.results15, go_sem, c0, c1, c2, c3]) rfl
            ⟨⟨_, _, _, _, rfl, rfl, rfl, rfl, rfl⟩, ext_set (ext_set (ext_set (ext_set HB.out (Nat.le_refl _) _) (Nat.le_refl _) _) (Nat.le_refl _) _) (Nat.le_refl _) _⟩
        · have HJF : Hid (∀ i (h : i < signs.length), i < j + 1 → signs[i]'h ≠ c) := Lib.hid (fun i hi k => by
            rcases HJ.out i hi k with q | q
            · exact q
            · subst q; exact he)
          have hbq : (((signs[j]'h).toNat : Int) == (c.toNat : Int)) = false := beq_eq_false_iff_ne.2 (fun e => he (UInt8.toNat_inj.1 (by omega)))
          clear he
          generalize hgx : ((signs[j]'h).toNat : Int) = x at *
          clear hgx
          go_wp2_with fail
          go_roundw
          case rel => exact ⟨j + 1, by go_num, by omega, HJF.out, HB.out, HX.out, HY.out⟩
          case measure => simp [slotN]; omega
      · have hPR : P = none := by
          have hns : ¬ c ∈ signs := fun k => by
            obtain ⟨i, hi, e⟩ := List.getElem_of_mem k
            have hi' : i < 21 := hi
            have h' : ¬ j < 21 := h
            exact HNO.out i hi (by omega) e
          rw [HP.out, if_neg (fun k => HNT.out (HTW.out.1 k)), if_neg (fun k => hns (HSM.out.1 k))]
          rfl
        have HPR := Lib.hid hPR
        obtain rfl : j = 21 := by omega
        clear hPR
        go_wp2_with fail
        rw [HPR.out]
        exact bodyPost_ret (v := .tuple #[.agg #[.int .i64 0, .string ⟨#[]⟩, .int .i64 0, .int .i64 0], .int .i64 0]) (by simp [results, Tryd.results15, go_sem, c0, c1, c2, c3]) rfl
          ⟨⟨_, _, _, _, rfl, rfl⟩, ext_set (ext_set (ext_set (ext_set HB.out (Nat.le_refl _) _) (Nat.le_refl _) _) (Nat.le_refl _) _) (Nat.le_refl _) _⟩
  · have hd : (1 : Int) < (l.length : Int) := by omega
    go_wp2_with (first | (go_at_call 19; refine (rletter_any _ _).mono ?_; rintro e w' ⟨rfl, rfl⟩) | (go_at_call 20; refine (rdigit_any _ _).mono ?_; rintro e w' ⟨rfl, rfl⟩) | (go_at_call 11; refine (HWD.out _).mono ?_; rintro e w' ⟨rfl, rfl⟩) | (go_at_call 9; refine (HNM.out _).mono ?_; rintro e w' ⟨rfl, rfl⟩))
    go_loopw [94] (fun jv wr => ∃ j : Nat, jv = .int .i64 j ∧ j ≤ twoL.length ∧ (∀ i (h : i < twoL.length), i < j → twoL[i]'h ≠ tk) ∧ Below w.heap.size w wr ∧ wr.heap[w.heap.size]? = some (.cells #[.int .i64 0, .string ⟨#[]⟩, .int .i64 0, .int .i64 0] 30 (0, 0)) ∧ wr.heap[w.heap.size + 1]? = some (.cells #[.string ⟨#[61, 61]⟩, .string ⟨#[33, 61]⟩, .string ⟨#[60, 61]⟩, .string ⟨#[62, 61]⟩, .string ⟨#[60, 60]⟩, .string ⟨#[62, 62]⟩] 9 (0, 0))) (fun jv wr => twoL.length - slotN jv)
    case atStart => exact ⟨0, rfl, Nat.zero_le _, fun i h k => absurd k (Nat.not_lt_zero _), ext_alloc (ext_alloc (Below.refl _ _) _) _, (Lib.alloc_old _ _ _ (by simp)).trans (heap_new w _), heap_new' _ _ _ (by simp)⟩
    case round =>
      obtain ⟨j, rfl, hj, hno, hb, hx, hy⟩ := hrel
      have HB := Lib.hid hb
      have HNO := Lib.hid hno
      have tl : twoL.length = 6 := rfl
      have lx : w.heap.size < wr.heap.size := (Array.getElem?_eq_some_iff.1 hx).1
      have ly : w.heap.size + 1 < wr.heap.size := (Array.getElem?_eq_some_iff.1 hy).1
      obtain ⟨⟨c0, c1, c2, c3⟩, f0, f1, f2, f3⟩ := four_at hx
      have HX := Lib.hid hx
      have HY := Lib.hid hy
      clear hb hno hx hy
      by_cases h : j < twoL.length
      · have hcell := strs6 HY.out j h
        have hjj : (j : Int) < 6 := by omega
        have hex := HE2.out
        have htt : (mk tk).toList = tk := mk_tl tk
        have htT : (mk (twoL[j]'h)).toList = twoL[j]'h := mk_tl _
        have HMT : Hid (twoL[j]'h ∈ twoL) := Lib.hid (List.getElem_mem h)
        have HJ : Hid (∀ i (h : i < twoL.length), i < j + 1 → twoL[i]'h ≠ tk ∨ i = j) := Lib.hid (fun i hi k => by
          by_cases e : i = j
          · exact .inr e
          · exact .inl (HNO.out i hi (by omega)))
        by_cases he : twoL[j]'h = tk
        · rw [he] at hcell HMT
          have hPR : P = some ⟨2, 4, mk tk, 0⟩ := by
            rw [HP.out, if_pos (HTW.out.2 HMT.out), HE2.out]
            rfl
          have HPR := Lib.hid hPR
          clear he hPR htT
          go_wp2_with fail
          rw [HPR.out]
          exact bodyPost_ret (v := .tuple #[.agg #[.int .i64 4, .string (mk tk), .int .i64 0, .int .i64 0], .int .i64 2]) (by simp [results, Tryd.results15, go_sem, c0, c1, c2, c3]) rfl
            ⟨⟨_, _, _, _, rfl, rfl, rfl, rfl, rfl⟩, ext_set (ext_set (ext_set (ext_set HB.out (Nat.le_refl _) _) (Nat.le_refl _) _) (Nat.le_refl _) _) (Nat.le_refl _) _⟩
        · have HJF : Hid (∀ i (h : i < twoL.length), i < j + 1 → twoL[i]'h ≠ tk) := Lib.hid (fun i hi k => by
            rcases HJ.out i hi k with q | q
            · exact q
            · subst q; exact he)
          have hbq : (tk == twoL[j]'h) = false := beq_eq_false_iff_ne.2 (fun e => he e.symm)
          clear he HMT
          generalize twoL[j]'h = x at *
          go_wp2_with fail
          go_roundw
          case rel => exact ⟨j + 1, by go_num, by omega, HJF.out, HB.out, HX.out, HY.out⟩
          case measure => simp [slotN]; omega
      · have HNT : Hid (¬ tk ∈ twoL) := Lib.hid (fun k => by
          obtain ⟨i, hi, e⟩ := List.getElem_of_mem k
          have hi' : i < 6 := hi
          have h' : ¬ j < 6 := h
          exact HNO.out i hi (by omega) e)
        obtain rfl : j = 6 := by omega
        clear c0 c1 c2 c3 f0 f1 f2 f3
        obtain ⟨wo, rfl⟩ : ∃ wo : World, wo = wr := ⟨_, rfl⟩
        have hcv := fun n c' => conv_bytes wo #[.int .u8 40, .int .u8 41, .int .u8 123, .int .u8 125, .int .u8 91, .int .u8 93, .int .u8 44, .int .u8 59, .int .u8 61, .int .u8 124, .int .u8 94, .int .u8 38, .int .u8 43, .int .u8 45, .int .u8 42, .int .u8 47, .int .u8 37, .int .u8 33, .int .u8 126, .int .u8 60, .int .u8 62] n c' wo.heap.size rfl
        go_wp2_with fail
        go_loopw [108] (fun jv wr => ∃ j : Nat, jv = .int .i64 j ∧ j ≤ signs.length ∧ (∀ i (h : i < signs.length), i < j → signs[i]'h ≠ c) ∧ Below w.heap.size w wr ∧ wr.heap[w.heap.size]? = some (.cells #[.int .i64 0, .string ⟨#[]⟩, .int .i64 0, .int .i64 0] 30 (0, 0)) ∧ wr.heap[wo.heap.size]? = some (.cells #[.int .u8 40, .int .u8 41, .int .u8 123, .int .u8 125, .int .u8 91, .int .u8 93, .int .u8 44, .int .u8 59, .int .u8 61, .int .u8 124, .int .u8 94, .int .u8 38, .int .u8 43, .int .u8 45, .int .u8 42, .int .u8 47, .int .u8 37, .int .u8 33, .int .u8 126, .int .u8 60, .int .u8 62] 5 (21, 22))) (fun jv wr => signs.length - slotN jv)
        case atStart => exact ⟨0, rfl, Nat.zero_le _, fun i h k => absurd k (Nat.not_lt_zero _), ext_alloc HB.out _, (Lib.alloc_old _ _ _ lx).trans HX.out, heap_new wo _⟩
        case round =>
          obtain ⟨j, rfl, hj, hno, hb, hx, hy⟩ := hrel
          have HB := Lib.hid hb
          have HNO := Lib.hid hno
          have sl : signs.length = 21 := rfl
          have lx : w.heap.size < wr.heap.size := (Array.getElem?_eq_some_iff.1 hx).1
          have ly : wo.heap.size < wr.heap.size := (Array.getElem?_eq_some_iff.1 hy).1
          obtain ⟨⟨c0, c1, c2, c3⟩, f0, f1, f2, f3⟩ := four_at hx
          have HX := Lib.hid hx
          have HY := Lib.hid hy
          clear hb hno hx hy
          by_cases h : j < signs.length
          · have hcell := byts21 HY.out j h
            have HJ : Hid (∀ i (h : i < signs.length), i < j + 1 → signs[i]'h ≠ c ∨ i = j) := Lib.hid (fun i hi k => by
              by_cases e : i = j
              · exact .inr e
              · exact .inl (HNO.out i hi (by omega)))
            have hjj : (j : Int) < 21 := by omega
            rw [sl] at hj
            by_cases he : signs[j]'h = c
            · have HM : Hid (c ∈ signs) := Lib.hid (by rw [← he]; exact List.getElem_mem h)
              rw [he] at hcell
              have hex := HE1.out
              have hPR : P = some ⟨1, 4, mk [c], 0⟩ := by
                rw [HP.out, if_neg (fun k => HNT.out (HTW.out.1 k)), if_pos (HSM.out.2 HM.out), HE1.out]
                rfl
              have HPR := Lib.hid hPR
              clear he hPR
              go_wp2_with fail
              rw [HPR.out]
              exact bodyPost_ret (v := .tuple #[.agg #[.int .i64 4, .string (mk [c]), .int .i64 0, .int .i64 0], .int .i64 1]) (by simp [results, Tryd.results15, go_sem, c0, c1, c2, c3]) rfl
                ⟨⟨_, _, _, _, rfl, rfl, rfl, rfl, rfl⟩, ext_set (ext_set (ext_set (ext_set HB.out (Nat.le_refl _) _) (Nat.le_refl _) _) (Nat.le_refl _) _) (Nat.le_refl _) _⟩
            · have HJF : Hid (∀ i (h : i < signs.length), i < j + 1 → signs[i]'h ≠ c) := Lib.hid (fun i hi k => by
                rcases HJ.out i hi k with q | q
                · exact q
                · subst q; exact he)
              have hbq : (((signs[j]'h).toNat : Int) == (c.toNat : Int)) = false := beq_eq_false_iff_ne.2 (fun e => he (UInt8.toNat_inj.1 (by omega)))
              clear he
              generalize hgx : ((signs[j]'h).toNat : Int) = x at *
              clear hgx
              go_wp2_with fail
              go_roundw
              case rel => exact ⟨j + 1, by go_num, by omega, HJF.out, HB.out, HX.out, HY.out⟩
              case measure => simp [slotN]; omega
          · have hPR : P = none := by
              have hns : ¬ c ∈ signs := fun k => by
                obtain ⟨i, hi, e⟩ := List.getElem_of_mem k
                have hi' : i < 21 := hi
                have h' : ¬ j < 21 := h
                exact HNO.out i hi (by omega) e
              rw [HP.out, if_neg (fun k => HNT.out (HTW.out.1 k)), if_neg (fun k => hns (HSM.out.1 k))]
              rfl
            have HPR := Lib.hid hPR
            obtain rfl : j = 21 := by omega
            clear hPR
            go_wp2_with fail
            rw [HPR.out]
            exact bodyPost_ret (v := .tuple #[.agg #[.int .i64 0, .string ⟨#[]⟩, .int .i64 0, .int .i64 0], .int .i64 0]) (by simp [results, Tryd.results15, go_sem, c0, c1, c2, c3]) rfl
              ⟨⟨_, _, _, _, rfl, rfl⟩, ext_set (ext_set (ext_set (ext_set HB.out (Nat.le_refl _) _) (Nat.le_refl _) _) (Nat.le_refl _) _) (Nat.le_refl _) _⟩
theorem token_any (c : UInt8) (r : List UInt8) (hs : slB (c :: r) = false) (hl : (c :: r).length ≤ 20000) (w : World) : Calls Tryd.prog 15 #[.string (mk (c :: r))] w fun e w' => TkR (pieceQ (mk (c :: r)) (rnL (c :: r))) e ∧ Below w.heap.size w w' := by
  cases h1 : letterR (c.toNat : Int)
  · cases h2 : digitR (c.toNat : Int)
    · by_cases h3 : c = 39
      · exact rtok_quote c r hs hl h3 w
      · exact rtok_sign c r hs hl h1 h2 h3 w
    · exact rtok_digit c r hs hl h2 w
  · exact rtok_letter c r hs hl h1 w
end Go.Proofs.YtpoomcejmdlmiaaDoor
