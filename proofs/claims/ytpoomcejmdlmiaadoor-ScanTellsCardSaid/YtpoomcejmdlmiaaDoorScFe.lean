/- The document's own answer: token, walked: words, numbers, characters. -/
import Derived.Test.YtpoomcejmdlmiaaDoorRows
import Derived.WalkKit
import Derived.ProofKit
import Derived.OpenShut
import Derived.WalkLawsBesides
import Derived.WalkSpells
import Derived.Outline
import Derived.Handy
import Derived.Lib.Hide
import Derived.Lib.OthersKept
import Derived.KernelRfl
import Derived.Test.YtpoomcejmdlmiaaDoorScFd
namespace Go.Proofs.YtpoomcejmdlmiaaDoor
open Go.ChangeShapes Go.WideShapes Go.ChangeAt Go.RowKit
set_option linter.unusedVariables false
set_option maxRecDepth 100000 in
set_option maxHeartbeats 2000000 in
theorem rtok_letter (c : UInt8) (r : List UInt8) (hs : slB (c :: r) = false) (hl : (c :: r).length ≤ 20000) (hc : letterR (c.toNat : Int) = true) (w : World) : Calls Tryd.prog 15 #[.string (mk (c :: r))] w fun e w' => TkR (pieceQ (mk (c :: r)) (rnL (c :: r))) e ∧ Below w.heap.size w w' := by
  obtain ⟨h0, hq⟩ := piece_open hs
  rw [if_pos hc, word_eq hc] at hq
  have HP := Lib.hid hq
  have HCT : Hid (∀ q, (((mk (c :: r))[0]'q).toNat : Int) = (c.toNat : Int)) := Lib.hid (fun q => by rw [byte_is (c :: r) 0 (by simp) q]; rfl)
  have hl1 : 1 ≤ (c :: r).length := by simp
  have hct := HCT.out
  obtain ⟨hW1, hW0⟩ := spW_pos inNameR c r (by unfold inNameR; rw [hc]; rfl)
  have hWl := spW_le inNameR (c :: r)
  have HEX := Lib.hid (head_take inNameR c r (by unfold inNameR; rw [hc]; rfl))
  obtain ⟨LA, LB⟩ := spW_at inNameR (c :: r)
  have HLA := Lib.hid LA
  have HLB := Lib.hid LB
  have HALL := Lib.hid (spW_plain inNameR in_high (c :: r))
  clear LA LB hq hs
  obtain ⟨P, hP⟩ : ∃ P, pieceQ (mk (c :: r)) (rnL (c :: r)) = P := ⟨_, rfl⟩
  rw [hP] at HP ⊢
  clear hP
  generalize spW inNameR (c :: r) = W at *
  have HWD := Lib.hid (fun w => rword_any W w (by omega))
  have HNM := Lib.hid (fun w => rname_any W w (by omega))
  have HNE := Lib.hid (name_eq hW1 (fun x hx => (HALL.out x hx).2) (by rw [hW0]; exact hc))
  have hdc : digitR (c.toNat : Int) = false := by
    unfold letterR at hc
    have := of_decide_eq_true hc
    exact decide_eq_false (by omega)
  generalize c :: r = l at *
  have hsz : (mk l).size = l.length := rfl
  have hl0 : 0 < l.length := by omega
  go_enter Tryd.func15, Tryd.ntmps15
  go_wp2_with (first | (go_at_call 19; refine (rletter_any _ _).mono ?_; rintro e w' ⟨rfl, rfl⟩) | (go_at_call 20; refine (rdigit_any _ _).mono ?_; rintro e w' ⟨rfl, rfl⟩) | (go_at_call 11; refine (HWD.out _).mono ?_; rintro e w' ⟨rfl, rfl⟩) | (go_at_call 9; refine (HNM.out _).mono ?_; rintro e w' ⟨rfl, rfl⟩))
  go_loopw [5] (fun nv wr => ∃ j : Nat, nv = .int .i64 j ∧ 1 ≤ j ∧ j ≤ W.length ∧ Below w.heap.size w wr ∧ wr.heap[w.heap.size]? = some (.cells #[.int .i64 0, .string ⟨#[]⟩, .int .i64 0, .int .i64 0] 30 (0, 0))) (fun nv wr => W.length - slotN nv)
  case atStart => exact ⟨1, rfl, Nat.le_refl _, hW1, ext_alloc (Below.refl _ _) _, heap_new w _⟩
  case round =>
    obtain ⟨j, rfl, hj1, hj2, hb, hx⟩ := hrel
    have HB := Lib.hid hb
    have HX := Lib.hid hx
    clear hb hx
    by_cases h : j < W.length
    · have hjl : j < l.length := by omega
      have hin := HLA.out j hjl h
      have hctj : ∀ q, (((mk l)[j]'q).toNat : Int) = ((l[j]'hjl).toNat : Int) := fun q => by rw [byte_is l j hjl q]
      generalize l[j]'hjl = x at *
      cases hlx : letterR (x.toNat : Int)
      · have hdx : digitR (x.toNat : Int) = true := by
          unfold inNameR at hin
          rw [hlx] at hin
          simpa using hin
        clear hin
        go_wp2_with (first | (go_at_call 19; refine (rletter_any _ _).mono ?_; rintro e w' ⟨rfl, rfl⟩) | (go_at_call 20; refine (rdigit_any _ _).mono ?_; rintro e w' ⟨rfl, rfl⟩) | (go_at_call 11; refine (HWD.out _).mono ?_; rintro e w' ⟨rfl, rfl⟩) | (go_at_call 9; refine (HNM.out _).mono ?_; rintro e w' ⟨rfl, rfl⟩))
        go_roundw
        case rel => exact ⟨j + 1, by go_num, by omega, by omega, HB.out, HX.out⟩
        case measure => simp [slotN]; omega
      · clear hin
        go_wp2_with (first | (go_at_call 19; refine (rletter_any _ _).mono ?_; rintro e w' ⟨rfl, rfl⟩) | (go_at_call 20; refine (rdigit_any _ _).mono ?_; rintro e w' ⟨rfl, rfl⟩) | (go_at_call 11; refine (HWD.out _).mono ?_; rintro e w' ⟨rfl, rfl⟩) | (go_at_call 9; refine (HNM.out _).mono ?_; rintro e w' ⟨rfl, rfl⟩))
        go_roundw
        case rel => exact ⟨j + 1, by go_num, by omega, by omega, HB.out, HX.out⟩
        case measure => simp [slotN]; omega
    · obtain rfl : j = W.length := by omega
      obtain ⟨⟨c0, c1, c2, c3⟩, f0, f1, f2, f3⟩ := four_at HX.out
      have lx : w.heap.size < wr.heap.size := (Array.getElem?_eq_some_iff.1 HX.out).1
      by_cases hjl : W.length < l.length
      · have hin := HLB.out hjl
        have hctj : ∀ q, (((mk l)[W.length]'q).toNat : Int) = ((l[W.length]'hjl).toNat : Int) := fun q => by rw [byte_is l _ hjl q]
        generalize l[W.length]'hjl = x at *
        have hlx : letterR (x.toNat : Int) = false := by unfold inNameR at hin; exact (Bool.or_eq_false_iff.1 hin).1
        have hdx : digitR (x.toNat : Int) = false := by unfold inNameR at hin; exact (Bool.or_eq_false_iff.1 hin).2
        clear hin
        have hex := HEX.out
        cases hwb : wordB (mk W)
        · rw [hwb] at HWD HP
          have hnb : nameB (mk W) = decide (W.length ≤ 20) := by rw [HNE.out, hwb]; simp
          by_cases h20 : W.length ≤ 20
          · rw [hnb, decide_eq_true h20] at HNM
            clear hnb hwb
            go_wp2_with (first | (go_at_call 19; refine (rletter_any _ _).mono ?_; rintro e w' ⟨rfl, rfl⟩) | (go_at_call 20; refine (rdigit_any _ _).mono ?_; rintro e w' ⟨rfl, rfl⟩) | (go_at_call 11; refine (HWD.out _).mono ?_; rintro e w' ⟨rfl, rfl⟩) | (go_at_call 9; refine (HNM.out _).mono ?_; rintro e w' ⟨rfl, rfl⟩))
            have HPR : Hid (P = some ⟨W.length, 1, mk W, 0⟩) := Lib.hid (by rw [HP.out, if_neg (by simp), if_pos h20])
            rw [HPR.out]
            exact bodyPost_ret (v := .tuple #[.agg #[.int .i64 1, .string (mk W), .int .i64 0, .int .i64 0], .int .i64 W.length]) (by simp [results, Tryd.results15, go_sem, c0, c1, c2, c3]) rfl
              ⟨⟨_, _, _, _, rfl, rfl, rfl, rfl, rfl⟩, ext_set (ext_set (ext_set (ext_set HB.out (Nat.le_refl _) _) (Nat.le_refl _) _) (Nat.le_refl _) _) (Nat.le_refl _) _⟩
          · rw [hnb, decide_eq_false h20] at HNM
            clear hnb hwb
            go_wp2_with (first | (go_at_call 19; refine (rletter_any _ _).mono ?_; rintro e w' ⟨rfl, rfl⟩) | (go_at_call 20; refine (rdigit_any _ _).mono ?_; rintro e w' ⟨rfl, rfl⟩) | (go_at_call 11; refine (HWD.out _).mono ?_; rintro e w' ⟨rfl, rfl⟩) | (go_at_call 9; refine (HNM.out _).mono ?_; rintro e w' ⟨rfl, rfl⟩))
            have HPR : Hid (P = none) := Lib.hid (by rw [HP.out, if_neg (by simp), if_neg h20])
            rw [HPR.out]
            exact bodyPost_ret (v := .tuple #[.agg #[.int .i64 0, .string ⟨#[]⟩, .int .i64 0, .int .i64 0], .int .i64 0]) (by simp [results, Tryd.results15, go_sem, c0, c1, c2, c3]) rfl
              ⟨⟨_, _, _, _, rfl, rfl⟩, ext_set (ext_set (ext_set (ext_set HB.out (Nat.le_refl _) _) (Nat.le_refl _) _) (Nat.le_refl _) _) (Nat.le_refl _) _⟩
        · rw [hwb] at HWD HP
          clear hwb
          go_wp2_with (first | (go_at_call 19; refine (rletter_any _ _).mono ?_; rintro e w' ⟨rfl, rfl⟩) | (go_at_call 20; refine (rdigit_any _ _).mono ?_; rintro e w' ⟨rfl, rfl⟩) | (go_at_call 11; refine (HWD.out _).mono ?_; rintro e w' ⟨rfl, rfl⟩) | (go_at_call 9; refine (HNM.out _).mono ?_; rintro e w' ⟨rfl, rfl⟩))
          have HPR : Hid (P = some ⟨W.length, 2, mk W, 0⟩) := Lib.hid (by rw [HP.out]; exact if_pos (by trivial))
          rw [HPR.out]
          exact bodyPost_ret (v := .tuple #[.agg #[.int .i64 2, .string (mk W), .int .i64 0, .int .i64 0], .int .i64 W.length]) (by simp [results, Tryd.results15, go_sem, c0, c1, c2, c3]) rfl
            ⟨⟨_, _, _, _, rfl, rfl, rfl, rfl, rfl⟩, ext_set (ext_set (ext_set (ext_set HB.out (Nat.le_refl _) _) (Nat.le_refl _) _) (Nat.le_refl _) _) (Nat.le_refl _) _⟩
      · have hjn : ¬ ((W.length : Int) < (l.length : Int)) := by omega
        have hex := HEX.out
        cases hwb : wordB (mk W)
        · rw [hwb] at HWD HP
          have hnb : nameB (mk W) = decide (W.length ≤ 20) := by rw [HNE.out, hwb]; simp
          by_cases h20 : W.length ≤ 20
          · rw [hnb, decide_eq_true h20] at HNM
            clear hnb hwb
            go_wp2_with (first | (go_at_call 19; refine (rletter_any _ _).mono ?_; rintro e w' ⟨rfl, rfl⟩) | (go_at_call 20; refine (rdigit_any _ _).mono ?_; rintro e w' ⟨rfl, rfl⟩) | (go_at_call 11; refine (HWD.out _).mono ?_; rintro e w' ⟨rfl, rfl⟩) | (go_at_call 9; refine (HNM.out _).mono ?_; rintro e w' ⟨rfl, rfl⟩))
            have HPR : Hid (P = some ⟨W.length, 1, mk W, 0⟩) := Lib.hid (by rw [HP.out, if_neg (by simp), if_pos h20])
            rw [HPR.out]
            exact bodyPost_ret (v := .tuple #[.agg #[.int .i64 1, .string (mk W), .int .i64 0, .int .i64 0], .int .i64 W.length]) (by simp [results, Tryd.results15, go_sem, c0, c1, c2, c3]) rfl
              ⟨⟨_, _, _, _, rfl, rfl, rfl, rfl, rfl⟩, ext_set (ext_set (ext_set (ext_set HB.out (Nat.le_refl _) _) (Nat.le_refl _) _) (Nat.le_refl _) _) (Nat.le_refl _) _⟩
          · rw [hnb, decide_eq_false h20] at HNM
            clear hnb hwb
            go_wp2_with (first | (go_at_call 19; refine (rletter_any _ _).mono ?_; rintro e w' ⟨rfl, rfl⟩) | (go_at_call 20; refine (rdigit_any _ _).mono ?_; rintro e w' ⟨rfl, rfl⟩) | (go_at_call 11; refine (HWD.out _).mono ?_; rintro e w' ⟨rfl, rfl⟩) | (go_at_call 9; refine (HNM.out _).mono ?_; rintro e w' ⟨rfl, rfl⟩))
            have HPR : Hid (P = none) := Lib.hid (by rw [HP.out, if_neg (by simp), if_neg h20])
            rw [HPR.out]
            exact bodyPost_ret (v := .tuple #[.agg #[.int .i64 0, .string ⟨#[]⟩, .int .i64 0, .int .i64 0], .int .i64 0]) (by simp [results, Tryd.results15, go_sem, c0, c1, c2, c3]) rfl
              ⟨⟨_, _, _, _, rfl, rfl⟩, ext_set (ext_set (ext_set (ext_set HB.out (Nat.le_refl _) _) (Nat.le_refl _) _) (Nat.le_refl _) _) (Nat.le_refl _) _⟩
        · rw [hwb] at HWD HP
          clear hwb
          go_wp2_with (first | (go_at_call 19; refine (rletter_any _ _).mono ?_; rintro e w' ⟨rfl, rfl⟩) | (go_at_call 20; refine (rdigit_any _ _).mono ?_; rintro e w' ⟨rfl, rfl⟩) | (go_at_call 11; refine (HWD.out _).mono ?_; rintro e w' ⟨rfl, rfl⟩) | (go_at_call 9; refine (HNM.out _).mono ?_; rintro e w' ⟨rfl, rfl⟩))
          have HPR : Hid (P = some ⟨W.length, 2, mk W, 0⟩) := Lib.hid (by rw [HP.out]; exact if_pos (by trivial))
          rw [HPR.out]
          exact bodyPost_ret (v := .tuple #[.agg #[.int .i64 2, .string (mk W), .int .i64 0, .int .i64 0], .int .i64 W.length]) (by simp [results, Tryd.results15, go_sem, c0, c1, c2, c3]) rfl
            ⟨⟨_, _, _, _, rfl, rfl, rfl, rfl, rfl⟩, ext_set (ext_set (ext_set (ext_set HB.out (Nat.le_refl _) _) (Nat.le_refl _) _) (Nat.le_refl _) _) (Nat.le_refl _) _⟩
set_option maxRecDepth 100000 in
set_option maxHeartbeats 2000000 in
theorem rtok_digit (c : UInt8) (r : List UInt8) (hs : slB (c :: r) = false) (hl : (c :: r).length ≤ 20000) (hc : digitR (c.toNat : Int) = true) (w : World) : Calls Tryd.prog 15 #[.string (mk (c :: r))] w fun e w' => TkR (pieceQ (mk (c :: r)) (rnL (c :: r))) e ∧ Below w.heap.size w w' := by
  obtain ⟨h0, hq⟩ := piece_open hs
  have hlc : letterR (c.toNat : Int) = false := by
    unfold digitR at hc
    have := of_decide_eq_true hc
    exact decide_eq_false (by omega)
  rw [if_neg (by rw [hlc]; simp), if_pos hc, num_eq hc] at hq
  have HP := Lib.hid hq
  have HCT : Hid (∀ q, (((mk (c :: r))[0]'q).toNat : Int) = (c.toNat : Int)) := Lib.hid (fun q => by rw [byte_is (c :: r) 0 (by simp) q]; rfl)
  have hl1 : 1 ≤ (c :: r).length := by simp
  have hct := HCT.out
  obtain ⟨hW1, hW0⟩ := spW_pos digitR c r hc
  have hWl := spW_le digitR (c :: r)
  have HEX := Lib.hid (head_take digitR c r hc)
  obtain ⟨LA, LB⟩ := spW_at digitR (c :: r)
  have HLA := Lib.hid LA
  have HLB := Lib.hid LB
  have HALL := Lib.hid (spW_plain digitR dig_high (c :: r))
  clear LA LB hq hs
  obtain ⟨P, hP⟩ : ∃ P, pieceQ (mk (c :: r)) (rnL (c :: r)) = P := ⟨_, rfl⟩
  rw [hP] at HP ⊢
  clear hP
  generalize spW digitR (c :: r) = W at *
  have HWD := Lib.hid (fun w => rword_any W w (by omega))
  have HNM := Lib.hid (fun w => rname_any W w (by omega))
  have hwf : wordB (mk W) = false := word_dig hW1 (by rw [hW0]; exact hlc)
  have hnf : nameB (mk W) = false := name_dig (by rw [hW0]; exact hlc)
  rw [hwf] at HWD
  rw [hnf] at HNM
  have HNU := Lib.hid (fun w => rnumber_any W w (by omega) HALL.out hW1)
  clear hwf hnf
  generalize c :: r = l at *
  have hsz : (mk l).size = l.length := rfl
  have hl0 : 0 < l.length := by omega
  go_enter Tryd.func15, Tryd.ntmps15
  go_wp2_with (first | (go_at_call 19; refine (rletter_any _ _).mono ?_; rintro e w' ⟨rfl, rfl⟩) | (go_at_call 20; refine (rdigit_any _ _).mono ?_; rintro e w' ⟨rfl, rfl⟩) | (go_at_call 11; refine (HWD.out _).mono ?_; rintro e w' ⟨rfl, rfl⟩) | (go_at_call 9; refine (HNM.out _).mono ?_; rintro e w' ⟨rfl, rfl⟩))
  go_loopw [5] (fun nv wr => ∃ j : Nat, nv = .int .i64 j ∧ 1 ≤ j ∧ j ≤ W.length ∧ Below w.heap.size w wr ∧ wr.heap[w.heap.size]? = some (.cells #[.int .i64 0, .string ⟨#[]⟩, .int .i64 0, .int .i64 0] 30 (0, 0))) (fun nv wr => W.length - slotN nv)
  case atStart => exact ⟨1, rfl, Nat.le_refl _, hW1, ext_alloc (Below.refl _ _) _, heap_new w _⟩
  case round =>
    obtain ⟨j, rfl, hj1, hj2, hb, hx⟩ := hrel
    have HB := Lib.hid hb
    have HX := Lib.hid hx
    clear hb hx
    by_cases h : j < W.length
    · have hjl : j < l.length := by omega
      have hin := HLA.out j hjl h
      have hctj : ∀ q, (((mk l)[j]'q).toNat : Int) = ((l[j]'hjl).toNat : Int) := fun q => by rw [byte_is l j hjl q]
      generalize l[j]'hjl = x at *
      have hlx : letterR (x.toNat : Int) = false := by
        unfold digitR at hin
        have := of_decide_eq_true hin
        exact decide_eq_false (by omega)
      go_wp2_with (first | (go_at_call 19; refine (rletter_any _ _).mono ?_; rintro e w' ⟨rfl, rfl⟩) | (go_at_call 20; refine (rdigit_any _ _).mono ?_; rintro e w' ⟨rfl, rfl⟩) | (go_at_call 11; refine (HWD.out _).mono ?_; rintro e w' ⟨rfl, rfl⟩) | (go_at_call 9; refine (HNM.out _).mono ?_; rintro e w' ⟨rfl, rfl⟩))
      go_roundw
      case rel => exact ⟨j + 1, by go_num, by omega, by omega, HB.out, HX.out⟩
      case measure => simp [slotN]; omega
    · obtain rfl : j = W.length := by omega
      obtain ⟨⟨c0, c1, c2, c3⟩, f0, f1, f2, f3⟩ := four_at HX.out
      have lx : w.heap.size < wr.heap.size := (Array.getElem?_eq_some_iff.1 HX.out).1
      by_cases hjl : W.length < l.length
      · have hin := HLB.out hjl
        have hctj : ∀ q, (((mk l)[W.length]'q).toNat : Int) = ((l[W.length]'hjl).toNat : Int) := fun q => by rw [byte_is l _ hjl q]
        generalize l[W.length]'hjl = x at *
        cases hlx : letterR (x.toNat : Int)
        · have hex := HEX.out
          by_cases h0 : 0 ≤ numV W
          · have HNV := Lib.hid h0
            have hge : decide (0 ≤ numV W) = true := decide_eq_true h0
            clear h0
            generalize numV W = nv at *
            go_wp2_with (first | (go_at_call 19; refine (rletter_any _ _).mono ?_; rintro e w' ⟨rfl, rfl⟩) | (go_at_call 20; refine (rdigit_any _ _).mono ?_; rintro e w' ⟨rfl, rfl⟩) | (go_at_call 11; refine (HWD.out _).mono ?_; rintro e w' ⟨rfl, rfl⟩) | (go_at_call 9; refine (HNM.out _).mono ?_; rintro e w' ⟨rfl, rfl⟩) | (go_at_call 28; refine (HNU.out _).mono ?_; rintro e w' ⟨rfl, rfl⟩))
            have HPR : Hid (P = some ⟨W.length, 3, mk W, nv⟩) := Lib.hid (by rw [HP.out, if_pos (by have := HNV.out; omega)])
            rw [HPR.out]
            exact bodyPost_ret (v := .tuple #[.agg #[.int .i64 3, .string (mk W), .int .i64 nv, .int .i64 0], .int .i64 W.length]) (by simp [results, Tryd.results15, go_sem, c0, c1, c2, c3]) rfl
              ⟨⟨_, _, _, _, rfl, rfl, rfl, rfl, rfl⟩, ext_set (ext_set (ext_set (ext_set HB.out (Nat.le_refl _) _) (Nat.le_refl _) _) (Nat.le_refl _) _) (Nat.le_refl _) _⟩
          · have HNV := Lib.hid h0
            have hge : decide (0 ≤ numV W) = false := decide_eq_false h0
            clear h0
            generalize numV W = nv at *
            go_wp2_with (first | (go_at_call 19; refine (rletter_any _ _).mono ?_; rintro e w' ⟨rfl, rfl⟩) | (go_at_call 20; refine (rdigit_any _ _).mono ?_; rintro e w' ⟨rfl, rfl⟩) | (go_at_call 11; refine (HWD.out _).mono ?_; rintro e w' ⟨rfl, rfl⟩) | (go_at_call 9; refine (HNM.out _).mono ?_; rintro e w' ⟨rfl, rfl⟩) | (go_at_call 28; refine (HNU.out _).mono ?_; rintro e w' ⟨rfl, rfl⟩))
            have HPR : Hid (P = none) := Lib.hid (by rw [HP.out, if_neg (by have := HNV.out; omega)])
            rw [HPR.out]
            exact bodyPost_ret (v := .tuple #[.agg #[.int .i64 0, .string ⟨#[]⟩, .int .i64 0, .int .i64 0], .int .i64 0]) (by simp [results, Tryd.results15, go_sem, c0, c1, c2, c3]) rfl
              ⟨⟨_, _, _, _, rfl, rfl⟩, ext_set (ext_set (ext_set (ext_set HB.out (Nat.le_refl _) _) (Nat.le_refl _) _) (Nat.le_refl _) _) (Nat.le_refl _) _⟩
        · have hex := HEX.out
          by_cases h0 : 0 ≤ numV W
          · have HNV := Lib.hid h0
            have hge : decide (0 ≤ numV W) = true := decide_eq_true h0
            clear h0
            generalize numV W = nv at *
            go_wp2_with (first | (go_at_call 19; refine (rletter_any _ _).mono ?_; rintro e w' ⟨rfl, rfl⟩) | (go_at_call 20; refine (rdigit_any _ _).mono ?_; rintro e w' ⟨rfl, rfl⟩) | (go_at_call 11; refine (HWD.out _).mono ?_; rintro e w' ⟨rfl, rfl⟩) | (go_at_call 9; refine (HNM.out _).mono ?_; rintro e w' ⟨rfl, rfl⟩) | (go_at_call 28; refine (HNU.out _).mono ?_; rintro e w' ⟨rfl, rfl⟩))
            have HPR : Hid (P = some ⟨W.length, 3, mk W, nv⟩) := Lib.hid (by rw [HP.out, if_pos (by have := HNV.out; omega)])
            rw [HPR.out]
            exact bodyPost_ret (v := .tuple #[.agg #[.int .i64 3, .string (mk W), .int .i64 nv, .int .i64 0], .int .i64 W.length]) (by simp [results, Tryd.results15, go_sem, c0, c1, c2, c3]) rfl
              ⟨⟨_, _, _, _, rfl, rfl, rfl, rfl, rfl⟩, ext_set (ext_set (ext_set (ext_set HB.out (Nat.le_refl _) _) (Nat.le_refl _) _) (Nat.le_refl _) _) (Nat.le_refl _) _⟩
          · have HNV := Lib.hid h0
            have hge : decide (0 ≤ numV W) = false := decide_eq_false h0
            clear h0
            generalize numV W = nv at *
            go_wp2_with (first | (go_at_call 19; refine (rletter_any _ _).mono ?_; rintro e w' ⟨rfl, rfl⟩) | (go_at_call 20; refine (rdigit_any _ _).mono ?_; rintro e w' ⟨rfl, rfl⟩) | (go_at_call 11; refine (HWD.out _).mono ?_; rintro e w' ⟨rfl, rfl⟩) | (go_at_call 9; refine (HNM.out _).mono ?_; rintro e w' ⟨rfl, rfl⟩) | (go_at_call 28; refine (HNU.out _).mono ?_; rintro e w' ⟨rfl, rfl⟩))
            have HPR : Hid (P = none) := Lib.hid (by rw [HP.out, if_neg (by have := HNV.out; omega)])
            rw [HPR.out]
            exact bodyPost_ret (v := .tuple #[.agg #[.int .i64 0, .string ⟨#[]⟩, .int .i64 0, .int .i64 0], .int .i64 0]) (by simp [results, Tryd.results15, go_sem, c0, c1, c2, c3]) rfl
              ⟨⟨_, _, _, _, rfl, rfl⟩, ext_set (ext_set (ext_set (ext_set HB.out (Nat.le_refl _) _) (Nat.le_refl _) _) (Nat.le_refl _) _) (Nat.le_refl _) _⟩
      · have hjn : ¬ ((W.length : Int) < (l.length : Int)) := by omega
        have hex := HEX.out
        by_cases h0 : 0 ≤ numV W
        · have HNV := Lib.hid h0
          have hge : decide (0 ≤ numV W) = true := decide_eq_true h0
          clear h0
          generalize numV W = nv at *
          go_wp2_with (first | (go_at_call 19; refine (rletter_any _ _).mono ?_; rintro e w' ⟨rfl, rfl⟩) | (go_at_call 20; refine (rdigit_any _ _).mono ?_; rintro e w' ⟨rfl, rfl⟩) | (go_at_call 11; refine (HWD.out _).mono ?_; rintro e w' ⟨rfl, rfl⟩) | (go_at_call 9; refine (HNM.out _).mono ?_; rintro e w' ⟨rfl, rfl⟩) | (go_at_call 28; refine (HNU.out _).mono ?_; rintro e w' ⟨rfl, rfl⟩))
          have HPR : Hid (P = some ⟨W.length, 3, mk W, nv⟩) := Lib.hid (by rw [HP.out, if_pos (by have := HNV.out; omega)])
          rw [HPR.out]
          exact bodyPost_ret (v := .tuple #[.agg #[.int .i64 3, .string (mk W), .int .i64 nv, .int .i64 0], .int .i64 W.length]) (by simp [results, Tryd.results15, go_sem, c0, c1, c2, c3]) rfl
            ⟨⟨_, _, _, _, rfl, rfl, rfl, rfl, rfl⟩, ext_set (ext_set (ext_set (ext_set HB.out (Nat.le_refl _) _) (Nat.le_refl _) _) (Nat.le_refl _) _) (Nat.le_refl _) _⟩
        · have HNV := Lib.hid h0
          have hge : decide (0 ≤ numV W) = false := decide_eq_false h0
          clear h0
          generalize numV W = nv at *
          go_wp2_with (first | (go_at_call 19; refine (rletter_any _ _).mono ?_; rintro e w' ⟨rfl, rfl⟩) | (go_at_call 20; refine (rdigit_any _ _).mono ?_; rintro e w' ⟨rfl, rfl⟩) | (go_at_call 11; refine (HWD.out _).mono ?_; rintro e w' ⟨rfl, rfl⟩) | (go_at_call 9; refine (HNM.out _).mono ?_; rintro e w' ⟨rfl, rfl⟩) | (go_at_call 28; refine (HNU.out _).mono ?_; rintro e w' ⟨rfl, rfl⟩))
          have HPR : Hid (P = none) := Lib.hid (by rw [HP.out, if_neg (by have := HNV.out; omega)])
          rw [HPR.out]
          exact bodyPost_ret (v := .tuple #[.agg #[.int .i64 0, .string ⟨#[]⟩, .int .i64 0, .int .i64 0], .int .i64 0]) (by simp [results, Tryd.results15, go_sem, c0, c1, c2, c3]) rfl
            ⟨⟨_, _, _, _, rfl, rfl⟩, ext_set (ext_set (ext_set (ext_set HB.out (Nat.le_refl _) _) (Nat.le_refl _) _) (Nat.le_refl _) _) (Nat.le_refl _) _⟩
end Go.Proofs.YtpoomcejmdlmiaaDoor
