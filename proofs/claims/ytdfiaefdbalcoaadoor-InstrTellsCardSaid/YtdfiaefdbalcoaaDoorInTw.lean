/- The document's own answer: an instruction printed. -/
import Derived.Test.YtdfiaefdbalcoaaDoorRows
import Derived.WalkKit
import Derived.ProofKit
import Derived.OpenShut
import Derived.WalkLawsBesides
import Derived.WalkSpells
import Derived.Outline
import Derived.Handy
import Derived.Lib.Hide
import Derived.Lib.OthersKept
import Derived.KernelRfl
import Derived.Test.YtdfiaefdbalcoaaDoorInTb
import Derived.Test.YtdfiaefdbalcoaaDoorInTc
namespace Go.Proofs.YtdfiaefdbalcoaaDoor
open Go.ChangeShapes Go.WideShapes Go.ChangeAt Go.RowKit
set_option linter.unusedVariables false
theorem slice_one (l : List UInt8) (i : Nat) (h : i < l.length) : (mk l).extract i (i + 1) = mk [l[i]'h] := by
  apply ByteArray.ext
  apply Array.toList_inj.1
  simp [mk]
  rw [drop_at l i h]; rfl
theorem piece_o (x : In) (c : UInt8) (h68 : ¬c = 68) (h65 : ¬c = 65) (h66 : ¬c = 66) (h78 : ¬c = 78) (h83 : ¬c = 83) (h76 : ¬c = 76) : pieceL x c = [c] := by
  unfold pieceL; simp [h68, h65, h66, h78, h83, h76]
def prV (x : In) : Value := if rightB x then .tuple #[.string (mk (txtL x)), .int .i64 0] else .tuple #[.string (mk []), .int .i64 1]
set_option maxRecDepth 100000 in
set_option maxHeartbeats 4000000 in
theorem rprint_no (x : In) (w : World) (hl : x.name.length ≤ 140737488355328) (h : rightB x = false) : Calls Tryd.prog 12 #[inV x] w fun e w' => e = .returned (.tuple #[.string (mk []), .int .i64 1]) ∧ Below w.heap.size w w' := by
  have HR := Lib.hid (fun w => rright_any x w hl)
  rw [h] at HR
  have HB0 := Lib.hid (fun (w1 : World) (g : Below (w.alloc (.cells (inC x) 23)).heap.size (w.alloc (.cells (inC x) 23)) w1) => (g.block w.heap.size (by simp)).trans (heap_new w (.cells (inC x) 23)))
  unfold inV at HR ⊢
  go_enter Tryd.func12, Tryd.ntmps12
  go_wp2_with fail
  refine (HR.out _).mono ?_; rintro e w1 ⟨rfl, g1⟩
  go_wp2_with fail
  go_ret2
  exact ⟨rfl, ext_trans (ext_alloc (Below.refl _ _) _) g1⟩
set_option maxRecDepth 100000 in
set_option maxHeartbeats 8000000 in
theorem rprint_yes (x : In) (w : World) (hn : I64 x.n) (h : rightB x = true) : Calls Tryd.prog 12 #[inV x] w fun e w' => e = .returned (.tuple #[.string (mk (txtL x)), .int .i64 0]) ∧ Below w.heap.size w w' := by
  have HFT := Lib.hid (right_fits h hn)
  have HR := Lib.hid (fun w => rright_any x w (by have := HFT.out.2.2.2.2; omega))
  rw [h] at HR
  have HF := Lib.hid (fun w => rform_any x.op w)
  have HOP := right_op h
  have HTL := Lib.hid (txt_len h hn)
  have hT : Hid (txtL x = if hasL x.op = [] then nmL x.op else nmL x.op ++ 32 :: (hasL x.op).flatMap (pieceL x)) := Lib.hid rfl
  have HAS := (has_any x.op).1
  have hNM := (nm_len HOP).2
  unfold rformV at HF
  unfold inV at HR ⊢
  clear h HOP
  generalize hasL x.op = H at *
  generalize nmL x.op = NM at *
  generalize txtL x = T at *
  have HB0 : ∀ w1 : World, Below (w.alloc (.cells (inC x) 23)).heap.size (w.alloc (.cells (inC x) 23)) w1 → w1.heap[w.heap.size]? = some (.cells (inC x) 23 (0, 0)) := fun w1 g => (g.block w.heap.size (by simp)).trans (heap_new _ _)
  have HB0 := Lib.hid HB0
  have hHs : (mk H).size = H.length := rfl
  have hNs : (mk NM).size = NM.length := rfl
  have hts : (mk H).toList = H := mk_tl H
  go_enter Tryd.func12, Tryd.ntmps12
  go_wp2_with fail
  refine (HR.out _).mono ?_; rintro e w1 ⟨rfl, g1⟩
  have hB := HB0.out _ g1
  obtain ⟨⟨c0, c1, c2, c3, c4, c5⟩, f0, f1, f2, f3, f4, f5⟩ := six_at hB
  have hz : w.heap.size < w1.heap.size := (Array.getElem?_eq_some_iff.1 hB).1
  have G1 := Lib.hid (ext_trans (ext_alloc (Below.refl w.heap.size w) (.cells (inC x) 23)) g1)
  have HB := Lib.hid hB
  clear hB g1
  go_wp2_with fail
  refine (HF.out _).mono ?_; rintro e w2 ⟨rfl, g2⟩
  have HB2 := Lib.hid ((g2.block _ hz).trans HB.out)
  have G2 := Lib.hid (ext_trans G1.out g2)
  clear c0 c1 c2 c3 c4 c5 f0 f1 f2 f3 f4 f5 g2 G1 HB hz
  cases hH : H with
  | nil =>
    subst hH
    have HTX : Hid (T = NM) := Lib.hid (by rw [hT.out, if_pos rfl])
    clear hT
    go_wp2_with fail
    go_loopw [5, 7] (fun t iv wr => t = .string (mk NM) ∧ iv = .int .i64 0 ∧ w2 = wr) (fun _ _ _ => 0)
    case atStart => exact ⟨rfl, rfl, rfl⟩
    case round =>
      obtain ⟨rfl, rfl, rfl⟩ := hrel
      go_wp2_with fail
      go_ret2
      exact ⟨by rw [HTX.out]; rfl, G2.out⟩
  | cons h0 ht =>
    have HH := Lib.hid hH
    have hne : H ≠ [] := by rw [hH]; simp
    have hemp : (H == []) = false := by rw [hH]; rfl
    rw [← hH]
    have HTX : Hid (T = NM ++ 32 :: H.flatMap (pieceL x)) := Lib.hid (by rw [hT.out, if_neg hne])
    clear hT hH
    have hcat : mk NM ++ (⟨#[32]⟩ : ByteArray) = mk (NM ++ [32]) := mk_app NM [32]
    have h32 : (⟨#[32]⟩ : ByteArray).size = 1 := rfl
    go_wp2_with fail
    clear hcat
    go_loopw [5, 7] (fun t iv wr => ∃ (pos : Nat) (acc : List UInt8), t = .string (mk acc) ∧ iv = .int .i64 pos ∧ pos ≤ H.length ∧ wr.heap[w.heap.size]? = some (.cells (inC x) 23 (0, 0)) ∧ Below w.heap.size w wr ∧ acc ++ (H.drop pos).flatMap (pieceL x) = T) (fun _ iv wr => H.length - (match iv with | .int _ x => x.toNat | _ => 0))
    case atStart => exact ⟨0, NM ++ [32], rfl, rfl, Nat.zero_le _, HB2.out, G2.out, by rw [HTX.out, List.drop_zero]; simp⟩
    case round =>
      obtain ⟨pos, acc, rfl, rfl, hp, hbx, hbl, hacc⟩ := hrel
      have hal : acc.length ≤ 300 := by
        have := HTL.out
        rw [← hacc, List.length_append] at this
        omega
      have HACC := Lib.hid hacc
      have hzr : w.heap.size < wr.heap.size := (Array.getElem?_eq_some_iff.1 hbx).1
      have HBX := Lib.hid hbx
      have HBL := Lib.hid hbl
      have has : (mk acc).size = acc.length := rfl
      clear hacc hbx hbl
      by_cases hlt : pos < H.length
      · have h' : pos < (mk H).size := hlt
        have hdr := drop_at H pos hlt
        have hg : ((mk H)[pos]'h').toNat = (H[pos]'hlt).toNat := rfl
        have hsl : (mk H).extract pos (pos + 1) = mk [H[pos]'hlt] := slice_one H pos hlt
        generalize H[pos]'hlt = c at *
        rw [hdr] at HACC
        clear hdr
        have HPL := Lib.hid (piece_len x HFT.out c)
        have HA2 : Hid (acc ++ pieceL x c ++ (H.drop (pos + 1)).flatMap (pieceL x) = T) := Lib.hid (by rw [← HACC.out, List.flatMap_cons, List.append_assoc])
        clear HACC
        by_cases h68 : c = 68
        · subst h68
          have hg : ((mk H)[pos]'h').toNat = 68 := hg
          have HA3 : Hid (acc ++ 120 :: Lib.itoa x.d ++ (H.drop (pos + 1)).flatMap (pieceL x) = T) := Lib.hid (by rw [← HA2.out, piece68])
          obtain ⟨⟨c0, c1, c2, c3, c4, c5⟩, f0, f1, f2, f3, f4, f5⟩ := six_at HBX.out
          have HIT0 := Lib.hid (fun w => rnum_any x.d HFT.out.1 w)
          have hlen := (itoa_len x.d HFT.out.1).2
          have hts : (mk (Lib.itoa x.d)).size = (Lib.itoa x.d).length := rfl
          have hcat : mk acc ++ (⟨#[120]⟩ : ByteArray) = mk (acc ++ [120]) := mk_app acc [120]
          have h120 : (⟨#[120]⟩ : ByteArray).size = 1 := rfl
          have hcat2 : mk (acc ++ [120]) ++ mk (Lib.itoa x.d) = mk (acc ++ [120] ++ Lib.itoa x.d) := mk_app _ _
          have hsz2 : (mk (acc ++ [120])).size = acc.length + 1 := by rw [mk_size, List.length_append]; rfl
          generalize Lib.itoa x.d = IT at *
          go_wp2_with fail
          refine (HIT0.out _).mono ?_; rintro e w3 ⟨rfl, g3⟩
          go_wp2_with fail
          go_roundw
          case rel => exact ⟨pos + 1, acc ++ 120 :: IT, rfl, rfl, by omega, (g3.block w.heap.size hzr).trans HBX.out, ext_trans HBL.out g3, HA3.out⟩
          case measure => simp; omega
        by_cases h65 : c = 65
        · subst h65
          have hg : ((mk H)[pos]'h').toNat = 65 := hg
          have HA3 : Hid (acc ++ 120 :: Lib.itoa x.a ++ (H.drop (pos + 1)).flatMap (pieceL x) = T) := Lib.hid (by rw [← HA2.out, piece65])
          obtain ⟨⟨c0, c1, c2, c3, c4, c5⟩, f0, f1, f2, f3, f4, f5⟩ := six_at HBX.out
          have HIT0 := Lib.hid (fun w => rnum_any x.a HFT.out.2.1 w)
          have hlen := (itoa_len x.a HFT.out.2.1).2
          have hts : (mk (Lib.itoa x.a)).size = (Lib.itoa x.a).length := rfl
          have hcat : mk acc ++ (⟨#[120]⟩ : ByteArray) = mk (acc ++ [120]) := mk_app acc [120]
          have h120 : (⟨#[120]⟩ : ByteArray).size = 1 := rfl
          have hcat2 : mk (acc ++ [120]) ++ mk (Lib.itoa x.a) = mk (acc ++ [120] ++ Lib.itoa x.a) := mk_app _ _
          have hsz2 : (mk (acc ++ [120])).size = acc.length + 1 := by rw [mk_size, List.length_append]; rfl
          generalize Lib.itoa x.a = IT at *
          go_wp2_with fail
          refine (HIT0.out _).mono ?_; rintro e w3 ⟨rfl, g3⟩
          go_wp2_with fail
          go_roundw
          case rel => exact ⟨pos + 1, acc ++ 120 :: IT, rfl, rfl, by omega, (g3.block w.heap.size hzr).trans HBX.out, ext_trans HBL.out g3, HA3.out⟩
          case measure => simp; omega
        by_cases h66 : c = 66
        · subst h66
          have hg : ((mk H)[pos]'h').toNat = 66 := hg
          have HA3 : Hid (acc ++ 120 :: Lib.itoa x.b ++ (H.drop (pos + 1)).flatMap (pieceL x) = T) := Lib.hid (by rw [← HA2.out, piece66])
          obtain ⟨⟨c0, c1, c2, c3, c4, c5⟩, f0, f1, f2, f3, f4, f5⟩ := six_at HBX.out
          have HIT0 := Lib.hid (fun w => rnum_any x.b HFT.out.2.2.1 w)
          have hlen := (itoa_len x.b HFT.out.2.2.1).2
          have hts : (mk (Lib.itoa x.b)).size = (Lib.itoa x.b).length := rfl
          have hcat : mk acc ++ (⟨#[120]⟩ : ByteArray) = mk (acc ++ [120]) := mk_app acc [120]
          have h120 : (⟨#[120]⟩ : ByteArray).size = 1 := rfl
          have hcat2 : mk (acc ++ [120]) ++ mk (Lib.itoa x.b) = mk (acc ++ [120] ++ Lib.itoa x.b) := mk_app _ _
          have hsz2 : (mk (acc ++ [120])).size = acc.length + 1 := by rw [mk_size, List.length_append]; rfl
          generalize Lib.itoa x.b = IT at *
          go_wp2_with fail
          refine (HIT0.out _).mono ?_; rintro e w3 ⟨rfl, g3⟩
          go_wp2_with fail
          go_roundw
          case rel => exact ⟨pos + 1, acc ++ 120 :: IT, rfl, rfl, by omega, (g3.block w.heap.size hzr).trans HBX.out, ext_trans HBL.out g3, HA3.out⟩
          case measure => simp; omega
        by_cases h78 : c = 78
        · subst h78
          have hg : ((mk H)[pos]'h').toNat = 78 := hg
          have HA3 : Hid (acc ++ Lib.itoa x.n ++ (H.drop (pos + 1)).flatMap (pieceL x) = T) := Lib.hid (by rw [← HA2.out, piece78])
          obtain ⟨⟨c0, c1, c2, c3, c4, c5⟩, f0, f1, f2, f3, f4, f5⟩ := six_at HBX.out
          have HIT0 := Lib.hid (fun w => rnum_any x.n HFT.out.2.2.2.1 w)
          have hlen := (itoa_len x.n HFT.out.2.2.2.1).2
          have hts : (mk (Lib.itoa x.n)).size = (Lib.itoa x.n).length := rfl
          have hcat2 : mk acc ++ mk (Lib.itoa x.n) = mk (acc ++ Lib.itoa x.n) := mk_app _ _
          generalize Lib.itoa x.n = IT at *
          go_wp2_with fail
          refine (HIT0.out _).mono ?_; rintro e w3 ⟨rfl, g3⟩
          go_wp2_with fail
          go_roundw
          case rel => exact ⟨pos + 1, acc ++ IT, rfl, rfl, by omega, (g3.block w.heap.size hzr).trans HBX.out, ext_trans HBL.out g3, HA3.out⟩
          case measure => simp; omega
        by_cases h83 : c = 83
        · subst h83
          have hg : ((mk H)[pos]'h').toNat = 83 := hg
          have HA3 : Hid (acc ++ Lib.itoa x.n ++ (H.drop (pos + 1)).flatMap (pieceL x) = T) := Lib.hid (by rw [← HA2.out, piece83])
          obtain ⟨⟨c0, c1, c2, c3, c4, c5⟩, f0, f1, f2, f3, f4, f5⟩ := six_at HBX.out
          have HIT0 := Lib.hid (fun w => rnum_any x.n HFT.out.2.2.2.1 w)
          have hlen := (itoa_len x.n HFT.out.2.2.2.1).2
          have hts : (mk (Lib.itoa x.n)).size = (Lib.itoa x.n).length := rfl
          have hcat2 : mk acc ++ mk (Lib.itoa x.n) = mk (acc ++ Lib.itoa x.n) := mk_app _ _
          generalize Lib.itoa x.n = IT at *
          go_wp2_with fail
          refine (HIT0.out _).mono ?_; rintro e w3 ⟨rfl, g3⟩
          go_wp2_with fail
          go_roundw
          case rel => exact ⟨pos + 1, acc ++ IT, rfl, rfl, by omega, (g3.block w.heap.size hzr).trans HBX.out, ext_trans HBL.out g3, HA3.out⟩
          case measure => simp; omega
        by_cases h76 : c = 76
        · subst h76
          have hg : ((mk H)[pos]'h').toNat = 76 := hg
          have HA3 : Hid (acc ++ x.name ++ (H.drop (pos + 1)).flatMap (pieceL x) = T) := Lib.hid (by rw [← HA2.out, piece76])
          obtain ⟨⟨c0, c1, c2, c3, c4, c5⟩, f0, f1, f2, f3, f4, f5⟩ := six_at HBX.out
          have hlen := HFT.out.2.2.2.2
          have hts : (mk x.name).size = x.name.length := rfl
          have hcat2 : mk acc ++ mk x.name = mk (acc ++ x.name) := mk_app _ _
          go_wp2_with fail
          go_roundw
          case rel => exact ⟨pos + 1, acc ++ x.name, rfl, rfl, by omega, HBX.out, HBL.out, HA3.out⟩
          case measure => simp; omega
        have e68 := byte_ne (k := 68) (by decide) h68
        have e65 := byte_ne (k := 65) (by decide) h65
        have e66 := byte_ne (k := 66) (by decide) h66
        have e78 := byte_ne (k := 78) (by decide) h78
        have e83 := byte_ne (k := 83) (by decide) h83
        have e76 := byte_ne (k := 76) (by decide) h76
        have HA3 : Hid (acc ++ [c] ++ (H.drop (pos + 1)).flatMap (pieceL x) = T) := Lib.hid (by rw [← HA2.out, piece_o x c h68 h65 h66 h78 h83 h76])
        clear h68 h65 h66 h78 h83 h76
        rw [← hg] at e68 e65 e66 e78 e83 e76
        clear hg
        have e68 : ((((mk H)[pos]'h').toNat : Int) == 68) = false := e68
        have e65 : ((((mk H)[pos]'h').toNat : Int) == 65) = false := e65
        have e66 : ((((mk H)[pos]'h').toNat : Int) == 66) = false := e66
        have e78 : ((((mk H)[pos]'h').toNat : Int) == 78) = false := e78
        have e83 : ((((mk H)[pos]'h').toNat : Int) == 83) = false := e83
        have e76 : ((((mk H)[pos]'h').toNat : Int) == 76) = false := e76
        have hcat2 : mk acc ++ mk [c] = mk (acc ++ [c]) := mk_app _ _
        have hts : (mk [c]).size = 1 := rfl
        go_wp2_with fail
        go_roundw
        case rel => exact ⟨pos + 1, acc ++ [c], rfl, rfl, by omega, HBX.out, HBL.out, HA3.out⟩
        case measure => simp; omega
      · have HT : Hid (acc = T) := Lib.hid (by rw [← HACC.out, List.drop_eq_nil_of_le (by omega)]; simp)
        go_wp2_with fail
        go_ret2
        exact ⟨by rw [← HT.out]; rfl, HBL.out⟩
end Go.Proofs.YtdfiaefdbalcoaaDoor
