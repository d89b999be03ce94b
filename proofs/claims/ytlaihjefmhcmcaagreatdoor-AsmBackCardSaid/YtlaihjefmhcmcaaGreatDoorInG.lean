/- An instruction is printed. -/
import Derived.Test.YtlaihjefmhcmcaaGreatDoorRows
import Derived.WalkKit
import Derived.ProofKit
import Derived.OpenShut
import Derived.WalkLawsBesides
import Derived.WalkSpells
import Derived.Outline
import Derived.Handy
import Derived.Lib.Hide
import Derived.Lib.OthersKept
import Derived.KernelRfl
import Derived.Test.YtlaihjefmhcmcaaGreatDoorInD
import Derived.Test.YtlaihjefmhcmcaaGreatDoorInE
import Derived.Test.YtlaihjefmhcmcaaGreatDoorBld
namespace Go.Proofs.YtlaihjefmhcmcaaGreatDoor
open Go.ChangeShapes Go.WideShapes Go.ChangeAt Go.RowKit
set_option linter.unusedVariables false
theorem below_more (w : World) (k : Nat) (os : Array Obj) : Below w.heap.size w (Go.Sort.grow (w.drewN k) os) :=
  ⟨rfl, rfl, rfl, by simp [Go.Sort.grow, World.drewN], fun i hi => by
    have : i < (w.drewN k).heap.size := hi
    show ((w.drewN k).heap ++ os)[i]? = _
    rw [Array.getElem?_append_left this]; rfl⟩
theorem itoa_any (n : Int) (hn : I64 n) (w : World) (hv : Env w) : Calls Tryz.prog 15 #[.int .i64 n] w fun e w' => e = .returned (.string (mk (Lib.itoa n))) ∧ Below w.heap.size w w' := by
  refine (Tryz.strconv_Itoa n hn.1 hn.2 w hv.2.2.2).mono ?_
  rintro e w' ⟨rfl, k, os, rfl⟩
  exact ⟨rfl, below_more _ _ _⟩
theorem Bld.ext {B b : Nat} {l : List UInt8} {w w' : World} (h : Bld B b l w) (g : Below w.heap.size w w') : Bld B b l w' := by
  have key : ∀ p, Lib.BuilderAtF 54 5 B b p (Lib.byteCells l) w → Lib.BuilderAtF 54 5 B b p (Lib.byteCells l) w' := by
    rintro p ⟨hB, v, hb, hown, hne⟩
    refine ⟨hB, v, (g.block b (Array.getElem?_eq_some_iff.1 hb).1).trans hb, ⟨hown.1, ?_⟩, hne⟩
    rcases hown.2 with h | ⟨g0, cap, cur, fz, h1, h2, h3, h4⟩
    · exact .inl h
    · exact .inr ⟨g0, cap, cur, fz, h1, h2, (g.block g0 (Array.getElem?_eq_some_iff.1 h3).1).trans h3, h4⟩
  exact h.elim (fun k => .inl (key _ k)) (fun k => .inr (key _ k))
theorem Bld.lt {B b : Nat} {l : List UInt8} {w : World} (h : Bld B b l w) : b < w.heap.size := by
  rcases h with ⟨_, v, hb, _⟩ | ⟨_, v, hb, _⟩
  · exact (Array.getElem?_eq_some_iff.1 hb).1
  · exact (Array.getElem?_eq_some_iff.1 hb).1
theorem Bld.iterAt {B b : Nat} {l : List UInt8} {w : World} (h : Bld B b l w) {k : Nat} {s : ByteArray} {pos : Nat} (hk : w.heap[k]? = some (.stringIter s pos)) (pos' : Nat) : Bld B b l (w.iterAt k s pos') := Lib.IsBuilderF.iterAt h hk pos'
theorem Bld.fresh (w : World) : Bld w.heap.size w.heap.size [] (w.alloc (.cells #[.pointer none, .slice none 0 0] 54)) := Lib.IsBuilderF.of (Lib.fresh_isBuilder _ _ w)
theorem Bld.alloc {B b : Nat} {l : List UInt8} {w : World} (h : Bld B b l w) (o : Obj) : Bld B b l (w.alloc o) := h.ext ((Below.refl _ _).alloc (Nat.le_refl _) _)
set_option maxRecDepth 100000 in
theorem print_no (x : In) (w : World) (hl : x.name.length ≤ 140737488355328) (h : rightB x = false) : Calls Tryz.prog 16 #[inV x] w fun e w' => e = .returned (.tuple #[.string (mk []), .int .i64 1]) ∧ Below w.heap.size w w' := by
  have HR := Lib.hid (fun w => right_any x w hl)
  rw [h] at HR
  unfold inV at HR ⊢
  go_enter Tryz.func16, Tryz.ntmps16
  go_wp2_with fail
  refine (HR.out _).mono ?_; rintro e w1 ⟨rfl, g1⟩
  go_wp2_with fail
  go_ret2
  exact ⟨rfl, ext_trans (ext_alloc (Below.refl _ _) _) g1⟩
set_option maxHeartbeats 8000000 in
set_option maxRecDepth 100000 in
theorem print_yes (x : In) (w : World) (hn : I64 x.n) (h : rightB x = true) (hv : Env w) : Calls Tryz.prog 16 #[inV x] w fun e w' => e = .returned (.tuple #[.string (mk (txtL x)), .int .i64 0]) ∧ Below w.heap.size w w' := by
  have HFT := Lib.hid (right_fits h hn)
  have HR := Lib.hid (fun w => right_any x w (by have := HFT.out.2.2.2.2; omega))
  rw [h] at HR
  have HF := Lib.hid (fun w => form_any x.op w)
  have HOP := right_op h
  rw [HOP] at HF
  have HAS := has_any x.op
  have hT : Hid (txtL x = if hasL x.op = [] then nmL x.op else nmL x.op ++ 32 :: (hasL x.op).flatMap (pieceL x)) := Lib.hid rfl
  have hNM := (nm_len HOP).2
  unfold formV at HF
  unfold inV at HR ⊢
  have HV := Lib.hid hv
  clear hv h HOP
  generalize hasL x.op = H at *
  generalize nmL x.op = NM at *
  have HB0 : ∀ w1 : World, Below (w.alloc (.cells (inC x) 46)).heap.size (w.alloc (.cells (inC x) 46)) w1 → w1.heap[w.heap.size]? = some (.cells (inC x) 46 (0, 0)) := fun w1 g => (g.block w.heap.size (by simp)).trans (heap_new _ _)
  have HB0 := Lib.hid HB0
  have hHs : (mk H).size = H.length := rfl
  have hNs : (mk NM).size = NM.length := rfl
  have hts : (mk H).toList = H := mk_tl H
  go_enter Tryz.func16, Tryz.ntmps16
  go_wp2_with fail
  refine (HR.out _).mono ?_; rintro e w1 ⟨rfl, g1⟩
  have hB := HB0.out _ g1
  obtain ⟨⟨c0, c1, c2, c3, c4, c5⟩, f0, f1, f2, f3, f4, f5⟩ := six_at hB
  have hz : w.heap.size < w1.heap.size := (Array.getElem?_eq_some_iff.1 hB).1
  have G1 := Lib.hid (ext_trans (ext_alloc (Below.refl w.heap.size w) (.cells (inC x) 46)) g1)
  have HB := Lib.hid hB
  clear hB g1
  go_wp2_with fail
  refine (HF.out _).mono ?_; rintro e w2 ⟨rfl, g2⟩
  have hz2 : w.heap.size < w2.heap.size := by have := g2.size; omega
  have HB2 := Lib.hid ((g2.block _ hz).trans HB.out)
  have G2 := Lib.hid (ext_trans G1.out g2)
  clear c0 c1 c2 c3 c4 c5 f0 f1 f2 f3 f4 f5 g2 G1 HB
  cases hH : H with
  | nil =>
    subst hH
    have HTX : Hid (txtL x = NM) := Lib.hid (by rw [hT.out, if_pos rfl])
    clear hT
    go_wp2_with fail
    go_ret2
    exact ⟨by rw [HTX.out]; rfl, ext_alloc G2.out _⟩
  | cons h0 ht =>
    have HH := Lib.hid hH
    have hne : H ≠ [] := by rw [hH]; simp
    have hemp : H.isEmpty = false := by rw [hH]; rfl
    rw [← hH]
    have HTX : Hid (txtL x = NM ++ 32 :: H.flatMap (pieceL x)) := Lib.hid (by rw [hT.out, if_neg hne])
    clear hT hH
    have hcat : mk NM ++ (⟨#[32]⟩ : ByteArray) = mk (NM ++ [32]) := mk_app NM [32]
    have h32 : (⟨#[32]⟩ : ByteArray).size = 1 := rfl
    have hls : (mk (NM ++ [32])).size = NM.length + 1 := by rw [mk_size, List.length_append]; rfl
    have hLN : (NM ++ [32]).length = NM.length + 1 := by rw [List.length_append]; rfl
    go_wp2_with fail
    refine (write_any (w2.heap.size + 1) (w2.heap.size + 1) [] (NM ++ [32]) _ (by have := Bld.fresh (w2.alloc (.cells #[.string (mk NM), .string (mk H)] 75)); simpa using this) (by rw [hLN]; simp; omega) (by simp)).mono ?_
    rintro e w3 ⟨rfl, hI3, b3, k3⟩
    rw [List.nil_append] at hI3
    have hsz3 : w2.heap.size + 1 < w3.heap.size := hI3.lt
    have G3 := Lib.hid (show Below w.heap.size w w3 from (ext_alloc (ext_alloc G2.out (.cells #[.string (mk NM), .string (mk H)] 75)) (.cells #[.pointer none, .slice none 0 0] 54)).trans (b3.mono (by omega)))
    have HB3 := Lib.hid ((b3.block w.heap.size (by omega)).trans ((Lib.alloc_old _ _ _ (by simp; omega)).trans ((Lib.alloc_old _ _ _ hz2).trans HB2.out)))
    have HF3 : w3.heap[w2.heap.size]? = some (.cells #[.string (mk NM), .string (mk H)] 75 (0, 0)) := (b3.block w2.heap.size (by omega)).trans ((Lib.alloc_old _ _ _ (by simp)).trans (heap_new _ _))
    have m0 : w3.cell? ⟨w2.heap.size, 0, none⟩ = some (.string (mk NM)) := (cell_row HF3 0).trans rfl
    have m1 : w3.cell? ⟨w2.heap.size, 1, none⟩ = some (.string (mk H)) := (cell_row HF3 1).trans rfl
    have HI3 := Lib.hid hI3
    clear hI3 HF3 b3 k3 hcat hls h32
    go_wp2_with fail
    clear m0 m1
    go_loopw [] (fun wr => ∃ (pos : Nat) (acc : List UInt8), pos ≤ H.length ∧ acc.length ≤ 6 + 40 * pos ∧ acc ++ (H.drop pos).flatMap (pieceL x) = txtL x ∧ Bld (w2.heap.size + 1) (w2.heap.size + 1) acc wr ∧ wr.heap[w3.heap.size]? = some (.stringIter (mk H) pos) ∧
      wr.heap[w.heap.size]? = some (.cells (inC x) 46 (0, 0)) ∧ Below w.heap.size w wr) (fun wr => H.length - wr.iterPos w3.heap.size)
    case atStart =>
      refine ⟨0, NM ++ [32], Nat.zero_le _, by rw [hLN]; omega, by rw [HTX.out, List.drop_zero]; simp, HI3.out.alloc _, ?_, ?_, ext_alloc G3.out _⟩
      · exact heap_new _ _
      · exact (Lib.alloc_old _ _ _ (by omega)).trans HB3.out
    case round =>
      obtain ⟨pos, acc, hp, hal, hacc, hI, hit, hbx, hbl⟩ := hrel
      have HACC := Lib.hid hacc
      have HIT := Lib.hid hit
      clear hacc
      by_cases hlt : pos < H.length
      · have hasc : (H[pos]'hlt).toNat < 128 := HAS.2 _ (List.getElem_mem hlt)
        have hdr := drop_at H pos hlt
        have hnx := fun ty => Lib.run_next_ascii_at (P := Tryz.prog) wr w3.heap.size (mk H) pos ty hit hlt hasc
        have hg : ((mk H)[pos]'hlt).toNat = (H[pos]'hlt).toNat := rfl
        have hit2 := Lib.hid (Lib.iterAt_heap wr _ (mk H) pos (pos + 1) hit)
        have hbl2 := Lib.below_iterAt hbl (k := w3.heap.size) (by omega) (mk H) (pos + 1)
        have hI2 := hI.iterAt hit (pos + 1)
        have hbx2 : (wr.iterAt w3.heap.size (mk H) (pos + 1)).heap[w.heap.size]? = some (.cells (inC x) 46 (0, 0)) := (Lib.iterAt_other wr _ _ _ _ (by omega)).trans hbx
        rw [hg] at hnx
        clear hg hit hbx hI
        generalize H[pos]'hlt = c at *
        rw [hdr] at HACC
        clear hdr
        have HPL := Lib.hid (piece_len x HFT.out c)
        have hmeas : H.length - (pos + 1) < H.length - wr.iterPos w3.heap.size := by
          have a : wr.iterPos w3.heap.size = pos := by simp [World.iterPos, HIT.out]
          omega
        have HM := Lib.hid hmeas
        clear hmeas
        generalize hwi : wr.iterAt w3.heap.size (mk H) (pos + 1) = wi at *
        clear hwi
        have hsz : w3.heap.size < wi.heap.size := (Array.getElem?_eq_some_iff.1 hit2.out).1
        have HE := Lib.hid (HV.out.ext hbl2)
        have HA2 : Hid (acc ++ pieceL x c ++ (H.drop (pos + 1)).flatMap (pieceL x) = txtL x) := Lib.hid (by rw [← HACC.out, List.flatMap_cons, List.append_assoc])
        have HBX := Lib.hid hbx2
        have HBL := Lib.hid hbl2
        have HNX := Lib.hid hnx
        have HI := Lib.hid hI2
        clear hbx2 hbl2 hnx hI2 HACC
        have hal2 : acc.length ≤ 286 := by omega
        by_cases h68 : c = 68
        · subst h68
          have hnx : ∀ ty, (Instr.next (.pointer (some ⟨w3.heap.size, 0, none⟩)) true ty).run Tryz.prog wr = .ok (.tuple #[.bool true, .int .i64 pos, .int .i32 68]) wi := HNX.out
          obtain ⟨⟨c0, c1, c2, c3, c4, c5⟩, f0, f1, f2, f3, f4, f5⟩ := six_at HBX.out
          have HIT0 := Lib.hid (itoa_any x.d HFT.out.1 wi HE.out)
          have hlen := (itoa_len x.d HFT.out.1).2
          have hts : (mk (Lib.itoa x.d)).size = (Lib.itoa x.d).length := rfl
          have hcat : (⟨#[120]⟩ : ByteArray) ++ mk (Lib.itoa x.d) = mk (120 :: Lib.itoa x.d) := mk_app [120] (Lib.itoa x.d)
          have h120 : (⟨#[120]⟩ : ByteArray).size = 1 := rfl
          go_wp2_with fail
          refine HIT0.out.mono ?_; rintro e w4 ⟨rfl, g4⟩
          have hit3 := Lib.hid ((g4.block w3.heap.size hsz).trans hit2.out)
          have hbx3 := Lib.hid ((g4.block w.heap.size (by omega)).trans HBX.out)
          have hbl3 := Lib.hid (ext_trans HBL.out g4)
          have hI3 := HI.out.ext g4
          have hsz4 : w3.heap.size < w4.heap.size := (Array.getElem?_eq_some_iff.1 hit3.out).1
          clear g4 c0 c1 c2 c3 c4 c5 f0 f1 f2 f3 f4 f5
          have HWR := Lib.hid (write_any (w2.heap.size + 1) (w2.heap.size + 1) acc (120 :: Lib.itoa x.d) w4 hI3 (by rw [List.length_cons]; omega) (by omega))
          clear hI3
          go_wp2_with fail
          refine HWR.out.mono ?_; rintro e w5 ⟨rfl, hI4, b4, k4⟩
          go_wp2_with fail
          go_roundw
          case rel => exact ⟨pos + 1, acc ++ 120 :: Lib.itoa x.d, by omega, by have := HPL.out; rw [show pieceL x _ = 120 :: Lib.itoa x.d from rfl] at this; rw [List.length_append]; omega, HA2.out, hI4, k4.iter hit3.out (by omega), (b4.block w.heap.size (by omega)).trans hbx3.out, hbl3.out.trans (b4.mono (by omega))⟩
          case measure => rw [show World.iterPos _ w3.heap.size = pos + 1 from by simp [World.iterPos, k4.iter hit3.out (show w3.heap.size ≠ w2.heap.size + 1 by omega)]]; exact HM.out
        by_cases h65 : c = 65
        · subst h65
          have hnx : ∀ ty, (Instr.next (.pointer (some ⟨w3.heap.size, 0, none⟩)) true ty).run Tryz.prog wr = .ok (.tuple #[.bool true, .int .i64 pos, .int .i32 65]) wi := HNX.out
          obtain ⟨⟨c0, c1, c2, c3, c4, c5⟩, f0, f1, f2, f3, f4, f5⟩ := six_at HBX.out
          have HIT0 := Lib.hid (itoa_any x.a HFT.out.2.1 wi HE.out)
          have hlen := (itoa_len x.a HFT.out.2.1).2
          have hts : (mk (Lib.itoa x.a)).size = (Lib.itoa x.a).length := rfl
          have hcat : (⟨#[120]⟩ : ByteArray) ++ mk (Lib.itoa x.a) = mk (120 :: Lib.itoa x.a) := mk_app [120] (Lib.itoa x.a)
          have h120 : (⟨#[120]⟩ : ByteArray).size = 1 := rfl
          go_wp2_with fail
          refine HIT0.out.mono ?_; rintro e w4 ⟨rfl, g4⟩
          have hit3 := Lib.hid ((g4.block w3.heap.size hsz).trans hit2.out)
          have hbx3 := Lib.hid ((g4.block w.heap.size (by omega)).trans HBX.out)
          have hbl3 := Lib.hid (ext_trans HBL.out g4)
          have hI3 := HI.out.ext g4
          have hsz4 : w3.heap.size < w4.heap.size := (Array.getElem?_eq_some_iff.1 hit3.out).1
          clear g4 c0 c1 c2 c3 c4 c5 f0 f1 f2 f3 f4 f5
          have HWR := Lib.hid (write_any (w2.heap.size + 1) (w2.heap.size + 1) acc (120 :: Lib.itoa x.a) w4 hI3 (by rw [List.length_cons]; omega) (by omega))
          clear hI3
          go_wp2_with fail
          refine HWR.out.mono ?_; rintro e w5 ⟨rfl, hI4, b4, k4⟩
          go_wp2_with fail
          go_roundw
          case rel => exact ⟨pos + 1, acc ++ 120 :: Lib.itoa x.a, by omega, by have := HPL.out; rw [show pieceL x _ = 120 :: Lib.itoa x.a from rfl] at this; rw [List.length_append]; omega, HA2.out, hI4, k4.iter hit3.out (by omega), (b4.block w.heap.size (by omega)).trans hbx3.out, hbl3.out.trans (b4.mono (by omega))⟩
          case measure => rw [show World.iterPos _ w3.heap.size = pos + 1 from by simp [World.iterPos, k4.iter hit3.out (show w3.heap.size ≠ w2.heap.size + 1 by omega)]]; exact HM.out
        by_cases h66 : c = 66
        · subst h66
          have hnx : ∀ ty, (Instr.next (.pointer (some ⟨w3.heap.size, 0, none⟩)) true ty).run Tryz.prog wr = .ok (.tuple #[.bool true, .int .i64 pos, .int .i32 66]) wi := HNX.out
          obtain ⟨⟨c0, c1, c2, c3, c4, c5⟩, f0, f1, f2, f3, f4, f5⟩ := six_at HBX.out
          have HIT0 := Lib.hid (itoa_any x.b HFT.out.2.2.1 wi HE.out)
          have hlen := (itoa_len x.b HFT.out.2.2.1).2
          have hts : (mk (Lib.itoa x.b)).size = (Lib.itoa x.b).length := rfl
          have hcat : (⟨#[120]⟩ : ByteArray) ++ mk (Lib.itoa x.b) = mk (120 :: Lib.itoa x.b) := mk_app [120] (Lib.itoa x.b)
          have h120 : (⟨#[120]⟩ : ByteArray).size = 1 := rfl
          go_wp2_with fail
          refine HIT0.out.mono ?_; rintro e w4 ⟨rfl, g4⟩
          have hit3 := Lib.hid ((g4.block w3.heap.size hsz).trans hit2.out)
          have hbx3 := Lib.hid ((g4.block w.heap.size (by omega)).trans HBX.out)
          have hbl3 := Lib.hid (ext_trans HBL.out g4)
          have hI3 := HI.out.ext g4
          have hsz4 : w3.heap.size < w4.heap.size := (Array.getElem?_eq_some_iff.1 hit3.out).1
          clear g4 c0 c1 c2 c3 c4 c5 f0 f1 f2 f3 f4 f5
          have HWR := Lib.hid (write_any (w2.heap.size + 1) (w2.heap.size + 1) acc (120 :: Lib.itoa x.b) w4 hI3 (by rw [List.length_cons]; omega) (by omega))
          clear hI3
          go_wp2_with fail
          refine HWR.out.mono ?_; rintro e w5 ⟨rfl, hI4, b4, k4⟩
          go_wp2_with fail
          go_roundw
          case rel => exact ⟨pos + 1, acc ++ 120 :: Lib.itoa x.b, by omega, by have := HPL.out; rw [show pieceL x _ = 120 :: Lib.itoa x.b from rfl] at this; rw [List.length_append]; omega, HA2.out, hI4, k4.iter hit3.out (by omega), (b4.block w.heap.size (by omega)).trans hbx3.out, hbl3.out.trans (b4.mono (by omega))⟩
          case measure => rw [show World.iterPos _ w3.heap.size = pos + 1 from by simp [World.iterPos, k4.iter hit3.out (show w3.heap.size ≠ w2.heap.size + 1 by omega)]]; exact HM.out
        by_cases h78 : c = 78
        · subst h78
          have hnx : ∀ ty, (Instr.next (.pointer (some ⟨w3.heap.size, 0, none⟩)) true ty).run Tryz.prog wr = .ok (.tuple #[.bool true, .int .i64 pos, .int .i32 78]) wi := HNX.out
          obtain ⟨⟨c0, c1, c2, c3, c4, c5⟩, f0, f1, f2, f3, f4, f5⟩ := six_at HBX.out
          have HIT0 := Lib.hid (itoa_any x.n HFT.out.2.2.2.1 wi HE.out)
          have hlen := (itoa_len x.n HFT.out.2.2.2.1).2
          have hts : (mk (Lib.itoa x.n)).size = (Lib.itoa x.n).length := rfl
          go_wp2_with fail
          refine HIT0.out.mono ?_; rintro e w4 ⟨rfl, g4⟩
          have hit3 := Lib.hid ((g4.block w3.heap.size hsz).trans hit2.out)
          have hbx3 := Lib.hid ((g4.block w.heap.size (by omega)).trans HBX.out)
          have hbl3 := Lib.hid (ext_trans HBL.out g4)
          have hI3 := HI.out.ext g4
          have hsz4 : w3.heap.size < w4.heap.size := (Array.getElem?_eq_some_iff.1 hit3.out).1
          clear g4 c0 c1 c2 c3 c4 c5 f0 f1 f2 f3 f4 f5
          have HWR := Lib.hid (write_any (w2.heap.size + 1) (w2.heap.size + 1) acc (Lib.itoa x.n) w4 hI3 (by omega) (by omega))
          clear hI3
          go_wp2_with fail
          refine HWR.out.mono ?_; rintro e w5 ⟨rfl, hI4, b4, k4⟩
          go_wp2_with fail
          go_roundw
          case rel => exact ⟨pos + 1, acc ++ Lib.itoa x.n, by omega, by have := HPL.out; rw [show pieceL x _ = Lib.itoa x.n from rfl] at this; rw [List.length_append]; omega, HA2.out, hI4, k4.iter hit3.out (by omega), (b4.block w.heap.size (by omega)).trans hbx3.out, hbl3.out.trans (b4.mono (by omega))⟩
          case measure => rw [show World.iterPos _ w3.heap.size = pos + 1 from by simp [World.iterPos, k4.iter hit3.out (show w3.heap.size ≠ w2.heap.size + 1 by omega)]]; exact HM.out
        by_cases h83 : c = 83
        · subst h83
          have hnx : ∀ ty, (Instr.next (.pointer (some ⟨w3.heap.size, 0, none⟩)) true ty).run Tryz.prog wr = .ok (.tuple #[.bool true, .int .i64 pos, .int .i32 83]) wi := HNX.out
          obtain ⟨⟨c0, c1, c2, c3, c4, c5⟩, f0, f1, f2, f3, f4, f5⟩ := six_at HBX.out
          have HIT0 := Lib.hid (itoa_any x.n HFT.out.2.2.2.1 wi HE.out)
          have hlen := (itoa_len x.n HFT.out.2.2.2.1).2
          have hts : (mk (Lib.itoa x.n)).size = (Lib.itoa x.n).length := rfl
          go_wp2_with fail
          refine HIT0.out.mono ?_; rintro e w4 ⟨rfl, g4⟩
          have hit3 := Lib.hid ((g4.block w3.heap.size hsz).trans hit2.out)
          have hbx3 := Lib.hid ((g4.block w.heap.size (by omega)).trans HBX.out)
          have hbl3 := Lib.hid (ext_trans HBL.out g4)
          have hI3 := HI.out.ext g4
          have hsz4 : w3.heap.size < w4.heap.size := (Array.getElem?_eq_some_iff.1 hit3.out).1
          clear g4 c0 c1 c2 c3 c4 c5 f0 f1 f2 f3 f4 f5
          have HWR := Lib.hid (write_any (w2.heap.size + 1) (w2.heap.size + 1) acc (Lib.itoa x.n) w4 hI3 (by omega) (by omega))
          clear hI3
          go_wp2_with fail
          refine HWR.out.mono ?_; rintro e w5 ⟨rfl, hI4, b4, k4⟩
          go_wp2_with fail
          go_roundw
          case rel => exact ⟨pos + 1, acc ++ Lib.itoa x.n, by omega, by have := HPL.out; rw [show pieceL x _ = Lib.itoa x.n from rfl] at this; rw [List.length_append]; omega, HA2.out, hI4, k4.iter hit3.out (by omega), (b4.block w.heap.size (by omega)).trans hbx3.out, hbl3.out.trans (b4.mono (by omega))⟩
          case measure => rw [show World.iterPos _ w3.heap.size = pos + 1 from by simp [World.iterPos, k4.iter hit3.out (show w3.heap.size ≠ w2.heap.size + 1 by omega)]]; exact HM.out
        by_cases h76 : c = 76
        · subst h76
          have hnx : ∀ ty, (Instr.next (.pointer (some ⟨w3.heap.size, 0, none⟩)) true ty).run Tryz.prog wr = .ok (.tuple #[.bool true, .int .i64 pos, .int .i32 76]) wi := HNX.out
          obtain ⟨⟨c0, c1, c2, c3, c4, c5⟩, f0, f1, f2, f3, f4, f5⟩ := six_at HBX.out
          have hit3 := hit2
          have hbx3 := HBX
          have hbl3 := HBL
          have hlen := HFT.out.2.2.2.2
          have HWR := Lib.hid (write_any (w2.heap.size + 1) (w2.heap.size + 1) acc x.name wi HI.out (by omega) (by omega))
          go_wp2_with fail
          refine HWR.out.mono ?_; rintro e w5 ⟨rfl, hI4, b4, k4⟩
          go_wp2_with fail
          go_roundw
          case rel => exact ⟨pos + 1, acc ++ x.name, by omega, by have := HPL.out; rw [show pieceL x _ = x.name from rfl] at this; rw [List.length_append]; omega, HA2.out, hI4, k4.iter hit3.out (by omega), (b4.block w.heap.size (by omega)).trans hbx3.out, hbl3.out.trans (b4.mono (by omega))⟩
          case measure => rw [show World.iterPos _ w3.heap.size = pos + 1 from by simp [World.iterPos, k4.iter hit3.out (show w3.heap.size ≠ w2.heap.size + 1 by omega)]]; exact HM.out
        have e68 := byte_ne (k := 68) (by decide) h68
        have e65 := byte_ne (k := 65) (by decide) h65
        have e66 := byte_ne (k := 66) (by decide) h66
        have e78 := byte_ne (k := 78) (by decide) h78
        have e83 := byte_ne (k := 83) (by decide) h83
        have e76 := byte_ne (k := 76) (by decide) h76
        have HSTO : Hid (pieceL x c = [c]) := Lib.hid (by unfold pieceL; rw [if_neg h68, if_neg h65, if_neg h66, if_neg h78, if_neg h83, if_neg h76])
        have HRU := Lib.hid (rune_any (w2.heap.size + 1) (w2.heap.size + 1) acc c hasc wi HI.out (by omega) (by omega))
        clear h68 h65 h66 h78 h83 h76
        have hnx := HNX.out
        have hit3 := hit2
        have hbx3 := HBX
        have hbl3 := HBL
        rw [HSTO.out] at HA2
        generalize (c.toNat : Int) = r at *
        have e68 : (r == 68) = false := e68
        have e65 : (r == 65) = false := e65
        have e66 : (r == 66) = false := e66
        have e78 : (r == 78) = false := e78
        have e83 : (r == 83) = false := e83
        have e76 : (r == 76) = false := e76
        go_wp2_with fail
        refine HRU.out.mono ?_; rintro e w5 ⟨rfl, hI4, b4, k4⟩
        go_wp2_with fail
        go_roundw
        case rel => exact ⟨pos + 1, acc ++ [c], by omega, by rw [List.length_append]; simp; omega, HA2.out, hI4, k4.iter hit3.out (by omega), (b4.block w.heap.size (by omega)).trans hbx3.out, hbl3.out.trans (b4.mono (by omega))⟩
        case measure => rw [show World.iterPos _ w3.heap.size = pos + 1 from by simp [World.iterPos, k4.iter hit3.out (show w3.heap.size ≠ w2.heap.size + 1 by omega)]]; exact HM.out
      · have hnx := fun ty => Lib.run_next_end_at (P := Tryz.prog) wr w3.heap.size (mk H) pos ty hit hlt
        have HE2 : Hid (acc = txtL x) := Lib.hid (by rw [← HACC.out, List.drop_eq_nil_of_le (by omega)]; simp)
        have HSTR := Lib.hid (Tryz.Builder_String_any_k (w2.heap.size + 1) (w2.heap.size + 1) acc wr hI (by have := hI.lt; omega))
        have HBL := Lib.hid hbl
        clear hit hbx hbl
        go_wp2_with fail
        refine HSTR.out.mono ?_; rintro e w5 ⟨rfl, _, b4, _⟩
        go_wp2_with fail
        go_ret2
        exact ⟨by rw [← HE2.out]; rfl, HBL.out.trans (b4.mono (by omega))⟩
end Go.Proofs.YtlaihjefmhcmcaaGreatDoor
