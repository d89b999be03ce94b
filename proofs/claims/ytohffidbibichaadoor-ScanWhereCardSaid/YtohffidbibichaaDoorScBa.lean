/- The walk of ScanWhere: the call answers true and leaves what was there as it was. -/
import Derived.Test.YtohffidbibichaaDoorRows
import Derived.WalkKit
import Derived.ProofKit
import Derived.OpenShut
import Derived.WalkLawsBesides
import Derived.WalkSpells
import Derived.Outline
import Derived.Handy
import Derived.Lib.Hide
import Derived.Lib.OthersKept
import Derived.KernelRfl
import Derived.RegionTactic
import Derived.BigRegion
import Derived.Deep.RegionHeld3
import Derived.Deep.Cut
import Derived.Deep.CutBlock
import Derived.Test.YtohffidbibichaaDoorScZ
namespace Go.Proofs.YtohffidbibichaaDoor
open Go.ChangeShapes Go.WideShapes Go.ChangeAt Go.RowKit
set_option linter.unusedVariables false
theorem none_scan {l : List UInt8} (hl : l ≠ []) (h1 : blankR (rnL l) = false) (h2 : pieceQ (mk l) (rnL l) = none) (line : Nat) (acc : List Tk) : scanA line l acc = ([], false, line) := by
  rw [scanA_step _ _ _ hl, h1, h2]; rfl
theorem no_sign (a : UInt8) (r : List UInt8) (x : Int) (h1 : letterR x = false) (h2 : digitR x = false) (h3 : (x == 39) = false) (h4 : a ≠ 47) (h5 : Lib.indexByte signs a < 0) (h6 : two (mk (a :: r)) = false) : pieceQ (mk (a :: r)) x = none := by
  rw [pieceQ_cons]
  unfold pieceP
  rw [slashes_no a r h4, h1, h2, h3, signN_first, h6]
  have : ¬ 0 ≤ Lib.indexByte signs a := by omega
  simp [this]
theorem bad_one (a : UInt8) (more : List UInt8) (ha : a ∈ [63, 35, 36, 64, 34, 92, 0, 96]) (line : Nat) (acc : List Tk) : scanA line (a :: 32 :: more) acc = ([], false, line) := by
  have hf : a.toNat < 128 ∧ letterR (a.toNat : Int) = false ∧ digitR (a.toNat : Int) = false ∧ ((a.toNat : Int) == 39) = false ∧ a ≠ 47 ∧ Lib.indexByte signs a < 0 ∧ blankR (a.toNat : Int) = false := by
    simp only [List.mem_cons, List.not_mem_nil, or_false] at ha
    rcases ha with rfl | rfl | rfl | rfl | rfl | rfl | rfl | rfl <;> decide +kernel
  obtain ⟨k1, k2, k3, k4, k5, k6, k7⟩ := hf
  have hr := rnL_cons a (32 :: more) k1
  refine none_scan (by simp) (by rw [hr]; exact k7) ?_ line acc
  rw [hr]
  refine no_sign a _ _ k2 k3 k4 k5 k6 ?_
  rw [two_of]; simp
theorem bad_high (more : List UInt8) (line : Nat) (acc : List Tk) : scanA line (255 :: 32 :: more) acc = ([], false, line) := by
  have hd : Lib.decodeL (255 :: 32 :: more) = (65533, 1) := by
    rw [Lib.decodeL_N]
    have e0 : ((255 :: 32 :: more : List UInt8).getD 0 0).toNat = 255 := rfl
    rw [e0]
    unfold Lib.decodeN
    rw [if_neg (by decide), if_neg (by intro h; exact absurd h.1 (by decide)), if_neg (by intro h; exact absurd h.1 (by decide)), if_neg (by intro h; exact absurd h.1 (by decide))]
  have hr := (rnL_dec hd).1
  refine none_scan (by simp) (by rw [hr]; decide) ?_ line acc
  rw [hr]
  refine no_sign 255 _ _ (by decide) (by decide) (by decide) (by decide) (by decide +kernel) ?_
  rw [two_of]; simp
theorem bad_quote (l : List UInt8) (h : charP (mk (39 :: l)) = none) (line : Nat) (acc : List Tk) : scanA line (39 :: l) acc = ([], false, line) := by
  have hr := rnL_cons 39 l (by decide)
  refine none_scan (by simp) (by rw [hr]; decide) ?_ line acc
  rw [hr, pieceQ_cons]
  unfold pieceP
  rw [slashes_no 39 l (by decide)]
  exact h
theorem bad_char1 (b : UInt8) (r : List UInt8) (hb : b.toNat < 128) (hbad : badC (b.toNat : Int) = true) : charP (mk (39 :: b :: r)) = none := by
  have w0 : wd (mk (39 :: b :: r)) 0 = 1 := (ascL (39 :: b :: r) 0 (by simp) (by simp)).2
  have r1 : rn (mk (39 :: b :: r)) 1 = (b.toNat : Int) := (ascL (39 :: b :: r) 1 (by simp) (by simpa using hb)).1
  unfold charP
  rw [w0, r1, hbad, if_neg (by simp)]
theorem bad_char2 (b c : UInt8) (r : List UInt8) (hb : b.toNat < 128) (hc : c.toNat < 128) (hn : c ≠ 39) : charP (mk (39 :: b :: c :: r)) = none := by
  have w0 : wd (mk (39 :: b :: c :: r)) 0 = 1 := (ascL (39 :: b :: c :: r) 0 (by simp) (by simp)).2
  have w1 : wd (mk (39 :: b :: c :: r)) 1 = 1 := (ascL (39 :: b :: c :: r) 1 (by simp) (by simpa using hb)).2
  have r2 : rn (mk (39 :: b :: c :: r)) (1 + 1) = (c.toNat : Int) := (ascL (39 :: b :: c :: r) 2 (by simp) (by simpa using hc)).1
  have hne : ¬ (c.toNat : Int) = 39 := fun e => hn (by apply UInt8.toNat_inj.1; show c.toNat = 39; omega)
  unfold charP
  rw [w0, w1, r2, if_neg (fun h => hne h.2.2.2)]
theorem bad_long (more : List UInt8) (line : Nat) (acc : List Tk) : scanA line (List.replicate 21 97 ++ 32 :: more) acc = ([], false, line) := by
  have hp : Plain inNameR (List.replicate 21 97) := plain_of (by decide)
  obtain ⟨h1, h2⟩ := piece_letter 97 (List.replicate 20 97 ++ 32 :: more) (by decide)
  have h3 := wordP_run (List.replicate 21 97) (32 :: more) hp (.inr ⟨32, more, rfl, .inl rfl⟩)
  have hw : wordB (mk (List.replicate 21 97)) = false := by kernel_rfl
  rw [hw, if_neg (by simp), if_neg (by decide)] at h3
  exact none_scan (by simp [List.replicate]) h1 (h2.trans h3) line acc
def badTs : List (List UInt8) := [[63], [35], [36], [64], [34], [92], [0], [255], [39, 39], [39, 97, 98, 39], [39, 10], [48, 49], [96], List.replicate 21 97]
theorem bad_scan {c : List UInt8} (h : c ∈ badTs) (more : List UInt8) (line : Nat) (acc : List Tk) : scanA line (c ++ 32 :: more) acc = ([], false, line) := by
  unfold badTs at h
  simp only [List.mem_cons, List.not_mem_nil, or_false] at h
  rcases h with rfl | rfl | rfl | rfl | rfl | rfl | rfl | rfl | rfl | rfl | rfl | rfl | rfl | rfl
  · exact bad_one _ more (by decide) _ _
  · exact bad_one _ more (by decide) _ _
  · exact bad_one _ more (by decide) _ _
  · exact bad_one _ more (by decide) _ _
  · exact bad_one _ more (by decide) _ _
  · exact bad_one _ more (by decide) _ _
  · exact bad_one _ more (by decide) _ _
  · exact bad_high more _ _
  · exact bad_quote _ (bad_char1 39 _ (by decide) (by decide)) _ _
  · exact bad_quote _ (bad_char2 97 98 _ (by decide) (by decide) (by decide)) _ _
  · exact bad_quote _ (bad_char1 10 _ (by decide) (by decide)) _ _
  · exact bad_digits 48 [49] (32 :: more) (plain_of (by decide)) (.inr ⟨32, more, rfl, .inl rfl⟩) (.inr ⟨rfl, by simp⟩) _ _
  · exact bad_one _ more (by decide) _ _
  · exact bad_long more _ _
def Fed (ts : List Item) : Prop := ∀ t ∈ ts, t.gap = [10]
theorem fed_end : ∀ (ts : List Item) (line : Nat), Fed ts → endI line ts = line + ts.length
  | [], line, _ => rfl
  | t :: ts, line, h => by
    rw [endI, fed_end ts _ (fun x hx => h x (List.mem_cons_of_mem _ hx)), h t (List.mem_cons_self ..), List.length_cons]
    have : List.count 10 [(10 : UInt8)] = 1 := rfl
    rw [this]; omega
theorem where_scan (ts : List Item) (h : AllI ts) (hf : Fed ts) {c : List UInt8} (hc : c ∈ badTs) (more : List UInt8) : scanL (mk (joinI ts ++ c ++ 32 :: more)) = ([], false, 1 + ts.length) := by
  rw [scanL_A, mk_list, List.append_assoc, joinI_scan ts 1 _ [] h, bad_scan hc, fed_end ts 1 hf]
end Go.Proofs.YtohffidbibichaaDoor
