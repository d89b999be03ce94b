/- The chapter's example, walked. -/
import Derived.Test.YtnfoplefaibmhaaGreatDoorRows
import Derived.WalkKit
import Derived.ProofKit
import Derived.OpenShut
import Derived.WalkLawsBesides
import Derived.WalkSpells
import Derived.Outline
import Derived.Handy
import Derived.Lib.Hide
import Derived.Lib.OthersKept
import Derived.KernelRfl
import Derived.Carry
import Derived.OwnWalk
import Derived.RegionTactic
import Derived.BigRegion
import Derived.BigQuiet
import Derived.Deep.QuietTactic
import Derived.Test.YtnfoplefaibmhaaGreatDoorBkW
import Derived.Test.YtnfoplefaibmhaaGreatDoorAsK
import Derived.Test.YtnfoplefaibmhaaGreatDoorBkR
namespace Go.Proofs.YtnfoplefaibmhaaGreatDoor
open Go.ChangeShapes Go.WideShapes Go.ChangeAt Go.RowKit
set_option linter.unusedVariables false
set_option maxRecDepth 100000
def bExT : List UInt8 := [97, 58, 10, 106, 32, 97, 10, 106, 97, 108, 32, 97, 10, 114, 101, 116, 10]
def bExC : Cd := ⟨[⟨[97], zeroI⟩, ⟨[], ⟨25, 0, 0, 0, 0, [97]⟩⟩, ⟨[], ⟨26, 0, 0, 0, 0, [97]⟩⟩, ⟨[], ⟨27, 0, 0, 0, 0, []⟩⟩], []⟩
theorem bEx_l0 : readLn [97, 58] = some ⟨[97], zeroI⟩ := readLn_lab (n := [97]) (by decide)
theorem bEx_l1 : readLn [106, 32, 97] = some ⟨[], ⟨25, 0, 0, 0, 0, [97]⟩⟩ := by
  have e : txtL ⟨25, 0, 0, 0, 0, [97]⟩ = [106, 32, 97] := by kernel_rfl
  have h := readLn_ins (x := ⟨25, 0, 0, 0, 0, [97]⟩) (by kernel_rfl) (show I64 _ from ⟨by decide, by decide⟩) (by rw [e]; decide)
  rw [e] at h; exact h
theorem bEx_l2 : readLn [106, 97, 108, 32, 97] = some ⟨[], ⟨26, 0, 0, 0, 0, [97]⟩⟩ := by
  have e : txtL ⟨26, 0, 0, 0, 0, [97]⟩ = [106, 97, 108, 32, 97] := by kernel_rfl
  have h := readLn_ins (x := ⟨26, 0, 0, 0, 0, [97]⟩) (by kernel_rfl) (show I64 _ from ⟨by decide, by decide⟩) (by rw [e]; decide)
  rw [e] at h; exact h
theorem bEx_l3 : readLn [114, 101, 116] = some ⟨[], ⟨27, 0, 0, 0, 0, []⟩⟩ := by
  have e : txtL ⟨27, 0, 0, 0, 0, []⟩ = [114, 101, 116] := by kernel_rfl
  have h := readLn_ins (x := ⟨27, 0, 0, 0, 0, []⟩) (by kernel_rfl) (show I64 _ from ⟨by decide, by decide⟩) (by rw [e]; decide)
  rw [e] at h; exact h
theorem bEx_run : runPs (splitNL bExT) 0 ⟨[], [], []⟩ = .inr ⟨bExC.arrays, bExC.lines, [1, 2, 3, 4]⟩ := by
  have hs : splitNL bExT = [[97, 58], [106, 32, 97], [106, 97, 108, 32, 97], [114, 101, 116], []] := by kernel_rfl
  rw [hs]
  rw [run_cons _ _ 0 _ ⟨[], [⟨[97], zeroI⟩], [1]⟩ [97, 58] (by kernel_rfl) (step_line _ 0 (by simp) (by rw [if_pos rfl]; exact readA_head (by decide)) bEx_l0)]
  rw [run_cons _ _ 1 _ ⟨[], [⟨[97], zeroI⟩, ⟨[], ⟨25, 0, 0, 0, 0, [97]⟩⟩], [1, 2]⟩ [106, 32, 97] (by kernel_rfl) (step_line _ 1 (by simp) (by rw [if_neg (by simp)]) bEx_l1)]
  rw [run_cons _ _ 2 _ ⟨[], [⟨[97], zeroI⟩, ⟨[], ⟨25, 0, 0, 0, 0, [97]⟩⟩, ⟨[], ⟨26, 0, 0, 0, 0, [97]⟩⟩], [1, 2, 3]⟩ [106, 97, 108, 32, 97] (by kernel_rfl) (step_line _ 2 (by simp) (by rw [if_neg (by simp)]) bEx_l2)]
  rw [run_cons _ _ 3 _ ⟨[], bExC.lines, [1, 2, 3, 4]⟩ [114, 101, 116] (by kernel_rfl) (step_line _ 3 (by simp) (by rw [if_neg (by simp)]) bEx_l3)]
  rw [run_cons _ _ 4 _ ⟨[], bExC.lines, [1, 2, 3, 4]⟩ [] (by kernel_rfl) (step_nil _ 4)]
  rfl
theorem bEx_f : faultL bExC = (0, -1) := by kernel_rfl
theorem bEx_p : parseL bExT = (bExC, 0, 0) := by
  rw [parse_end bEx_run]
  unfold endPs
  have h : faultL ⟨bExC.lines, bExC.arrays⟩ = (0, -1) := bEx_f
  simp only [h]
  rfl
theorem bEx_fit : CdFit bExC := ⟨fun l hl => (by revert l; decide), fun a ha => (by revert a; decide)⟩
def bExL : List In := [⟨25, 0, 0, 0, 0, [97]⟩, ⟨26, 0, 0, 0, 0, [97]⟩, ⟨27, 0, 0, 0, 0, []⟩]
theorem bEx_flat : flatI bExC.lines = bExL := by kernel_rfl
theorem bEx_to : (flatI bExC.lines).map (toL bExC) = [0, 0, -1] := by kernel_rfl
theorem bEx_goes : Goes bExL [0, 0, -1] := by
  have h := code_goes (c := bExC) (by rw [bEx_f])
  rw [bEx_to, bEx_flat] at h
  exact h
theorem bEx_n : nB bExL [0, 0, -1] = 3 := by kernel_rfl
theorem bEx_split : splitE bExL [0, 0, -1] 3 = [(0, 1), (1, 2), (2, 3)] := by kernel_rfl
theorem bEx_next0 : nextI bExL [0, 0, -1] 0 = [0] := by kernel_rfl
theorem bEx_next2 : nextI bExL [0, 0, -1] 2 = [2] := by kernel_rfl
theorem bEx_land : landL bExL = [2] := by kernel_rfl
theorem bEx_e2 : eN bExL [0, 0, -1] 2 = 2 := by kernel_rfl
theorem bEx_e3 : eN bExL [0, 0, -1] 3 = 3 := by kernel_rfl
theorem eq_23 (w : World) : (Op.equalIn 10000 34 (.agg #[.int .i64 2, .int .i64 3]) (.agg #[.int .i64 2, .int .i64 3])).run Tryz.prog w = .ok true w := by kernel_rfl
set_option maxHeartbeats 2000000 in
theorem awake19_any (w : World) (hv : Env w) : Calls Tryz.prog 6 #[] w fun e w' => e = .returned (.bool true) ∧ Below w.heap.size w w' := by
  have s1 := aparse_any bExT (by decide) w hv
  have e1 : mk bExT = ⟨#[97, 58, 10, 106, 32, 97, 10, 106, 97, 108, 32, 97, 10, 114, 101, 116, 10]⟩ := rfl
  rw [e1] at s1
  unfold AParse at s1
  rw [bEx_p] at s1
  have S1 := Lib.hid s1
  clear e1 s1 hv
  go_enter Tryz.func6, Tryz.ntmps6
  go_wp2_with fail
  refine S1.out.mono ?_; rintro e w1 ⟨⟨v, rfl, hc⟩, g1⟩
  obtain ⟨pa, ca, pl, cl, rfl⟩ := cd_shape hc
  have hl0 : bExC.arrays.length = 0 := rfl
  have hl1 : bExC.lines.length = 4 := rfl
  rw [hl0, hl1] at hc
  rw [hl0, hl1]
  have hfo := flat_ok hc bEx_fit (by rw [bEx_f]) (by rw [bEx_flat]; decide)
  rw [bEx_to, bEx_flat] at hfo
  have HFO := Lib.hid hfo
  have G1 := Lib.hid g1
  clear hl0 hl1 hc hfo g1 S1
  go_wp2_with fail
  refine (Split_any pa pl 0 ca 4 cl bExL [0, 0, -1] _ (FlatOk.ext HFO.out (ext_alloc (Below.refl _ _) _)) (by decide) bEx_goes).mono ?_; rintro e w2 ⟨⟨v4, rfl, hrow⟩, g2⟩
  rw [bEx_n] at hrow
  obtain ⟨p4, c4, rfl, hs4⟩ := row_split hrow
  obtain ⟨b4, rfl, k40, k41⟩ := hs4 2 (by decide)
  rw [bEx_e2] at k40
  rw [show 2 + 1 = 3 from rfl, bEx_e3] at k41
  have K40 : Hid (w2.cell? ⟨b4, 4, none⟩ = some (.int .i64 2)) := Lib.hid k40
  have K41 : Hid (w2.cell? ⟨b4, 5, none⟩ = some (.int .i64 3)) := Lib.hid k41
  have HB2 := Lib.hid ((g2.block w1.heap.size (by simp)).trans (heap_new w1 _))
  have lb2 : w1.heap.size < w2.heap.size := (Array.getElem?_eq_some_iff.1 HB2.out).1
  obtain ⟨c0, c1'⟩ := two_cells HB2.out
  have G12 := Lib.hid (ext_trans (ext_alloc (Below.refl w1.heap.size w1) _) g2)
  clear hrow hs4 k40 k41 g2
  go_wp2_with fail
  refine (Next_any pa pl 0 ca 4 cl bExL [0, 0, -1] _ (FlatOk.ext HFO.out G12.out) (by decide) bEx_goes).mono ?_; rintro e w3 ⟨⟨v5, rfl, hnx⟩, g3⟩
  rw [bEx_n] at hnx
  obtain ⟨p5, c5, rfl, hs5⟩ := hnx
  obtain ⟨b5, rfl, u0, k50, hr0⟩ := hs5 0 (by decide)
  obtain ⟨b5', hb5, u2, k52, hr2⟩ := hs5 2 (by decide)
  injection hb5 with hb5
  injection hb5 with hb5 _ _
  subst hb5
  rw [bEx_next0] at hr0
  rw [bEx_next2] at hr2
  obtain ⟨q0, d0, rfl, hr0⟩ := hr0
  obtain ⟨q2, d2, rfl, hr2⟩ := hr2
  obtain ⟨b0, rfl, k00⟩ := hr0 0 (by decide)
  obtain ⟨b2, rfl, k20⟩ := hr2 0 (by decide)
  have K50 : Hid (w3.cell? ⟨b5, 0, none⟩ = some (.slice (some ⟨b0, 0, none⟩) 1 d0)) := Lib.hid k50
  have K52 : Hid (w3.cell? ⟨b5, 2, none⟩ = some (.slice (some ⟨b2, 0, none⟩) 1 d2)) := Lib.hid k52
  have K00 : Hid (w3.cell? ⟨b0, 0, none⟩ = some (.int .i64 0)) := Lib.hid k00
  have K20 : Hid (w3.cell? ⟨b2, 0, none⟩ = some (.int .i64 2)) := Lib.hid k20
  have K40 := Lib.hid ((g3.cell (at_lt K40.out)).trans K40.out)
  have K41 := Lib.hid ((g3.cell (at_lt K41.out)).trans K41.out)
  have HB3 := Lib.hid ((g3.block w1.heap.size lb2).trans HB2.out)
  have lb3 : w1.heap.size < w3.heap.size := (Array.getElem?_eq_some_iff.1 HB3.out).1
  have G13 := Lib.hid (ext_trans G12.out g3)
  clear c0 c1'
  obtain ⟨c0, c1'⟩ := two_cells HB3.out
  clear hs5 k50 k52 k00 k20 hr0 hr2 g3
  go_wp2_with fail
  refine (Landings_any pa pl 0 ca 4 cl bExL [0, 0, -1] _ (FlatOk.ext HFO.out G13.out) (by decide)).mono ?_; rintro e w4 ⟨⟨v6, rfl, hrow⟩, g4⟩
  rw [bEx_land] at hrow
  obtain ⟨p6, c6, rfl, hr6⟩ := row_rown hrow
  obtain ⟨b6, rfl, k60⟩ := hr6 0 (by decide)
  have k60 : w4.cell? ⟨b6, 0, none⟩ = some (.int .i64 2) := k60
  have k40 := (g4.cell (at_lt K40.out)).trans K40.out
  have k41 := (g4.cell (at_lt K41.out)).trans K41.out
  have k50 := (g4.cell (at_lt K50.out)).trans K50.out
  have k52 := (g4.cell (at_lt K52.out)).trans K52.out
  have k00 := (g4.cell (at_lt K00.out)).trans K00.out
  have k20 := (g4.cell (at_lt K20.out)).trans K20.out
  have l4 := at_lt k40
  have l5 := at_lt k50
  have l0 := at_lt k00
  have l2 := at_lt k20
  have l6 := at_lt k60
  have heq := eq_23
  have G14 := Lib.hid (ext_trans G1.out (ext_trans G13.out g4))
  clear c0 c1' hrow hr6 g4
  go_wp2_with fail
  go_ret
  exact ⟨rfl, G14.out⟩
theorem row_num2 {w : World} {base : Nat} {e : TypeId} {p : Option Addr} {m n cap : Nat} {L : List Int} (h : w.ownsRow base e 1 (.slice p m cap) n (L.flatMap cellsN)) {i : Nat} {x : Int} (hx : L[i]? = some x) :
    ∃ g, p = some ⟨g, 0, none⟩ ∧ g < w.heap.size ∧ w.cell? ⟨g, i, none⟩ = some (.int .i64 x) := by
  obtain ⟨_, p', cap', he, h3⟩ := row_get lenN (by decide) h
  obtain ⟨hi, hx⟩ := List.getElem?_eq_some_iff.1 hx
  obtain ⟨g, hg, _, hc⟩ := h3 i hi
  injection he with he _ _
  subst he
  have h0 := hc 0 (by decide)
  rw [Nat.mul_one, hx] at h0
  have h1 : w.cell? ⟨g, i, none⟩ = some (.int .i64 x) := h0
  exact ⟨g, hg, at_lt h1, h1⟩
end Go.Proofs.YtnfoplefaibmhaaGreatDoor
