/- blocks.Landings, Split. -/
import Derived.Test.YtnfoplefaibmhaaGreatDoorRows
import Derived.WalkKit
import Derived.ProofKit
import Derived.OpenShut
import Derived.WalkLawsBesides
import Derived.WalkSpells
import Derived.Outline
import Derived.Handy
import Derived.Lib.Hide
import Derived.Lib.OthersKept
import Derived.KernelRfl
import Derived.Carry
import Derived.OwnWalk
import Derived.RegionTactic
import Derived.BigRegion
import Derived.BigQuiet
import Derived.Deep.QuietTactic
import Derived.Test.YtnfoplefaibmhaaGreatDoorBkC
import Derived.Test.YtnfoplefaibmhaaGreatDoorBkQ
import Derived.Test.YtnfoplefaibmhaaGreatDoorAsAw
namespace Go.Proofs.YtnfoplefaibmhaaGreatDoor
open Go.ChangeShapes Go.WideShapes Go.ChangeAt Go.RowKit
set_option linter.unusedVariables false
def cellsP (p : Nat × Nat) : List Value := [.int .i64 p.1, .int .i64 p.2]
theorem lenP (p : Nat × Nat) : (cellsP p).length = 2 := rfl
theorem oneP (p : Nat × Nat) : ∀ u ∈ cellsP p, u.oneCell' = true := by
  intro u hu
  simp [cellsP] at hu
  rcases hu with rfl | rfl <;> rfl
theorem infoP : (Tryz.prog.info? 34).map (fun i => (i.zero, i.size, i.bytes)) = some (some (.agg #[.int .i64 0, .int .i64 0]), 2, 16) := by kernel_rfl
/-- A row of numbers that lies at its block's beginning. -/
def RowN (w : World) (u : Value) (l : List Int) : Prop :=
  ∃ p cap, u = .slice p l.length cap ∧ ∀ k (h : k < l.length), ∃ g, p = some ⟨g, 0, none⟩ ∧ w.cell? ⟨g, k, none⟩ = some (.int .i64 (l[k]'h))
theorem RowN.ext {w w' : World} {u : Value} {l : List Int} (h : RowN w u l) (g : Below w.heap.size w w') : RowN w' u l := by
  obtain ⟨p, cap, e, k⟩ := h
  refine ⟨p, cap, e, fun i hi => ?_⟩
  obtain ⟨a, ea, k0⟩ := k i hi
  exact ⟨a, ea, (g.cell (at_lt k0)).trans k0⟩
theorem row_rown {w : World} {base : Nat} {e : TypeId} {v : Value} {n : Nat} {l : List Int} (h : w.ownsRow base e 1 v n (l.flatMap cellsN)) : RowN w v l := by
  obtain ⟨_, p, cap, rfl, h3⟩ := row_get lenN (by decide) h
  refine ⟨p, cap, rfl, fun i hi => ?_⟩
  obtain ⟨g, rfl, _, hg⟩ := h3 i hi
  have := hg 0 (by decide)
  rw [Nat.mul_one] at this
  exact ⟨g, rfl, this⟩
/-- asm.Flat of value v is L and T, now and later on. -/
def FlatOk (v : Value) (w : World) (L : List In) (T : List Int) : Prop :=
  ∀ w', Below w.heap.size w w' → Calls Tryz.prog 8 #[v] w' fun e w'' => (∃ p1 c1 p2 c2, e = .returned (.tuple #[.slice p1 L.length c1, .slice p2 L.length c2]) ∧ InsAt w'' (.slice p1 L.length c1) L ∧ NumsAt w'' (.slice p2 L.length c2) T) ∧ Below w'.heap.size w' w''
theorem FlatOk.ext {v : Value} {w w' : World} {L : List In} {T : List Int} (h : FlatOk v w L T) (g : Below w.heap.size w w') : FlatOk v w' L T := fun w2 g2 => h w2 (ext_trans g g2)
theorem flat_ok {v : Value} {c : Cd} {w : World} (h : CdAt w v c) (hf : CdFit c) (hb : (faultL c).1 = 0) (hL : (flatI c.lines).length ≤ 1000000) : FlatOk v w (flatI c.lines) ((flatI c.lines).map (toL c)) := by
  intro w' g
  refine (flat_yes v c w' (h.ext g) hf hb).mono ?_
  rintro e w2 ⟨hres, g2⟩
  obtain ⟨p1, c1, p2, c2, rfl, h1, h2⟩ := hres.shape
  exact ⟨⟨p1, c1, p2, c2, rfl, row_ins h1 (by omega), row_nums h2 (by rw [List.length_map]; omega)⟩, g2⟩
set_option maxRecDepth 100000 in
theorem Landings_any (pa pl : Option Addr) (na ca nl cl : Nat) (L : List In) (T : List Int) (w : World) (hF : FlatOk (.agg #[.slice pa na ca, .slice pl nl cl]) w L T) (hL : L.length ≤ 40000) :
    Calls Tryz.prog 11 #[.agg #[.slice pa na ca, .slice pl nl cl]] w fun e w' => (∃ v', e = .returned v' ∧ w'.ownsRow w.heap.size 3 1 v' (landL L).length ((landL L).flatMap cellsN)) ∧ Below w.heap.size w w' := by
  have HF := Lib.hid hF
  clear hF
  go_enter Tryz.func11, Tryz.ntmps11
  go_wp2_with fail
  refine (HF.out _ (ext_alloc (Below.refl _ _) _)).mono ?_; rintro e w1 ⟨⟨p1, c1, p2, c2, rfl, h1, h2⟩, g1⟩
  have H1 := Lib.hid h1
  have G1 := Lib.hid (ext_trans (ext_alloc (Below.refl _ _) _) g1)
  clear h1 h2 g1
  go_wp2_with fail
  refine (landings_any _ L w1 H1.out hL).mono ?_; rintro e w2 ⟨⟨v', rfl, hrow⟩, g2⟩
  have HR := Lib.hid (own_base hrow G1.out.size)
  have G2 := Lib.hid (ext_trans G1.out g2)
  clear hrow g2
  go_wp2_with fail
  go_ret
  exact ⟨⟨_, rfl, HR.out⟩, G2.out⟩
set_option maxHeartbeats 1000000 in
set_option maxRecDepth 100000 in
theorem Split_any (pa pl : Option Addr) (na ca nl cl : Nat) (L : List In) (T : List Int) (w : World) (hF : FlatOk (.agg #[.slice pa na ca, .slice pl nl cl]) w L T) (hL : L.length ≤ 40000) (hg : Goes L T) :
    Calls Tryz.prog 9 #[.agg #[.slice pa na ca, .slice pl nl cl]] w fun e w' => (∃ v', e = .returned v' ∧ w'.ownsRow w.heap.size 34 2 v' (nB L T) ((splitE L T (nB L T)).flatMap cellsP)) ∧ Below w.heap.size w w' := by
  have HF := Lib.hid hF
  have HG := Lib.hid hg
  have hnb := nB_le L T
  clear hF hg
  go_enter Tryz.func9, Tryz.ntmps9
  go_wp2_with fail
  refine (HF.out _ (ext_alloc (Below.refl _ _) _)).mono ?_; rintro e w1 ⟨⟨p1, c1, p2, c2, rfl, h1, h2⟩, g1⟩
  have H1 := Lib.hid h1
  have H2 := Lib.hid h2
  have G1 := Lib.hid (ext_trans (ext_alloc (Below.refl _ _) _) g1)
  clear h1 h2 g1
  go_wp2_with fail
  refine (begs_any _ _ L T w1 H1.out H2.out HG.out.len hL HG.out.to).mono ?_; rintro e w2 ⟨⟨v3, rfl, hrow⟩, g2⟩
  have hbl : (begI L T).length = nB L T := begI_len L T
  have G2 := Lib.hid (ext_trans G1.out g2)
  obtain ⟨p3, c3, hv3, hc3⟩ := row_rown hrow
  rw [hbl] at hv3
  subst hv3
  have HC3 : Hid (∀ i, i < nB L T → ∃ g, p3 = some ⟨g, 0, none⟩ ∧ w2.cell? ⟨g, i, none⟩ = some (.int .i64 (eN L T i))) := Lib.hid (fun i hi => by
    obtain ⟨a, e, k⟩ := hc3 i (by rw [hbl]; exact hi)
    rw [eN_beg] at k
    exact ⟨a, e, k⟩)
  clear hrow g2 hc3 hbl
  generalize hnn : nB L T = m at *
  have HM := Lib.hid hnn
  clear hnn
  go_wp2_with fail
  go_loopw [6, 20] (fun ov iv wr => ∃ j : Nat, iv = .int .i64 j ∧ j ≤ m ∧ Below w2.heap.size w2 wr ∧ wr.ownsRow w2.heap.size 34 2 ov j ((splitE L T j).flatMap cellsP)) (fun _ iv wr => m - slotN iv)
  case atStart => exact ⟨0, rfl, Nat.zero_le _, Below.refl _ _, World.ownsRow_nil _ _ _ _⟩
  case round =>
    obtain ⟨j, rfl, hj, hb, hrow⟩ := hrel
    have HB := Lib.hid hb
    have HR := Lib.hid hrow
    obtain ⟨hq, pq, cq, hv, _⟩ := row_get lenP (by decide) hrow
    rw [splitE_len] at hq hv
    subst hv
    by_cases h : j < m
    · obtain ⟨a, rfl, k0⟩ := HC3.out j h
      have r0 := (hb.cell (at_lt k0)).trans k0
      have l0 := at_lt r0
      have e64 : eN L T j ≤ 40000 := by have := HM.out; have := eN_le (L := L) (T := T) (show j ≤ nB L T by omega); omega
      have f64 : eN L T (j + 1) ≤ 40000 := by have := HM.out; have := eN_le (L := L) (T := T) (show j + 1 ≤ nB L T by omega); omega
      have HS : Hid ((splitE L T (j + 1)).flatMap cellsP = (splitE L T j).flatMap cellsP ++ [.int .i64 (eN L T j), .int .i64 (eN L T (j + 1))]) := Lib.hid (by rw [splitE_succ, List.flatMap_append]; rfl)
      by_cases h2 : j + 1 < m
      · obtain ⟨a', e', k1⟩ := HC3.out (j + 1) h2
        injection e' with e'
        injection e' with e' _ _
        subst e'
        have r1 := (hb.cell (at_lt k1)).trans k1
        have hlt : decide ((j : Int) + 1 < (m : Int)) = true := decide_eq_true (by omega)
        clear hrow hb k0 k1 hq
        generalize eN L T j = x at *
        generalize eN L T (j + 1) = y at *
        go_wp2_with (at_builtin; refine app_cells Tryz.underlying32 infoP rfl (by decide) (by decide) rfl _ _ rfl w2.heap.size _ j ((splitE L T j).flatMap cellsP) rfl (own_ext HR.out (ext_alloc (Below.refl _ _) _)) wr.heap.size 1 [.int .i64 x, .int .i64 y] rfl rfl (heap_new' _ _ _ (by simp)) (oneP (x, y)) (by omega) (by simp; have := HB.out.size; omega) ?_; intro v' w4 hown4 hg4)
        go_roundw
        case rel => exact ⟨j + 1, by go_num, by omega, below_grown (ext_alloc HB.out _) hg4 (by simp; have := HB.out.size; omega) (fun k hk => (HR.out.lt k hk).1), by rw [HS.out]; exact hown4⟩
        case measure => simp [slotN]; omega
      · have hlt : decide ((j : Int) + 1 < (m : Int)) = false := decide_eq_false (by omega)
        have HLN : Hid (eN L T (j + 1) = L.length) := Lib.hid (by rw [show j + 1 = nB L T from by have := HM.out; omega, eN_last])
        rw [HLN.out] at HS
        clear hrow hb k0 hq
        generalize eN L T j = x at *
        go_wp2_with (at_builtin; refine app_cells Tryz.underlying32 infoP rfl (by decide) (by decide) rfl _ _ rfl w2.heap.size _ j ((splitE L T j).flatMap cellsP) rfl (own_ext HR.out (ext_alloc (Below.refl _ _) _)) wr.heap.size 1 [.int .i64 x, .int .i64 L.length] rfl rfl (heap_new' _ _ _ (by simp)) (oneP (x, L.length)) (by omega) (by simp; have := HB.out.size; omega) ?_; intro v' w4 hown4 hg4)
        go_roundw
        case rel => exact ⟨j + 1, by go_num, by omega, below_grown (ext_alloc HB.out _) hg4 (by simp; have := HB.out.size; omega) (fun k hk => (HR.out.lt k hk).1), by rw [HS.out]; exact hown4⟩
        case measure => simp [slotN]; omega
    · obtain rfl : j = m := by omega
      clear hrow hb hq
      go_wp2_with fail
      go_ret
      exact ⟨⟨_, rfl, by rw [HM.out]; exact own_base HR.out G2.out.size⟩, ext_trans G2.out HB.out⟩
end Go.Proofs.YtnfoplefaibmhaaGreatDoor
