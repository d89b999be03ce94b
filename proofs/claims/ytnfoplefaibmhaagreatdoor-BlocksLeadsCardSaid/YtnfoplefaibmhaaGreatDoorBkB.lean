/- blocks.turns, landings, leads, beginnings. -/
import Derived.Test.YtnfoplefaibmhaaGreatDoorRows
import Derived.WalkKit
import Derived.ProofKit
import Derived.OpenShut
import Derived.WalkLawsBesides
import Derived.WalkSpells
import Derived.Outline
import Derived.Handy
import Derived.Lib.Hide
import Derived.Lib.OthersKept
import Derived.KernelRfl
import Derived.Carry
import Derived.OwnWalk
import Derived.RegionTactic
import Derived.BigRegion
import Derived.BigQuiet
import Derived.Deep.QuietTactic
import Derived.Test.YtnfoplefaibmhaaGreatDoorBkA
namespace Go.Proofs.YtnfoplefaibmhaaGreatDoor
open Go.ChangeShapes Go.WideShapes Go.ChangeAt Go.RowKit
set_option linter.unusedVariables false
theorem turns_any (op : Int) (w : World) : Calls Tryz.prog 28 #[.int .i64 op] w fun e w' => e = .returned (.bool (turnsB op)) ∧ w' = w := by
  have HB := Lib.hid (fun w => branches_any op w)
  by_cases h1 : branB op = true
  · have e : turnsB op = true := by have := (branB_iff op).1 h1; exact (turnsB_iff op).2 (by omega)
    rw [e]
    rw [h1] at HB
    clear e h1
    go_enter Tryz.func28, Tryz.ntmps28
    go_wp2_with fail
    refine (HB.out _).mono ?_; rintro e w' ⟨rfl, rfl⟩
    go_wp2_with fail
    go_ret
    exact ⟨rfl, rfl⟩
  have h1 : branB op = false := by cases h : branB op; rfl; exact absurd h h1
  rw [h1] at HB
  by_cases h25 : op = 25
  · subst h25
    clear h1
    go_enter Tryz.func28, Tryz.ntmps28
    go_wp2_with fail
    refine (HB.out _).mono ?_; rintro e w' ⟨rfl, rfl⟩
    go_wp2_with fail
    go_ret
    exact ⟨rfl, rfl⟩
  by_cases h26 : op = 26
  · subst h26
    clear h1
    go_enter Tryz.func28, Tryz.ntmps28
    go_wp2_with fail
    refine (HB.out _).mono ?_; rintro e w' ⟨rfl, rfl⟩
    go_wp2_with fail
    go_ret
    exact ⟨rfl, rfl⟩
  have b1 : (op == 25) = false := beq_eq_false_iff_ne.2 h25
  have b2 : (op == 26) = false := beq_eq_false_iff_ne.2 h26
  have e : turnsB op = (op == 27) := by
    have n1 : ¬ (21 ≤ op ∧ op ≤ 24) := fun h => by rw [(branB_iff op).2 h] at h1; cases h1
    unfold turnsB
    by_cases h4 : op = 27
    · subst h4; rfl
    · rw [beq_eq_false_iff_ne.2 h4, decide_eq_false_iff_not]; omega
  rw [e]
  clear h1 h25 h26 e
  go_enter Tryz.func28, Tryz.ntmps28
  go_wp2_with fail
  refine (HB.out _).mono ?_; rintro e w' ⟨rfl, rfl⟩
  go_wp2_with fail
  go_ret
  exact ⟨rfl, rfl⟩
set_option maxRecDepth 100000 in
theorem landings_any (v : Value) (L : List In) (w : World) (h : InsAt w v L) (hL : L.length ≤ 40000) : Calls Tryz.prog 20 #[v] w fun e w' => (∃ v', e = .returned v' ∧ w'.ownsRow w.heap.size 3 1 v' (landL L).length ((landL L).flatMap cellsN)) ∧ Below w.heap.size w w' := by
  obtain ⟨hn, p, cap, rfl, hc⟩ := h
  have HC := Lib.hid hc
  clear hc
  go_enter Tryz.func20, Tryz.ntmps20
  go_wp2_with fail
  go_loopw [3, 8] (fun t iv wr => ∃ j : Nat, iv = .int .i64 j ∧ j ≤ L.length ∧ Below w.heap.size w wr ∧ wr.ownsRow w.heap.size 3 1 t (landL (L.take j)).length ((landL (L.take j)).flatMap cellsN)) (fun _ iv wr => L.length - slotN iv)
  case atStart => exact ⟨0, rfl, Nat.zero_le _, Below.refl _ _, World.ownsRow_nil _ _ _ _⟩
  case round =>
    obtain ⟨j, rfl, hj, hbl, hrow⟩ := hrel
    obtain ⟨hq, p2, cap2, hv, HRG⟩ := row_get lenN (by decide) hrow
    have HB := Lib.hid hbl
    have HR := Lib.hid hrow
    by_cases h : j < L.length
    · obtain ⟨a, rfl, k⟩ := HC.out j h
      obtain ⟨k0, k1, k2, k3, k4, k5⟩ := k.ext hbl
      have HST : Hid (landL (L.take (j + 1)) = if (L[j]'h).op = 26 then landL (L.take j) ++ [(j : Int) + 1] else landL (L.take j)) := Lib.hid (by rw [List.take_succ_eq_append_getElem h, landL_snoc, List.length_take, Nat.min_eq_left hj])
      have hll : (landL (L.take j)).length ≤ 40000 := by have := landL_len (L.take j); rw [List.length_take] at this; omega
      clear k hbl hrow hq HRG
      generalize landL (L.take j) = P at *
      generalize L[j]'h = x at *
      obtain ⟨op, d, aa, b, nn, name⟩ := x
      simp only at k0 k1 k2 k3 k4 k5 HST
      subst hv
      by_cases h0 : op = 26
      · have HS2 : Hid (landL (L.take (j + 1)) = P ++ [(j : Int) + 1]) := Lib.hid (by rw [HST.out, if_pos h0])
        subst h0
        clear HST
        go_wp2_with (at_builtin; refine app_cells Tryz.underlying29 infoN rfl (by decide) (by decide) rfl _ _ rfl w.heap.size _ P.length (P.flatMap cellsN) rfl (own_ext HR.out (ext_alloc (ext_alloc (Below.refl _ _) _) _)) (wr.heap.size + 1) 1 (cellsN ((j : Int) + 1)) rfl rfl (heap_new' _ _ _ (by simp)) (oneN _) (by omega) (by simp; have := HB.out.size; omega) ?_; intro v' w2 hown2 hg2)
        go_roundw
        case rel => exact ⟨j + 1, by go_num, by omega, below_grown (ext_alloc (ext_alloc HB.out _) _) hg2 (by simp; have := HB.out.size; omega) (fun k hk => (HR.out.lt k hk).1), by rw [HS2.out, List.length_append, List.flatMap_append]; exact hown2⟩
        case measure => simp [slotN]; omega
      · have HS2 : Hid (landL (L.take (j + 1)) = P) := Lib.hid (by rw [HST.out, if_neg h0])
        have hb : (op == 26) = false := beq_eq_false_iff_ne.2 h0
        clear HST
        go_wp2_with fail
        go_roundw
        case rel => exact ⟨j + 1, by go_num, by omega, ext_alloc HB.out _, by rw [HS2.out]; exact own_ext HR.out (ext_alloc (Below.refl _ _) _)⟩
        case measure => simp [slotN]; omega
    · obtain rfl : j = L.length := by omega
      rw [List.take_length] at hrow hv
      subst hv
      have HW := Lib.hid hrow
      clear hrow
      go_wp2_with fail
      go_ret
      exact ⟨⟨_, rfl, HW.out⟩, HB.out⟩
set_option maxRecDepth 100000 in
theorem leads_any (v1 v2 : Value) (L : List In) (T : List Int) (last : Nat) (x : In) (t : Int) (w : World) (h1 : InsAt w v1 L) (h2 : NumsAt w v2 T) (hL : L.length ≤ 40000) (hx : L[last]? = some x) (ht : T[last]? = some t) :
    Calls Tryz.prog 17 #[v1, v2, .int .i64 last] w fun e w' => (∃ v', e = .returned v' ∧ NumsAt w' v' (leadsX L x t last)) ∧ Below w.heap.size w w' := by
  have HL := Lib.hid (fun w' (g : Below w.heap.size w w') => landings_any v1 L w' (h1.ext g) hL)
  have HB := Lib.hid (fun w => branches_any x.op w)
  obtain ⟨hn, p, cap, rfl, hc⟩ := h1
  obtain ⟨hn2, p2, cap2, rfl, hc2⟩ := h2
  obtain ⟨hxl, hx⟩ := List.getElem?_eq_some_iff.1 hx
  obtain ⟨htl, ht⟩ := List.getElem?_eq_some_iff.1 ht
  obtain ⟨a, rfl, k⟩ := hc last hxl
  obtain ⟨a2, rfl, r0⟩ := hc2 last htl
  rw [hx] at k
  rw [ht] at r0
  obtain ⟨k0, k1, k2, k3, k4, k5⟩ := k
  clear hc hc2 hx ht
  have hz : (0 : Int) ≤ (last : Int) := by omega
  obtain ⟨op, d, aa, b, nn, name⟩ := x
  simp only at k0 k1 k2 k3 k4 k5 HB
  unfold leadsX
  simp only
  by_cases hb : branB op = true
  · rw [if_pos hb]
    rw [hb] at HB
    clear hb
    go_enter Tryz.func17, Tryz.ntmps17
    go_wp2_with fail
    refine (HB.out _).mono ?_; rintro e w' ⟨rfl, rfl⟩
    go_wp2_with fail
    go_ret
    refine ⟨⟨_, rfl, by simp, _, _, rfl, fun i hi => ⟨_, rfl, ?_⟩⟩, ext_alloc (Below.refl _ _) _⟩
    rw [addr_add, cell_row (heap_new _ _)]
    match i, hi with
    | 0, _ => simp
    | 1, _ => simp
    | i + 2, hi => exact absurd (show i + 2 < 2 from hi) (by omega)
  have hb' : branB op = false := by cases h : branB op; rfl; exact absurd h hb
  rw [if_neg hb]
  rw [hb'] at HB
  clear hb hb'
  by_cases h5 : op = 25 ∨ op = 26
  · rw [if_pos h5]
    rcases h5 with rfl | rfl
    all_goals
      go_enter Tryz.func17, Tryz.ntmps17
      go_wp2_with fail
      refine (HB.out _).mono ?_; rintro e w' ⟨rfl, rfl⟩
      go_wp2_with fail
      go_ret
      refine ⟨⟨_, rfl, by simp, _, _, rfl, fun i hi => ⟨_, rfl, ?_⟩⟩, ext_alloc (Below.refl _ _) _⟩
      rw [addr_add, cell_row (heap_new _ _)]
      match i, hi with
      | 0, _ => simp
      | i + 1, hi => exact absurd (show i + 1 < 1 from hi) (by omega)
  rw [if_neg h5]
  have b1 : (op == 25) = false := beq_eq_false_iff_ne.2 (fun h => h5 (.inl h))
  have b2 : (op == 26) = false := beq_eq_false_iff_ne.2 (fun h => h5 (.inr h))
  clear h5
  by_cases h7 : op = 27
  · rw [if_pos h7]
    subst h7
    clear b1 b2
    go_enter Tryz.func17, Tryz.ntmps17
    go_wp2_with fail
    refine (HB.out _).mono ?_; rintro e w' ⟨rfl, rfl⟩
    go_wp2_with fail
    refine (HL.out _ (Below.refl _ _)).mono ?_; rintro e w' ⟨⟨v', rfl, hrow⟩, g⟩
    have HR := Lib.hid (row_nums hrow (by have := landL_len L; omega))
    have G := Lib.hid g
    clear hrow g
    go_wp2_with fail
    go_ret
    exact ⟨⟨_, rfl, HR.out⟩, G.out⟩
  rw [if_neg h7]
  have b3 : (op == 27) = false := beq_eq_false_iff_ne.2 h7
  clear h7
  go_enter Tryz.func17, Tryz.ntmps17
  go_wp2_with fail
  refine (HB.out _).mono ?_; rintro e w' ⟨rfl, rfl⟩
  go_wp2_with fail
  go_ret
  refine ⟨⟨_, rfl, by simp, _, _, rfl, fun i hi => ⟨_, rfl, ?_⟩⟩, ext_alloc (Below.refl _ _) _⟩
  rw [addr_add, cell_row (heap_new _ _)]
  match i, hi with
  | 0, _ => simp
  | i + 1, hi => exact absurd (show i + 1 < 1 from hi) (by omega)
end Go.Proofs.YtnfoplefaibmhaaGreatDoor
