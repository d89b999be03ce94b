/- The law's own blanks, and its count of line feeds: the walks. -/
import Derived.Test.YtohffidbibichaaDoorRows
import Derived.WalkKit
import Derived.ProofKit
import Derived.OpenShut
import Derived.WalkLawsBesides
import Derived.WalkSpells
import Derived.Outline
import Derived.Handy
import Derived.Lib.Hide
import Derived.Lib.OthersKept
import Derived.KernelRfl
import Derived.RegionTactic
import Derived.BigRegion
import Derived.Deep.RegionHeld3
import Derived.Test.YtohffidbibichaaDoorScX
namespace Go.Proofs.YtohffidbibichaaDoor
open Go.ChangeShapes Go.WideShapes Go.ChangeAt Go.RowKit
set_option linter.unusedVariables false
theorem feeds_any (l : List UInt8) (w : World) (hl : l.length ≤ 100000) :
    Calls Tryd.prog 21 #[.string (mk l)] w fun e w' => e = .returned (.int .i64 (l.count 10 : Nat)) ∧ w = w' := by
  have hsz : (mk l).size = l.length := rfl
  go_enter Tryd.func21, Tryd.ntmps21
  go_wp2_with fail
  go_loopw [3, 4] (fun n i wr => ∃ j : Nat, i = .int .i64 j ∧ j ≤ l.length ∧ n = .int .i64 ((l.take j).count 10 : Nat) ∧ w = wr) (fun n i wr => l.length - (match i with | .int _ x => x.toNat | _ => 0))
  case atStart => exact ⟨0, rfl, Nat.zero_le _, rfl, rfl⟩
  case round =>
    obtain ⟨j, rfl, hj, rfl, rfl⟩ := hrel
    by_cases hlt : j < l.length
    · have htk : l.take (j + 1) = l.take j ++ [l[j]'hlt] := by rw [List.take_add_one, List.getElem?_eq_getElem hlt]; rfl
      have hlt' : j < (mk l).size := hlt
      have hg : (mk l)[j]'hlt' = l[j]'hlt := rfl
      have hcn : (l.take j).count 10 ≤ j := Nat.le_trans List.count_le_length (by rw [List.length_take]; omega)
      generalize hc : l[j]'hlt = c at *
      by_cases h10 : c = 10
      · subst h10
        have hn : (l.take (j + 1)).count 10 = (l.take j).count 10 + 1 := by rw [htk, List.count_append]; rfl
        have HN := Lib.hid hn
        generalize (l.take j).count 10 = m at *
        clear htk hn
        have hv : ((mk l)[j]'hlt').toNat = 10 := by rw [hg]; rfl
        clear hg
        go_wp2_with fail
        go_roundw
        case rel => exact ⟨j + 1, rfl, by omega, by rw [HN.out]; rfl, trivial⟩
        case measure => simp; omega
      · have hn : (l.take (j + 1)).count 10 = (l.take j).count 10 := by
          rw [htk, List.count_append, List.count_singleton]
          have : (c == 10) = false := beq_eq_false_iff_ne.2 h10
          rw [this]; rfl
        have HN := Lib.hid hn
        generalize (l.take j).count 10 = m at *
        clear htk hn
        have hv : ((((mk l)[j]'hlt').toNat : Int) == 10) = false := by
          rw [hg, beq_eq_false_iff_ne]
          intro e
          apply h10
          apply UInt8.toNat_inj.1
          show c.toNat = 10
          omega
        clear hg
        go_wp2_with fail
        go_roundw
        case rel => exact ⟨j + 1, rfl, by omega, by rw [HN.out], trivial⟩
        case measure => simp; omega
    · obtain rfl : j = l.length := by omega
      have HT : Hid (l.take l.length = l) := Lib.hid (List.take_length)
      generalize hm : (l.take l.length).count 10 = m at *
      have HM : Hid (l.count 10 = m) := Lib.hid (by rw [← hm, HT.out])
      clear hm
      go_wp2_with fail
      go_ret
      exact ⟨by rw [HM.out]; rfl, rfl⟩
theorem blank_at : ∀ (k : Nat) (h : k < 8), ∃ t, ([Value.string ⟨#[32]⟩, Value.string ⟨#[32, 32]⟩, Value.string ⟨#[10]⟩, Value.string ⟨#[32, 9, 13, 32]⟩, Value.string ⟨#[10, 10]⟩, Value.string ⟨#[32, 47, 47, 32, 120, 32, 61, 32, 49, 59, 10]⟩, Value.string ⟨#[32, 47, 47, 10]⟩, Value.string ⟨#[32, 47, 47, 195, 169, 32, 39, 97, 10, 32]⟩] : List Value)[k]? = some (.string (mk t)) ∧ t ∈ blankTs := by
  intro k h
  have hl : k < blankTs.length := h
  refine ⟨blankTs[k]'hl, ?_, List.getElem_mem _⟩
  show (blankTs.map fun l => Value.string (mk l))[k]? = _
  rw [List.getElem?_map, List.getElem?_eq_getElem hl]; rfl
theorem blank_law (v : Value) (L : List Int) (i : Nat) (w : World) (hp : IntsAt w v L) (hi : i ≤ 100) :
    Calls Tryd.prog 20 #[v, .int .i64 i] w fun e w' => (∃ b, e = .returned (.string (mk b)) ∧ BlankT b) ∧ Below w.heap.size w w' := by
  obtain ⟨hin, hlen, p, cap, rfl, hc⟩ := hp
  by_cases h : i < L.length
  · obtain ⟨a, rfl, c0⟩ := hc i h
    have hb := hin _ (List.getElem_mem h)
    clear hin hc
    generalize L[i]'h = x at *
    obtain ⟨q, hq, hq2⟩ := pickN_nat x 8 (by decide)
    have p2 : Hid (∀ w, Calls Tryd.prog 22 #[.int .i64 x, .int .i64 8] w fun e w' => e = .returned (.int .i64 (q : Int)) ∧ w = w') :=
      Lib.hid (fun w => (pick_any x 8 w hb.1 hb.2 (by decide)).mono fun e w' h => ⟨by rw [← hq]; exact h.1, h.2⟩)
    clear hq hb
    go_enter Tryd.func20, Tryd.ntmps20
    obtain ⟨t, ht1, ht2⟩ := blank_at q hq2
    have HB := Lib.hid (blank_tok ht2)
    have c0' : (w.alloc (.cells #[.string ⟨#[32]⟩, .string ⟨#[32, 32]⟩, .string ⟨#[10]⟩, .string ⟨#[32, 9, 13, 32]⟩, .string ⟨#[10, 10]⟩, .string ⟨#[32, 47, 47, 32, 120, 32, 61, 32, 49, 59, 10]⟩, .string ⟨#[32, 47, 47, 10]⟩, .string ⟨#[32, 47, 47, 195, 169, 32, 39, 97, 10, 32]⟩] 9)).cell? (a.add i) = some (.int .i64 x) := ((ext_alloc (Below.refl w.heap.size w) _).cell (cell_lt c0)).trans c0
    clear ht2 c0
    go_wp2_with (go_at_call 22; refine (p2.out _).mono ?_; rintro e w1 ⟨rfl, rfl⟩)
    go_ret
    exact ⟨⟨t, by rw [← (List.getElem?_eq_some_iff.1 ht1).2]; rfl, HB.out⟩, ext_alloc (Below.refl _ _) _⟩
  · clear hc hin
    go_enter Tryd.func20, Tryd.ntmps20
    go_wp2_with fail
    go_ret
    exact ⟨⟨[32], rfl, blank_1⟩, Below.refl _ _⟩
end Go.Proofs.YtohffidbibichaaDoor
