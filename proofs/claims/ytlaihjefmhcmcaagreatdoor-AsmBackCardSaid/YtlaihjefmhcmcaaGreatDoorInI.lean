/- The law's own helpers: numbers, names, instructions. -/
import Derived.Test.YtlaihjefmhcmcaaGreatDoorRows
import Derived.WalkKit
import Derived.ProofKit
import Derived.OpenShut
import Derived.WalkLawsBesides
import Derived.WalkSpells
import Derived.Outline
import Derived.Handy
import Derived.Lib.Hide
import Derived.Lib.OthersKept
import Derived.KernelRfl
import Derived.RegionTactic
import Derived.BigRegion
import Derived.Test.YtlaihjefmhcmcaaGreatDoorInD
namespace Go.Proofs.YtlaihjefmhcmcaaGreatDoor
open Go.ChangeShapes Go.WideShapes Go.ChangeAt Go.RowKit
set_option linter.unusedVariables false
theorem pick_any (c n : Int) (w : World) (h1 : I64 c) (h3 : 0 < n) :
    Calls Tryz.prog 26 #[.int .i64 c, .int .i64 n] w fun e w' => e = .returned (.int .i64 (pickN c n)) ∧ w = w' := by
  obtain ⟨h1, h2⟩ := h1
  have hn : (n == 0) = false := by simpa using (show n ≠ 0 by omega)
  by_cases h : c < 0
  · have e : pickN c n = -((c + 1).tmod n) := by rw [pickN, if_pos h, ← Int.neg_tmod, Int.tmod_eq_emod_of_nonneg (by omega)]
    have E := Lib.hid e; clear e
    go_enter Tryz.func26, Tryz.ntmps26
    go_wp2
    go_ret
    exact ⟨by rw [E.out]; rfl, rfl⟩
  · have e : pickN c n = c % n := by simp [pickN, h]
    have E := Lib.hid e; clear e
    go_enter Tryz.func26, Tryz.ntmps26
    go_wp2
    go_ret
    exact ⟨by rw [E.out]; rfl, rfl⟩
theorem pickN_nat (c : Int) (n : Nat) (h : 0 < n) : ∃ q : Nat, pickN c n = (q : Int) ∧ q < n := by
  have h1 := pickN_lo c n (by omega)
  have h2 := pickN_hi c n (by omega)
  exact ⟨(pickN c n).toNat, by omega, by omega⟩
theorem strs_at {w : World} {b i : Nat} {cs : Array Value} {t : TypeId} {v : Value} {l : List Value} (h : w.heap[b]? = some (.cells cs t (0, 0))) (hv : l[i]? = some v) (hl : cs.toList = l := by rfl) : w.cell? ⟨b, i, none⟩ = some v := by
  rw [cell_row h, ← Array.getElem?_toList, hl]; exact hv
def namA : List (List UInt8) := [[109, 97, 105, 110], [102], [76, 49], [46, 120], [97, 95, 98], [90], [95], [120, 49]]
def namB : List (List UInt8) := [[], [48], [46, 101, 110, 100], [95, 50], [81]]
/-- A raw number's label. -/
def nameL (q : Nat) : List UInt8 := namA.getD (q % 8) [] ++ namB.getD (q / 8) []
theorem name_lab (q : Nat) (h : q < 40) : labelB (nameL q) = true := by
  have : ∀ q : Fin 40, labelB (nameL q.val) = true := by decide +kernel
  exact this ⟨q, h⟩
theorem getD_some {l : List (List UInt8)} {i : Nat} (h : i < l.length) : ∃ t, (l.map fun l => Value.string (mk l))[i]? = some (.string (mk t)) ∧ l.getD i [] = t ∧ t ∈ l := by
  refine ⟨l[i]'h, ?_, ?_, List.getElem_mem h⟩
  · rw [List.getElem?_map, List.getElem?_eq_getElem h]; rfl
  · rw [List.getD_eq_getElem?_getD, List.getElem?_eq_getElem h]; rfl
set_option maxRecDepth 100000 in
set_option maxHeartbeats 4000000 in
theorem name_any (n : Int) (hn : I64 n) (w : World) : Calls Tryz.prog 12 #[.int .i64 n] w fun e w' => e = .returned (.string (mk (nameL (pickN n 40).toNat))) ∧ Below w.heap.size w w' := by
  obtain ⟨k, hk, hk2⟩ := pickN_nat n 40 (by decide)
  have p1 : Hid (∀ w, Calls Tryz.prog 26 #[.int .i64 n, .int .i64 40] w fun e w' => e = .returned (.int .i64 (k : Int)) ∧ w = w') :=
    Lib.hid (fun w => (pick_any n 40 w hn (by decide)).mono fun e w' h => ⟨by rw [← hk]; exact h.1, h.2⟩)
  have HNM : Hid ((pickN n 40).toNat = k) := Lib.hid (by have : pickN n 40 = (k : Int) := hk; omega)
  clear hk hn
  obtain ⟨ta, ha1, ha2, ha3⟩ := getD_some (l := namA) (i := k % 8) (Nat.mod_lt _ (by decide))
  obtain ⟨tb, hb1, hb2, hb3⟩ := getD_some (l := namB) (i := k / 8) (by show k / 8 < 5; omega)
  have z1 : (mk ta).size ≤ 4 := by
    have : ∀ l ∈ namA, (mk l).size ≤ 4 := by decide
    exact this ta ha3
  have z2 : (mk tb).size ≤ 4 := by
    have : ∀ l ∈ namB, (mk l).size ≤ 4 := by decide
    exact this tb hb3
  have hcat : mk ta ++ mk tb = mk (ta ++ tb) := mk_app ta tb
  have HT : Hid (nameL k = ta ++ tb) := Lib.hid (by unfold nameL; rw [ha2, hb2])
  have i1 : k % 8 < 8 := by omega
  have i2 : k / 8 < 5 := by omega
  go_enter Tryz.func12, Tryz.ntmps12
  go_wp2_with fail
  refine (p1.out _).mono ?_; rintro e w1' ⟨rfl, rfl⟩
  go_wp2_with fail
  have a1 := strs_at (w := (w.alloc (.cells #[.string ⟨#[109, 97, 105, 110]⟩, .string ⟨#[102]⟩, .string ⟨#[76, 49]⟩, .string ⟨#[46, 120]⟩, .string ⟨#[97, 95, 98]⟩, .string ⟨#[90]⟩, .string ⟨#[95]⟩, .string ⟨#[120, 49]⟩] 9)).drew) (heap_new w (.cells #[.string ⟨#[109, 97, 105, 110]⟩, .string ⟨#[102]⟩, .string ⟨#[76, 49]⟩, .string ⟨#[46, 120]⟩, .string ⟨#[97, 95, 98]⟩, .string ⟨#[90]⟩, .string ⟨#[95]⟩, .string ⟨#[120, 49]⟩] 9)) ha1
  have a2 := strs_at (w := ((w.alloc (.cells #[.string ⟨#[109, 97, 105, 110]⟩, .string ⟨#[102]⟩, .string ⟨#[76, 49]⟩, .string ⟨#[46, 120]⟩, .string ⟨#[97, 95, 98]⟩, .string ⟨#[90]⟩, .string ⟨#[95]⟩, .string ⟨#[120, 49]⟩] 9)).alloc (.cells #[.string ⟨#[]⟩, .string ⟨#[48]⟩, .string ⟨#[46, 101, 110, 100]⟩, .string ⟨#[95, 50]⟩, .string ⟨#[81]⟩] 9)).drew) ((Lib.alloc_old (w.alloc (.cells #[.string ⟨#[109, 97, 105, 110]⟩, .string ⟨#[102]⟩, .string ⟨#[76, 49]⟩, .string ⟨#[46, 120]⟩, .string ⟨#[97, 95, 98]⟩, .string ⟨#[90]⟩, .string ⟨#[95]⟩, .string ⟨#[120, 49]⟩] 9)) (.cells #[.string ⟨#[]⟩, .string ⟨#[48]⟩, .string ⟨#[46, 101, 110, 100]⟩, .string ⟨#[95, 50]⟩, .string ⟨#[81]⟩] 9) w.heap.size (by simp)).trans (heap_new w (.cells #[.string ⟨#[109, 97, 105, 110]⟩, .string ⟨#[102]⟩, .string ⟨#[76, 49]⟩, .string ⟨#[46, 120]⟩, .string ⟨#[97, 95, 98]⟩, .string ⟨#[90]⟩, .string ⟨#[95]⟩, .string ⟨#[120, 49]⟩] 9))) ha1
  have a3 := strs_at (b := w.heap.size + 1) (w := ((w.alloc (.cells #[.string ⟨#[]⟩, .string ⟨#[48]⟩, .string ⟨#[46, 101, 110, 100]⟩, .string ⟨#[95, 50]⟩, .string ⟨#[81]⟩] 9)).alloc (.cells #[.string ⟨#[109, 97, 105, 110]⟩, .string ⟨#[102]⟩, .string ⟨#[76, 49]⟩, .string ⟨#[46, 120]⟩, .string ⟨#[97, 95, 98]⟩, .string ⟨#[90]⟩, .string ⟨#[95]⟩, .string ⟨#[120, 49]⟩] 9)).drew) (heap_new' (w.alloc (.cells #[.string ⟨#[]⟩, .string ⟨#[48]⟩, .string ⟨#[46, 101, 110, 100]⟩, .string ⟨#[95, 50]⟩, .string ⟨#[81]⟩] 9)) (.cells #[.string ⟨#[109, 97, 105, 110]⟩, .string ⟨#[102]⟩, .string ⟨#[76, 49]⟩, .string ⟨#[46, 120]⟩, .string ⟨#[97, 95, 98]⟩, .string ⟨#[90]⟩, .string ⟨#[95]⟩, .string ⟨#[120, 49]⟩] 9) (w.heap.size + 1) (by simp)) ha1
  have b1 := strs_at (w := (w.alloc (.cells #[.string ⟨#[]⟩, .string ⟨#[48]⟩, .string ⟨#[46, 101, 110, 100]⟩, .string ⟨#[95, 50]⟩, .string ⟨#[81]⟩] 9)).drew) (heap_new w (.cells #[.string ⟨#[]⟩, .string ⟨#[48]⟩, .string ⟨#[46, 101, 110, 100]⟩, .string ⟨#[95, 50]⟩, .string ⟨#[81]⟩] 9)) hb1
  have b2 := strs_at (w := ((w.alloc (.cells #[.string ⟨#[]⟩, .string ⟨#[48]⟩, .string ⟨#[46, 101, 110, 100]⟩, .string ⟨#[95, 50]⟩, .string ⟨#[81]⟩] 9)).alloc (.cells #[.string ⟨#[109, 97, 105, 110]⟩, .string ⟨#[102]⟩, .string ⟨#[76, 49]⟩, .string ⟨#[46, 120]⟩, .string ⟨#[97, 95, 98]⟩, .string ⟨#[90]⟩, .string ⟨#[95]⟩, .string ⟨#[120, 49]⟩] 9)).drew) ((Lib.alloc_old (w.alloc (.cells #[.string ⟨#[]⟩, .string ⟨#[48]⟩, .string ⟨#[46, 101, 110, 100]⟩, .string ⟨#[95, 50]⟩, .string ⟨#[81]⟩] 9)) (.cells #[.string ⟨#[109, 97, 105, 110]⟩, .string ⟨#[102]⟩, .string ⟨#[76, 49]⟩, .string ⟨#[46, 120]⟩, .string ⟨#[97, 95, 98]⟩, .string ⟨#[90]⟩, .string ⟨#[95]⟩, .string ⟨#[120, 49]⟩] 9) w.heap.size (by simp)).trans (heap_new w (.cells #[.string ⟨#[]⟩, .string ⟨#[48]⟩, .string ⟨#[46, 101, 110, 100]⟩, .string ⟨#[95, 50]⟩, .string ⟨#[81]⟩] 9))) hb1
  have b3 := strs_at (b := w.heap.size + 1) (w := ((w.alloc (.cells #[.string ⟨#[109, 97, 105, 110]⟩, .string ⟨#[102]⟩, .string ⟨#[76, 49]⟩, .string ⟨#[46, 120]⟩, .string ⟨#[97, 95, 98]⟩, .string ⟨#[90]⟩, .string ⟨#[95]⟩, .string ⟨#[120, 49]⟩] 9)).alloc (.cells #[.string ⟨#[]⟩, .string ⟨#[48]⟩, .string ⟨#[46, 101, 110, 100]⟩, .string ⟨#[95, 50]⟩, .string ⟨#[81]⟩] 9)).drew) (heap_new' (w.alloc (.cells #[.string ⟨#[109, 97, 105, 110]⟩, .string ⟨#[102]⟩, .string ⟨#[76, 49]⟩, .string ⟨#[46, 120]⟩, .string ⟨#[97, 95, 98]⟩, .string ⟨#[90]⟩, .string ⟨#[95]⟩, .string ⟨#[120, 49]⟩] 9)) (.cells #[.string ⟨#[]⟩, .string ⟨#[48]⟩, .string ⟨#[46, 101, 110, 100]⟩, .string ⟨#[95, 50]⟩, .string ⟨#[81]⟩] 9) (w.heap.size + 1) (by simp)) hb1
  clear ha1 ha2 ha3 hb1 hb2 hb3
  go_region
  all_goals
    go_wp2_with fail
    go_ret
    exact ⟨by rw [HNM.out, HT.out]; rfl, ext_drew (ext_alloc (ext_alloc (Below.refl _ _) _) _)⟩
end Go.Proofs.YtlaihjefmhcmcaaGreatDoor
