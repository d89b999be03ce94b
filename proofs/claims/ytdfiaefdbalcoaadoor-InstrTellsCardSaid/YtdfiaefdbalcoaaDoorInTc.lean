/- The document's own answer: numbers, texts. -/
import Derived.Test.YtdfiaefdbalcoaaDoorRows
import Derived.WalkKit
import Derived.ProofKit
import Derived.OpenShut
import Derived.WalkLawsBesides
import Derived.WalkSpells
import Derived.Outline
import Derived.Handy
import Derived.Lib.Hide
import Derived.Lib.OthersKept
import Derived.KernelRfl
import Derived.Deep.RegionWith
import Derived.RegionTactic
import Derived.Test.YtdfiaefdbalcoaaDoorInH
import Derived.Test.YtdfiaefdbalcoaaDoorInTq
namespace Go.Proofs.YtdfiaefdbalcoaaDoor
open Go.ChangeShapes Go.WideShapes Go.ChangeAt Go.RowKit
set_option linter.unusedVariables false
theorem one_byte (w : World) (b : UInt8) (k : Nat) (hk : k = w.heap.size) :
    (convert 45 9 (.slice (some ⟨k, 0, none⟩) 1 1)).run Tryd.prog (w.alloc (.cells #[.int .u8 (b.toNat : Int)] 5)) = .ok (.string (mk [b])) (w.alloc (.cells #[.int .u8 (b.toNat : Int)] 5)) := by
  subst hk
  refine run_convert_bytes_back (w.alloc (.cells #[.int .u8 (b.toNat : Int)] 5)) _ _ 5 ⟨w.heap.size, 0, none⟩ 1 [b] (by kernel_rfl) (by kernel_rfl) (by kernel_rfl) ?_
  intro j hj
  obtain rfl : j = 0 := by simpa using hj
  exact cell_row (heap_new w _) 0
theorem dig_byte (m : Int) (h0 : 0 ≤ m) (h1 : m ≤ 9) : ∃ b : UInt8, 48 + m = (b.toNat : Int) ∧ b = UInt8.ofNat (48 + m.toNat) := by
  have hd := dig_of m.toNat (by omega)
  exact ⟨UInt8.ofNat (48 + m.toNat), by rw [hd]; omega, rfl⟩
theorem itoa_split (n : Int) (h : 10 ≤ n) : Lib.itoa n = Lib.itoa (n / 10) ++ [UInt8.ofNat (48 + (n % 10).toNat)] := by
  unfold Lib.itoa
  rw [if_neg (by omega), if_neg (by omega), Lib.decDigits, dif_neg (by omega)]
  have e1 : (n / 10).toNat = n.toNat / 10 := by omega
  have e2 : (n % 10).toNat = n.toNat % 10 := by omega
  rw [e1, e2]
theorem itoa_one (n : Int) (h0 : 0 ≤ n) (h : n < 10) : Lib.itoa n = [UInt8.ofNat (48 + n.toNat)] := by
  unfold Lib.itoa
  rw [if_neg (by omega), Lib.decDigits_one (by omega)]
theorem itoa_nsplit (n : Int) (h : n ≤ -10) : Lib.itoa n = Lib.itoa (-(-n / 10)) ++ [UInt8.ofNat (48 + (-n % 10).toNat)] := by
  unfold Lib.itoa
  rw [if_pos (by omega), if_pos (by omega), Lib.decDigits, dif_neg (by omega)]
  have e1 : (-(-n / 10)).natAbs = n.natAbs / 10 := by omega
  have e2 : (-n % 10).toNat = n.natAbs % 10 := by omega
  rw [e1, e2]; rfl
theorem itoa_none (n : Int) (h0 : n < 0) (h : -10 < n) : Lib.itoa n = [45, UInt8.ofNat (48 + (-n).toNat)] := by
  unfold Lib.itoa
  rw [if_pos h0, Lib.decDigits_one (by omega)]
  have : n.natAbs = (-n).toNat := by omega
  rw [this]
theorem one_byte_at (w : World) (b : UInt8) (k : Nat) (hk : w.heap[k]? = some (.cells #[.int .u8 (b.toNat : Int)] 5 (0, 0))) :
    (convert 45 9 (.slice (some ⟨k, 0, none⟩) 1 1)).run Tryd.prog w = .ok (.string (mk [b])) w := by
  refine run_convert_bytes_back w _ _ 5 ⟨k, 0, none⟩ 1 [b] (by kernel_rfl) (by kernel_rfl) (by kernel_rfl) ?_
  intro j hj
  obtain rfl : j = 0 := by simpa using hj
  exact cell_row hk 0
set_option maxRecDepth 100000 in
set_option maxHeartbeats 1000000 in
theorem rnum_a (n : Int) (h0 : n < 0) (h10 : -10 < n) (w : World) : Calls Tryd.prog 32 #[.int .i64 n] w fun e w' => e = .returned (.string (mk (Lib.itoa n))) ∧ Below w.heap.size w w' := by
  obtain ⟨b, hb, hb2⟩ := dig_byte (-n) (by omega) (by omega)
  have HT : Hid (Lib.itoa n = [45, b]) := Lib.hid (by rw [itoa_none n h0 h10, hb2])
  have hcv := one_byte w b w.heap.size rfl
  have hcat : (⟨#[45]⟩ : ByteArray) ++ mk [b] = mk [45, b] := mk_app [45] [b]
  have hz : (mk [b]).size = 1 := rfl
  have hz2 : (⟨#[45]⟩ : ByteArray).size = 1 := rfl
  have hm : n.tmod 10 = n := by have := Int.tmod_eq_of_lt (a := -n) (b := 10) (by omega) (by omega); rw [Int.neg_tmod] at this; omega
  rw [HT.out]
  clear hb2
  go_enter Tryd.func32, Tryd.ntmps32
  go_wp2_with fail
  go_ret
  exact ⟨rfl, ext_alloc (Below.refl _ _) _⟩
set_option maxRecDepth 100000 in
set_option maxHeartbeats 1000000 in
theorem rnum_d (n : Int) (h0 : 0 ≤ n) (h10 : n < 10) (w : World) : Calls Tryd.prog 32 #[.int .i64 n] w fun e w' => e = .returned (.string (mk (Lib.itoa n))) ∧ Below w.heap.size w w' := by
  obtain ⟨b, hb, hb2⟩ := dig_byte n (by omega) (by omega)
  have HT : Hid (Lib.itoa n = [b]) := Lib.hid (by rw [itoa_one n (by omega) (by omega), hb2])
  have hcv := one_byte w b w.heap.size rfl
  have hm : n.tmod 10 = n := Int.tmod_eq_of_lt (by omega) (by omega)
  rw [HT.out]
  clear hb2
  go_enter Tryd.func32, Tryd.ntmps32
  go_wp2_with fail
  go_ret
  exact ⟨rfl, ext_alloc (Below.refl _ _) _⟩
set_option maxRecDepth 100000 in
set_option maxHeartbeats 1000000 in
theorem rnum_c (n : Int) (h10 : 10 ≤ n) (hn : I64 n) (q : Int) (hq : n / 10 = q) (m : Int) (hm : n % 10 = m) (b : UInt8) (hb : 48 + m = (b.toNat : Int)) (hm0 : 0 ≤ m) (hm9 : m ≤ 9) (hqi : I64 q) (HT : Hid (Lib.itoa n = Lib.itoa q ++ [b]))
    (HC : Hid (∀ w : World, Calls Tryd.prog 32 #[.int .i64 q] w fun e w' => e = .returned (.string (mk (Lib.itoa q))) ∧ Below w.heap.size w w')) (w : World) : Calls Tryd.prog 32 #[.int .i64 n] w fun e w' => e = .returned (.string (mk (Lib.itoa n))) ∧ Below w.heap.size w w' := by
  have hl : (Lib.itoa q).length ≤ 21 := (itoa_len q hqi).2
  have hcat : mk (Lib.itoa q) ++ mk [b] = mk (Lib.itoa q ++ [b]) := mk_app _ [b]
  have hzm : (mk (Lib.itoa q)).size = (Lib.itoa q).length := rfl
  have hz : (mk [b]).size = 1 := rfl
  have hcv := one_byte w b w.heap.size rfl
  rw [HT.out]
  clear HT hqi
  generalize Lib.itoa q = L at *
  obtain ⟨hn1, hn2⟩ := hn
  go_enter Tryd.func32, Tryd.ntmps32
  go_wp2_with fail
  refine (HC.out _).mono ?_; rintro e w1 ⟨rfl, g1⟩
  go_wp2_with fail
  go_ret
  exact ⟨rfl, ext_trans (ext_alloc (Below.refl _ _) _) g1⟩
set_option maxRecDepth 100000 in
set_option maxHeartbeats 1000000 in
theorem rnum_b (n : Int) (h10 : n ≤ -10) (hn : I64 n) (q : Int) (hq : n.tdiv 10 = q) (m : Int) (hm : n.tmod 10 = -m) (b : UInt8) (hb : 48 + m = (b.toNat : Int)) (hm0 : 0 ≤ m) (hm9 : m ≤ 9) (hqi : I64 q) (HT : Hid (Lib.itoa n = Lib.itoa q ++ [b]))
    (HC : Hid (∀ w : World, Calls Tryd.prog 32 #[.int .i64 q] w fun e w' => e = .returned (.string (mk (Lib.itoa q))) ∧ Below w.heap.size w w')) (w : World) : Calls Tryd.prog 32 #[.int .i64 n] w fun e w' => e = .returned (.string (mk (Lib.itoa n))) ∧ Below w.heap.size w w' := by
  have hl : (Lib.itoa q).length ≤ 21 := (itoa_len q hqi).2
  have hcat : mk (Lib.itoa q) ++ mk [b] = mk (Lib.itoa q ++ [b]) := mk_app _ [b]
  have hzm : (mk (Lib.itoa q)).size = (Lib.itoa q).length := rfl
  have hz : (mk [b]).size = 1 := rfl
  have hcvA := fun w => one_byte w b w.heap.size rfl
  have hcvD := one_byte_at (w.alloc (.cells #[.int .u8 (b.toNat : Int)] 5)).drew b w.heap.size (heap_new w _)
  have hw1 : IntKind.i64.wrap (b.toNat : Int) = (b.toNat : Int) := wr_in (by have := b.toNat_lt; unfold I64; omega)
  have hw2 : IntKind.i64.wrap q = q := wr_in hqi
  have hw3 : IntKind.u8.wrap (b.toNat : Int) = (b.toNat : Int) := by
    have := b.toNat_lt
    unfold IntKind.wrap; simp [IntKind.bits, IntKind.signed]; omega
  rw [HT.out]
  clear HT hqi
  generalize Lib.itoa q = L at *
  obtain ⟨hn1, hn2⟩ := hn
  have HW := Lib.hid (And.intro hcvA (And.intro hcvD (And.intro hw1 (And.intro hw2 hw3))))
  clear hcvA hcvD hw1 hw2 hw3
  go_enter Tryd.func32, Tryd.ntmps32
  go_wp2_with fail
  obtain ⟨hcvA, hcvD, hw1, hw2, hw3⟩ := HW.out
  go_region_with (first | (go_at_call 32; refine (HC.out _).mono ?_; rintro e w1 ⟨rfl, g1⟩; try (have hc1 := one_byte_at w1 b w.heap.size ((g1.block w.heap.size (by simp)).trans (heap_new' _ _ _ (by simp))))))
  all_goals
    go_wp2_with fail
    go_ret
    refine ⟨rfl, ?_⟩
    first
      | exact ext_alloc (ext_trans (ext_drew (Below.refl _ _)) g1) _
      | exact ext_trans (ext_drew (ext_alloc (Below.refl _ _) _)) g1
theorem rnumber_any : ∀ (K : Nat) (n : Int), n.natAbs < K → I64 n → ∀ w : World, Calls Tryd.prog 32 #[.int .i64 n] w fun e w' => e = .returned (.string (mk (Lib.itoa n))) ∧ Below w.heap.size w w'
  | 0, n, h, _, _ => absurd h (by omega)
  | K + 1, n, hK, hn, w => by
    by_cases h0 : n < 0
    · by_cases h10 : -10 < n
      · exact rnum_a n h0 h10 w
      · have hm1 : n.tmod 10 = -(-n % 10) := by
          have := Int.tmod_eq_emod_of_nonneg (a := -n) (b := 10) (by omega)
          rw [Int.neg_tmod] at this; omega
        have hq1 : n.tdiv 10 = -(-n / 10) := by
          have := Int.tdiv_eq_ediv_of_nonneg (a := -n) (b := 10) (by omega)
          rw [Int.neg_tdiv] at this; omega
        obtain ⟨b, hb, hb2⟩ := dig_byte (-n % 10) (by omega) (by omega)
        have hqi : I64 (-(-n / 10)) := by unfold I64 at *; omega
        exact rnum_b n (by omega) hn _ hq1 _ hm1 b hb (by omega) (by omega) hqi (Lib.hid (by rw [itoa_nsplit n (by omega), hb2])) (Lib.hid (rnumber_any K _ (by omega) hqi)) w
    · by_cases h10 : 10 ≤ n
      · obtain ⟨b, hb, hb2⟩ := dig_byte (n % 10) (by omega) (by omega)
        have hqi : I64 (n / 10) := by unfold I64 at *; omega
        exact rnum_c n h10 hn _ rfl _ rfl b hb (by omega) (by omega) hqi (Lib.hid (by rw [itoa_split n h10, hb2])) (Lib.hid (rnumber_any K _ (by omega) hqi)) w
      · exact rnum_d n (by omega) (by omega) w
theorem rnum_any (n : Int) (hn : I64 n) (w : World) : Calls Tryd.prog 32 #[.int .i64 n] w fun e w' => e = .returned (.string (mk (Lib.itoa n))) ∧ Below w.heap.size w w' := rnumber_any (n.natAbs + 1) n (by omega) hn w
end Go.Proofs.YtdfiaefdbalcoaaDoor
