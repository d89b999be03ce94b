/- The law's own helpers: numbers as words. -/
import Derived.Test.YtpoomcejmdlmiaaDoorRows
import Derived.WalkKit
import Derived.ProofKit
import Derived.OpenShut
import Derived.WalkLawsBesides
import Derived.WalkSpells
import Derived.Outline
import Derived.Handy
import Derived.Lib.Hide
import Derived.Lib.OthersKept
import Derived.Laws.IdiomStrings
import Derived.Test.YtpoomcejmdlmiaaDoorSc0
import Derived.Test.YtpoomcejmdlmiaaDoorScK
namespace Go.Proofs.YtpoomcejmdlmiaaDoor
open Go.ChangeShapes Go.WideShapes Go.ChangeAt Go.RowKit
set_option linter.unusedVariables false
/-- What digits spell. -/
def digV : List UInt8 → Nat
  | [] => 0
  | c :: r => (c.toNat - 48) * 10 ^ r.length + digV r
/-- A number's own word. -/
def IsNum (l : List UInt8) (m : Nat) : Prop := Plain digitR l ∧ l ≠ [] ∧ digV l = m ∧ (l.getD 0 0 ≠ 48 ∨ l.length = 1)
theorem digit_of (k : Nat) : (UInt8.ofNat (48 + k % 10)).toNat = 48 + k % 10 := by
  have := Nat.mod_lt k (show 0 < 10 by decide)
  rw [UInt8.toNat_ofNat', Nat.mod_eq_of_lt (by omega)]
theorem plain_digit (k : Nat) : (UInt8.ofNat (48 + k % 10)).toNat < 128 ∧ digitR ((UInt8.ofNat (48 + k % 10)).toNat : Int) = true := by
  have := Nat.mod_lt k (show 0 < 10 by decide)
  rw [digit_of]
  exact ⟨by omega, decide_eq_true (by omega)⟩
theorem dig_step (k : Nat) (l : List UInt8) (m : Nat) (h : k * 10 ^ l.length + digV l = m) :
    k / 10 * 10 ^ (UInt8.ofNat (48 + k % 10) :: l).length + digV (UInt8.ofNat (48 + k % 10) :: l) = m := by
  rw [List.length_cons, Nat.pow_succ]
  show k / 10 * (10 ^ l.length * 10) + (((UInt8.ofNat (48 + k % 10)).toNat - 48) * 10 ^ l.length + digV l) = m
  rw [digit_of, Nat.add_sub_cancel_left, ← h]
  have e : k / 10 * (10 ^ l.length * 10) = k / 10 * 10 * 10 ^ l.length := by rw [Nat.mul_assoc, Nat.mul_comm 10]
  rw [e, ← Nat.add_assoc, ← Nat.add_mul]
  have := Nat.div_add_mod k 10
  rw [Nat.mul_comm (k / 10) 10, this]
def NumRes (m : Nat) (e : Ending) : Prop := ∃ l, e = .returned (.string (mk l)) ∧ IsNum l m
def numInv (m k : Nat) (l : List UInt8) : Prop := Plain digitR l ∧ l ≠ [] ∧ k * 10 ^ l.length + digV l = m ∧ (k = 0 → l.getD 0 0 ≠ 48 ∨ l.length = 1)
theorem numInv_first (m : Nat) : numInv m (m / 10) [UInt8.ofNat (48 + m % 10)] := by
  refine ⟨fun c hc => ?_, by simp, ?_, fun _ => .inr rfl⟩
  · obtain rfl : c = UInt8.ofNat (48 + m % 10) := by simpa using hc
    exact plain_digit m
  · have := dig_step m [] m (by simp [digV])
    exact this
theorem numInv_step {m k : Nat} {l : List UInt8} (h : numInv m k l) (hk : 0 < k) : numInv m (k / 10) (UInt8.ofNat (48 + k % 10) :: l) := by
  obtain ⟨h1, h2, h3, h4⟩ := h
  refine ⟨fun c hc => ?_, by simp, dig_step k l m h3, fun h0 => .inl ?_⟩
  · rcases List.mem_cons.1 hc with rfl | h
    · exact plain_digit k
    · exact h1 c h
  · have hd := digit_of k
    intro e
    have e' : UInt8.ofNat (48 + k % 10) = 48 := e
    rw [e'] at hd
    have e48 : (48 : UInt8).toNat = 48 := rfl
    rw [e48] at hd
    omega
theorem numInv_end {m : Nat} {l : List UInt8} (h : numInv m 0 l) : IsNum l m := by
  obtain ⟨h1, h2, h3, h4⟩ := h
  exact ⟨h1, h2, by rw [Nat.zero_mul, Nat.zero_add] at h3; exact h3, h4 rfl⟩
theorem mk_app (a b : List UInt8) : mk a ++ mk b = mk (a ++ b) := by
  apply bytes_inj
  rw [mk_list]
  simp [mk]
theorem pow_len {n m : Nat} (h : 10 ^ n ≤ m) (hm : m ≤ 9223372036854775807) : n ≤ 18 := by
  apply Classical.byContradiction
  intro k
  have : 10 ^ 19 ≤ 10 ^ n := Nat.pow_le_pow_right (by decide) (by omega)
  have e : (10 : Nat) ^ 19 = 10000000000000000000 := by decide
  omega
theorem numInv_len {m k : Nat} {l : List UInt8} (h : numInv m k l) (hk : 0 < k) (hm : m ≤ 9223372036854775807) : l.length ≤ 18 := by
  obtain ⟨_, _, h3, _⟩ := h
  refine pow_len (m := m) ?_ hm
  have : 1 * 10 ^ l.length ≤ k * 10 ^ l.length := Nat.mul_le_mul_right _ hk
  omega
theorem IsNum.len {m : Nat} {l : List UInt8} (h : IsNum l m) (hm : m ≤ 9223372036854775807) : l.length ≤ 19 := by
  obtain ⟨h1, h2, h3, h4⟩ := h
  rcases h4 with h4 | h4
  · cases l with
    | nil => simp
    | cons c r =>
      have hc := (h1 c (by simp)).2
      unfold digitR at hc
      have hc := of_decide_eq_true hc
      have hc48 : c.toNat ≠ 48 := fun e => h4 (by show c = 48; exact UInt8.toNat_inj.1 e)
      have : 1 * 10 ^ r.length ≤ (c.toNat - 48) * 10 ^ r.length := Nat.mul_le_mul_right _ (by omega)
      have := pow_len (n := r.length) (m := m) (by rw [← h3]; show 10 ^ r.length ≤ (c.toNat - 48) * 10 ^ r.length + digV r; omega) hm
      simp; omega
  · omega
theorem one_byte (w : World) (c : Int) (b : UInt8) (hc : c = (b.toNat : Int)) :
    (convert 47 9 (.slice (some ⟨w.heap.size, 0, none⟩) 1 1)).run Tryd.prog (w.alloc (.cells #[.int .u8 c] 5)) = .ok (.string (mk [b])) (w.alloc (.cells #[.int .u8 c] 5)) := by
  subst hc
  refine run_convert_bytes_back (w.alloc (.cells #[.int .u8 (b.toNat : Int)] 5)) _ _ 5 ⟨w.heap.size, 0, none⟩ 1 [b] (by kernel_rfl) (by kernel_rfl) (by kernel_rfl) ?_
  intro j hj
  obtain rfl : j = 0 := by simpa using hj
  exact cell_row (heap_new w _) 0
end Go.Proofs.YtpoomcejmdlmiaaDoor
