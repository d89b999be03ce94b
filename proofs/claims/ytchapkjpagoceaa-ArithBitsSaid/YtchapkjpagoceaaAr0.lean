/- Plain words about what operators make of numbers of 64 bits; nothing of the program stands here. -/
import Derived.WalkKit
import Derived.Laws.BitsLemmas
import Derived.Deep.Draws
namespace Go.Proofs.Ytchapkjpagoceaa
open Go.RowKit
theorem i64_and63 (n : Int) : bits .and .i64 n 63 = n % 64 := by
  have h63 : (BitVec.ofInt 64 63).toNat = 2 ^ 6 - 1 := by decide
  have key : (BitVec.ofInt 64 n &&& BitVec.ofInt 64 63).toNat = (n % ((2 ^ 64 : Nat) : Int)).toNat % 2 ^ 6 := by
    rw [BitVec.toNat_and, BitVec.toNat_ofInt, h63, Nat.and_two_pow_sub_one_eq_mod]
  show IntKind.i64.wrap ((BitVec.ofInt 64 n &&& BitVec.ofInt 64 63).toNat : Nat) = n % 64
  rw [key, IntKind.wrap_i64]
  omega
theorem ext_trans {a b c : World} (h : Below a.heap.size a b) (k : Below b.heap.size b c) : Below a.heap.size a c := h.trans (k.mono h.size)
theorem ext_alloc {a b : World} (h : Below a.heap.size a b) (o : Obj) : Below a.heap.size a (b.alloc o) := h.alloc h.size o
theorem ext_set {a b : World} (h : Below a.heap.size a b) {p : Addr} (hp : a.heap.size ≤ p.block) (v : Value) : Below a.heap.size a (b.setCell p v) := h.setCell hp v
theorem ext_drew {a b : World} (h : Below a.heap.size a b) : Below a.heap.size a b.drew := h.drew
theorem ext_drewN {a b : World} (h : Below a.heap.size a b) (n : Nat) : Below a.heap.size a (b.drewN n) := ⟨h.os, h.tape, h.output, h.size, h.block⟩
def pickV (c n : Int) : Int := (if c < 0 then wrap64 (-(wrap64 (c + 1))) else c) % n
theorem pick_lo (c n : Int) (hn : 0 < n) : 0 ≤ pickV c n := Int.emod_nonneg _ (by omega)
theorem pick_hi (c n : Int) (hn : 0 < n) : pickV c n < n := Int.emod_lt_of_pos _ hn
def bi (c : Bool) : Int := if c then 1 else 0
/-- By how many bits a number moves. -/
def sh (b : Int) : Nat := (b % 64).toNat
def twoV (op a b : Int) : Int :=
  if op = 1 then wrap64 (a + b) else if op = 2 then wrap64 (a - b) else if op = 3 then wrap64 (a * b)
  else if op = 4 then (if b = 0 then 0 else wrap64 (a.tdiv b)) else if op = 5 then (if b = 0 then 0 else a.tmod b)
  else if op = 6 then bits .and .i64 a b else if op = 7 then bits .or .i64 a b else if op = 8 then bits .xor .i64 a b
  else if op = 9 then wrap64 (a * 2 ^ sh b) else if op = 10 then a / 2 ^ sh b
  else if op = 11 then bi (decide (a < b)) else if op = 12 then bi (decide (a ≤ b)) else if op = 13 then bi (decide (b < a)) else if op = 14 then bi (decide (b ≤ a))
  else if op = 15 then bi (a == b) else if op = 16 then bi (a != b) else 0
def twoB (op b : Int) : Bool := decide (1 ≤ op ∧ op ≤ 16) && !(decide (op = 4 ∨ op = 5) && decide (b = 0))
def oneV (op a : Int) : Int := if op = 17 then wrap64 (-a) else if op = 18 then bi (a == 0) else if op = 19 then bits .xor .i64 (-1) a else 0
def oneB (op : Int) : Bool := decide (17 ≤ op ∧ op ≤ 19)
def divV (a b : Int) : Int := if b = 0 then -1 else wrap64 (a.tdiv b)
def remV (a b : Int) : Int := if b = 0 then a else a.tmod b
def lessV (a b : Int) : Bool := decide (IntKind.u64.wrap a < IntKind.u64.wrap b)
end Go.Proofs.Ytchapkjpagoceaa
