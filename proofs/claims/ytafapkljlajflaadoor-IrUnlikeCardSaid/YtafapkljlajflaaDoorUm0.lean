/- Names, in plain words; nothing of the program stands here. -/
import Derived.Test.YtafapkljlajflaaDoorIn0
namespace Go.Proofs.YtafapkljlajflaaDoor
open Go.RowKit
/-- A character's number, and its bytes. -/
def rn (s : ByteArray) (i : Nat) : Int := ((Utf8.decode s i).1 : Nat)
def wd (s : ByteArray) (i : Nat) : Nat := (Utf8.decode s i).2
theorem rn_lo (s : ByteArray) (i : Nat) : 0 ≤ rn s i := by unfold rn; omega
theorem rn_hi (s : ByteArray) (i : Nat) : rn s i ≤ 2147483647 := by have := decode_le s i; unfold rn; omega
theorem wd_pos (s : ByteArray) (i : Nat) (h : i < s.size) : 1 ≤ wd s i := by
  unfold wd
  by_cases ha : (s[i]'h).toNat < 128
  · rw [decode_ascii s i h ha]; exact Nat.le_refl 1
  · exact (decode_high s i h (by omega)).2
theorem wd_le (s : ByteArray) (i : Nat) (h : i < s.size) : i + wd s i ≤ s.size := by
  unfold wd Utf8.decode
  dsimp only
  repeat' split
  all_goals simp_all
  all_goals omega
theorem next_at {P : Program} {w : World} {k : Nat} {s : ByteArray} {pos : Nat} (ty : TypeId) (hk : w.heap[k]? = some (.stringIter s pos)) (h : pos < s.size) :
    (Instr.next (.pointer (some ⟨k, 0, none⟩)) true ty).run P w = .ok (.tuple #[.bool true, .int .i64 pos, .int .i32 (rn s pos)]) (w.iterAt k s (pos + wd s pos)) :=
  Lib.run_next_any_at w k s pos ty hk h
theorem next_end {P : Program} {w : World} {k : Nat} {s : ByteArray} {pos : Nat} (ty : TypeId) (hk : w.heap[k]? = some (.stringIter s pos)) (h : ¬ pos < s.size) :
    (Instr.next (.pointer (some ⟨k, 0, none⟩)) true ty).run P w = .ok (.tuple #[.bool false]) w :=
  Lib.run_next_end_at w k s pos ty hk h
def blankR (r : Int) : Bool := decide (r = 32 ∨ r = 9 ∨ r = 10 ∨ r = 13)
def letterR (r : Int) : Bool := decide (97 ≤ r ∧ r ≤ 122 ∨ 65 ≤ r ∧ r ≤ 90 ∨ r = 95)
def digitR (r : Int) : Bool := decide (48 ≤ r ∧ r ≤ 57)
def inNameR (r : Int) : Bool := letterR r || digitR r
/-- How many of a text's first bytes, from a place on, are characters of a kind: where the first other one stands. -/
def spanR (p : Int → Bool) (s : ByteArray) : Nat → Nat → Nat
  | 0, _ => s.size
  | f + 1, i => if i < s.size then (if p (rn s i) then spanR p s f (i + wd s i) else i) else s.size
theorem spanR_end (p : Int → Bool) (s : ByteArray) (f i : Nat) (h : ¬ i < s.size) : spanR p s f i = s.size := by
  cases f <;> simp [spanR, h]
/-- More steps than there are bytes left make no difference. -/
theorem spanR_more (p : Int → Bool) (s : ByteArray) : ∀ f g i, s.size - i ≤ f → s.size - i ≤ g → spanR p s f i = spanR p s g i := by
  intro f
  induction f with
  | zero =>
    intro g i hf hg
    rw [spanR_end _ _ _ _ (by omega), spanR_end _ _ _ _ (by omega)]
  | succ f ih =>
    intro g i hf hg
    by_cases h : i < s.size
    · cases g with
      | zero => omega
      | succ g =>
        have hw := wd_pos s i h
        simp only [spanR, h, if_true]
        split
        · exact ih g _ (by omega) (by omega)
        · rfl
    · rw [spanR_end _ _ _ _ h, spanR_end _ _ _ _ h]
def spanL (p : Int → Bool) (s : ByteArray) : Nat := spanR p s s.size 0
theorem spanR_step (p : Int → Bool) (s : ByteArray) (i : Nat) (h : i < s.size) : spanR p s s.size i = if p (rn s i) then spanR p s s.size (i + wd s i) else i := by
  have hw := wd_pos s i h
  rw [spanR_more p s s.size (s.size - i + 1) i (by omega) (by omega), spanR, if_pos h]
  split
  · exact spanR_more p s _ _ _ (by omega) (by omega)
  · rfl
def wordB (s : ByteArray) : Bool :=
  s.toList == [105, 110, 116] || s.toList == [105, 102] || s.toList == [101, 108, 115, 101] || s.toList == [119, 104, 105, 108, 101] || s.toList == [98, 114, 101, 97, 107] ||
  s.toList == [99, 111, 110, 116, 105, 110, 117, 101] || s.toList == [114, 101, 116, 117, 114, 110] || s.toList == [112, 114, 105, 110, 116] || s.toList == [114, 101, 97, 100] || s.toList == [116, 114, 97, 112]
def nameB (s : ByteArray) : Bool := decide (1 ≤ s.size) && decide (s.size ≤ 20) && !(wordB s) && letterR ((s.data.toList.getD 0 0).toNat) && (spanL inNameR s == s.size)
end Go.Proofs.YtafapkljlajflaaDoor
