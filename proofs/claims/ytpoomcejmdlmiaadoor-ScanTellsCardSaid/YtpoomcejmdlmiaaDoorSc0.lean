/- Plain words about a text's tokens; nothing of the program stands here. -/
import Derived.WalkKit
import Derived.Lib.OthersKept
import Derived.Deep.Draws
namespace Go.Proofs.YtpoomcejmdlmiaaDoor
open Go.RowKit
theorem ext_trans {a b c : World} (h : Below a.heap.size a b) (k : Below b.heap.size b c) : Below a.heap.size a c := h.trans (k.mono h.size)
theorem ext_alloc {a b : World} (h : Below a.heap.size a b) (o : Obj) : Below a.heap.size a (b.alloc o) := h.alloc h.size o
theorem ext_set {a b : World} (h : Below a.heap.size a b) {p : Addr} (hp : a.heap.size ≤ p.block) (v : Value) : Below a.heap.size a (b.setCell p v) := h.setCell hp v
theorem ext_drew {a b : World} (h : Below a.heap.size a b) : Below a.heap.size a b.drew := h.drew
theorem ext_drewN {a b : World} (h : Below a.heap.size a b) (n : Nat) : Below a.heap.size a (b.drewN n) := ⟨h.os, h.tape, h.output, h.size, h.block⟩
theorem heap_new (w : World) (o : Obj) : (w.alloc o).heap[w.heap.size]? = some o := by show (w.heap.push o)[w.heap.size]? = _; simp
theorem cell_row {w : World} {b : Nat} {cs : Array Value} {t : TypeId} (h : w.heap[b]? = some (.cells cs t (0, 0))) (i : Nat) : w.cell? ⟨b, i, none⟩ = cs[i]? := by
  simp [World.cell?, h]
theorem four_at {w : World} {b : Nat} {p q r u : Value} {t : TypeId} (h : w.heap[b]? = some (.cells #[p, q, r, u] t (0, 0))) :
    (w.cell? ⟨b, 0, none⟩ = some p ∧ w.cell? ⟨b, 1, none⟩ = some q ∧ w.cell? ⟨b, 2, none⟩ = some r ∧ w.cell? ⟨b, 3, none⟩ = some u) ∧
    w.frozen? ⟨b, 0, none⟩ = false ∧ w.frozen? ⟨b, 1, none⟩ = false ∧ w.frozen? ⟨b, 2, none⟩ = false ∧ w.frozen? ⟨b, 3, none⟩ = false := by
  simp [World.cell?, World.frozen?, h]
/-- The two errors that Atoi hands on are interface values. -/
def ErrVars (w : World) : Prop := 1 < w.heap.size ∧ (∃ ev, w.cell? ⟨0, 0, none⟩ = some ev ∧ (ev = .nilIface ∨ ∃ te pe, ev = .iface te pe)) ∧ (∃ ev, w.cell? ⟨1, 0, none⟩ = some ev ∧ (ev = .nilIface ∨ ∃ te pe, ev = .iface te pe))
theorem ErrVars.ext {w w' : World} (h : ErrVars w) (b : Below w.heap.size w w') : ErrVars w' := by
  obtain ⟨h1, ⟨a, ha, ia⟩, ⟨c, hc, ic⟩⟩ := h
  exact ⟨Nat.lt_of_lt_of_le h1 b.size, ⟨a, (b.cell (p := ⟨0, 0, none⟩) (Nat.lt_trans Nat.zero_lt_one h1)).trans ha, ia⟩, ⟨c, (b.cell (p := ⟨1, 0, none⟩) h1).trans hc, ic⟩⟩
/-- What stands at a text's beginning: how many bytes, the token's kind (0: a comment), its text, its number. -/
structure Piece where
  len : Nat
  kind : Int
  text : ByteArray
  n : Int
def Says (sp : Option Piece) (e : Ending) : Prop := ∃ (n k m : Int) (t : ByteArray) (b : Bool),
  e = .returned (.tuple #[.int .i64 n, .agg #[.int .i64 k, .string t, .int .i64 m, .int .i64 0], .bool b]) ∧ (sp = none → b = false) ∧ ∀ p, sp = some p → b = true ∧ n = p.len ∧ k = p.kind ∧ t = p.text ∧ m = p.n
theorem says_some {n k m : Int} {t : ByteArray} {p : Piece} (h1 : n = p.len) (h2 : k = p.kind) (h3 : t = p.text) (h4 : m = p.n) :
    Says (some p) (.returned (.tuple #[.int .i64 n, .agg #[.int .i64 k, .string t, .int .i64 m, .int .i64 0], .bool true])) :=
  ⟨n, k, m, t, true, rfl, (fun h => by cases h), (fun q hq => by cases hq; exact ⟨rfl, h1, h2, h3, h4⟩)⟩
theorem says_none (n k m : Int) (t : ByteArray) : Says none (.returned (.tuple #[.int .i64 n, .agg #[.int .i64 k, .string t, .int .i64 m, .int .i64 0], .bool false])) :=
  ⟨n, k, m, t, false, rfl, (fun _ => rfl), (fun q hq => by cases hq)⟩
def pickN (c n : Int) : Int := (if c < 0 then -(c + 1) else c) % n
theorem pickN_lo (c n : Int) (hn : 0 < n) : 0 ≤ pickN c n := Int.emod_nonneg _ (by omega)
theorem pickN_hi (c n : Int) (hn : 0 < n) : pickN c n < n := Int.emod_lt_of_pos _ hn
/-- A character's number, and its bytes. -/
def rn (s : ByteArray) (i : Nat) : Int := ((Utf8.decode s i).1 : Nat)
def wd (s : ByteArray) (i : Nat) : Nat := (Utf8.decode s i).2
theorem rn_lo (s : ByteArray) (i : Nat) : 0 ≤ rn s i := by unfold rn; omega
theorem rn_hi (s : ByteArray) (i : Nat) : rn s i ≤ 2147483647 := by have := decode_le s i; unfold rn; omega
theorem wd_pos (s : ByteArray) (i : Nat) (h : i < s.size) : 1 ≤ wd s i := by
  unfold wd
  by_cases ha : (s[i]'h).toNat < 128
  · rw [decode_ascii s i h ha]; exact Nat.le_refl 1
  · exact (decode_high s i h (by omega)).2
theorem wd_le (s : ByteArray) (i : Nat) (h : i < s.size) : i + wd s i ≤ s.size := by
  unfold wd Utf8.decode
  dsimp only
  repeat' split
  all_goals simp_all
  all_goals omega
theorem next_at {P : Program} {w : World} {k : Nat} {s : ByteArray} {pos : Nat} (ty : TypeId) (hk : w.heap[k]? = some (.stringIter s pos)) (h : pos < s.size) :
    (Instr.next (.pointer (some ⟨k, 0, none⟩)) true ty).run P w = .ok (.tuple #[.bool true, .int .i64 pos, .int .i32 (rn s pos)]) (w.iterAt k s (pos + wd s pos)) :=
  Lib.run_next_any_at w k s pos ty hk h
theorem next_end {P : Program} {w : World} {k : Nat} {s : ByteArray} {pos : Nat} (ty : TypeId) (hk : w.heap[k]? = some (.stringIter s pos)) (h : ¬ pos < s.size) :
    (Instr.next (.pointer (some ⟨k, 0, none⟩)) true ty).run P w = .ok (.tuple #[.bool false]) w :=
  Lib.run_next_end_at w k s pos ty hk h
theorem ret_b {a b : Bool} (h : a = b) : Ending.returned (.bool a) = .returned (.bool b) := by rw [h]
theorem ret_i {a b : Int} (h : a = b) : Ending.returned (.int .i64 a) = .returned (.int .i64 b) := by rw [h]
def blankR (r : Int) : Bool := decide (r = 32 ∨ r = 9 ∨ r = 10 ∨ r = 13)
def letterR (r : Int) : Bool := decide (97 ≤ r ∧ r ≤ 122 ∨ 65 ≤ r ∧ r ≤ 90 ∨ r = 95)
def digitR (r : Int) : Bool := decide (48 ≤ r ∧ r ≤ 57)
def inNameR (r : Int) : Bool := letterR r || digitR r
/-- How many of a text's first bytes, from a place on, are characters of a kind: where the first other one stands. -/
def spanR (p : Int → Bool) (s : ByteArray) : Nat → Nat → Nat
  | 0, _ => s.size
  | f + 1, i => if i < s.size then (if p (rn s i) then spanR p s f (i + wd s i) else i) else s.size
theorem spanR_end (p : Int → Bool) (s : ByteArray) (f i : Nat) (h : ¬ i < s.size) : spanR p s f i = s.size := by
  cases f <;> simp [spanR, h]
/-- More steps than there are bytes left make no difference. -/
theorem spanR_more (p : Int → Bool) (s : ByteArray) : ∀ f g i, s.size - i ≤ f → s.size - i ≤ g → spanR p s f i = spanR p s g i := by
  intro f
  induction f with
  | zero =>
    intro g i hf hg
    rw [spanR_end _ _ _ _ (by omega), spanR_end _ _ _ _ (by omega)]
  | succ f ih =>
    intro g i hf hg
    by_cases h : i < s.size
    · cases g with
      | zero => omega
      | succ g =>
        have hw := wd_pos s i h
        simp only [spanR, h, if_true]
        split
        · exact ih g _ (by omega) (by omega)
        · rfl
    · rw [spanR_end _ _ _ _ h, spanR_end _ _ _ _ h]
def spanL (p : Int → Bool) (s : ByteArray) : Nat := spanR p s s.size 0
theorem spanR_step (p : Int → Bool) (s : ByteArray) (i : Nat) (h : i < s.size) : spanR p s s.size i = if p (rn s i) then spanR p s s.size (i + wd s i) else i := by
  have hw := wd_pos s i h
  rw [spanR_more p s s.size (s.size - i + 1) i (by omega) (by omega), spanR, if_pos h]
  split
  · exact spanR_more p s _ _ _ (by omega) (by omega)
  · rfl
def wordB (s : ByteArray) : Bool :=
  s.toList == [105, 110, 116] || s.toList == [105, 102] || s.toList == [101, 108, 115, 101] || s.toList == [119, 104, 105, 108, 101] || s.toList == [98, 114, 101, 97, 107] ||
  s.toList == [99, 111, 110, 116, 105, 110, 117, 101] || s.toList == [114, 101, 116, 117, 114, 110] || s.toList == [112, 114, 105, 110, 116] || s.toList == [114, 101, 97, 100] || s.toList == [116, 114, 97, 112]
end Go.Proofs.YtpoomcejmdlmiaaDoor
