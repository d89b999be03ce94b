/- The whole text: plain part. -/
import Derived.Below
import Derived.Laws.AppendOwn
import Derived.Test.YtpoomcejmdlmiaaDoorScF
namespace Go.Proofs.YtpoomcejmdlmiaaDoor
open Go.ChangeShapes Go.WideShapes Go.ChangeAt Go.RowKit
set_option linter.unusedVariables false
/-- A token. -/
structure Tk where
  kind : Int
  text : ByteArray
  n : Int
  line : Int
def Tk.cells (t : Tk) : List Value := [.int .i64 t.kind, .string t.text, .int .i64 t.n, .int .i64 t.line]
theorem Tk.cells_length (t : Tk) : t.cells.length = 4 := rfl
def pieceQ (s : ByteArray) (r : Int) : Option Piece := if h : 0 < s.size then pieceP s r h else none
/-- A text's tokens from a place on, its line, where the last token ends, and what was found ahead: all tokens; or false, and the line of what is none. -/
def scanR (s : ByteArray) : Nat → Nat → Nat → Nat → List Tk → List Tk × Bool × Nat
  | 0, _, line, _, acc => (acc ++ [⟨5, ⟨#[]⟩, 0, line⟩], true, 0)
  | f + 1, i, line, behind, acc =>
    if i < s.size then
      if i < behind then scanR s f (i + wd s i) line behind acc
      else if blankR (rn s i) = true then scanR s f (i + wd s i) (if (rn s i == 10) = true then line + 1 else line) behind acc
      else match pieceQ (s.extract i s.size) (rn s i) with
        | none => ([], false, if (rn s i == 10) = true then line + 1 else line)
        | some p => scanR s f (i + wd s i) (if (rn s i == 10) = true then line + 1 else line) (i + p.len)
            (if (p.kind != 0) = true then acc ++ [⟨p.kind, p.text, p.n, (if (rn s i == 10) = true then line + 1 else line : Nat)⟩] else acc)
    else (acc ++ [⟨5, ⟨#[]⟩, 0, line⟩], true, 0)
theorem scanR_end (s : ByteArray) (f i line behind : Nat) (acc : List Tk) (h : ¬ i < s.size) : scanR s f i line behind acc = (acc ++ [⟨5, ⟨#[]⟩, 0, line⟩], true, 0) := by
  cases f <;> simp [scanR, h]
theorem scanR_more (s : ByteArray) : ∀ f g i line behind acc, s.size - i ≤ f → s.size - i ≤ g → scanR s f i line behind acc = scanR s g i line behind acc := by
  intro f
  induction f with
  | zero => intro g i line behind acc hf hg; rw [scanR_end _ _ _ _ _ _ (by omega), scanR_end _ _ _ _ _ _ (by omega)]
  | succ f ih =>
    intro g i line behind acc hf hg
    by_cases h : i < s.size
    · cases g with
      | zero => omega
      | succ g =>
        have hw := wd_pos s i h
        simp only [scanR, h, if_true]
        split
        · exact ih g _ _ _ _ (by omega) (by omega)
        · split
          · exact ih g _ _ _ _ (by omega) (by omega)
          · split
            · rfl
            · exact ih g _ _ _ _ (by omega) (by omega)
    · rw [scanR_end _ _ _ _ _ _ h, scanR_end _ _ _ _ _ _ h]
def scanL (s : ByteArray) : List Tk × Bool × Nat := scanR s s.size 0 1 0 []
theorem scanR_step (s : ByteArray) (i line behind : Nat) (acc : List Tk) (h : i < s.size) : scanR s s.size i line behind acc =
    if i < behind then scanR s s.size (i + wd s i) line behind acc
    else if blankR (rn s i) = true then scanR s s.size (i + wd s i) (if (rn s i == 10) = true then line + 1 else line) behind acc
    else match pieceQ (s.extract i s.size) (rn s i) with
      | none => ([], false, if (rn s i == 10) = true then line + 1 else line)
      | some p => scanR s s.size (i + wd s i) (if (rn s i == 10) = true then line + 1 else line) (i + p.len)
          (if (p.kind != 0) = true then acc ++ [⟨p.kind, p.text, p.n, (if (rn s i == 10) = true then line + 1 else line : Nat)⟩] else acc) := by
  have hw := wd_pos s i h
  rw [scanR_more s s.size (s.size - i + 1) i line behind acc (by omega) (by omega), scanR, if_pos h]
  split
  · exact scanR_more s _ _ _ _ _ _ (by omega) (by omega)
  · split
    · exact scanR_more s _ _ _ _ _ _ (by omega) (by omega)
    · split
      · rfl
      · exact scanR_more s _ _ _ _ _ _ (by omega) (by omega)
theorem cmtR_le (s : ByteArray) : ∀ f i, i ≤ s.size → (cmtR s f i).1 ≤ s.size := by
  intro f
  induction f with
  | zero => intro i _; exact Nat.le_refl _
  | succ f ih =>
    intro i hi
    unfold cmtR
    split
    · rename_i h
      split
      · exact hi
      · split
        · exact Nat.zero_le _
        · exact ih _ (wd_le s i h)
    · exact Nat.le_refl _
theorem piece_len (s : ByteArray) (r : Int) (p : Piece) (h : pieceQ s r = some p) : p.len ≤ s.size := by
  unfold pieceQ at h
  split at h
  · rename_i h0
    unfold pieceP at h
    repeat' split at h
    all_goals first
      | (cases h; done)
      | (cases h; exact cmtR_le s _ _ (Nat.zero_le _))
      | (cases h; exact (signN_le s h0).1)
      | (unfold wordP at h; repeat' split at h
         all_goals first | (cases h; done) | (cases h; exact spanL_le _ _))
      | (unfold numberP at h; repeat' split at h
         all_goals first | (cases h; done) | (cases h; exact spanL_le _ _))
      | (unfold charP at h; split at h
         · rename_i k; cases h; exact k.2.2.1
         · cases h)
  · cases h
theorem own_ext {w w' : World} {base : Nat} {e : TypeId} {size : Nat} {v : Value} {n : Nat} {xs : List Value} (h : w.ownsRow base e size v n xs) (b : Below w.heap.size w w') : w'.ownsRow base e size v n xs := by
  obtain ⟨h1, h2⟩ := h
  refine ⟨h1, ?_⟩
  rcases h2 with h2 | ⟨g, cap, cur, hv, hg, hh, r⟩
  · exact .inl h2
  · refine .inr ⟨g, cap, cur, hv, hg, ?_, r⟩
    rw [b.block g (Array.getElem?_eq_some_iff.1 hh).1]; exact hh
theorem own_iter {w : World} {base : Nat} {e : TypeId} {size : Nat} {v : Value} {n : Nat} {xs : List Value} {k : Nat} (h : w.ownsRow base e size v n xs) (hk : k < base) (s : ByteArray) (p : Nat) : (w.iterAt k s p).ownsRow base e size v n xs := by
  obtain ⟨h1, h2⟩ := h
  refine ⟨h1, ?_⟩
  rcases h2 with h2 | ⟨g, cap, cur, hv, hg, hh, r⟩
  · exact .inl h2
  · exact .inr ⟨g, cap, cur, hv, hg, by rw [Lib.iterAt_other _ _ _ _ _ (by omega)]; exact hh, r⟩
theorem own_base {w : World} {base base' : Nat} {e : TypeId} {size : Nat} {v : Value} {n : Nat} {xs : List Value} (h : w.ownsRow base e size v n xs) (hb : base' ≤ base) : w.ownsRow base' e size v n xs := by
  obtain ⟨h1, h2⟩ := h
  refine ⟨h1, ?_⟩
  rcases h2 with h2 | ⟨g, cap, cur, hv, hg, r⟩
  · exact .inl h2
  · exact .inr ⟨g, cap, cur, hv, Nat.le_trans hb hg, r⟩
theorem own_block {w : World} {base : Nat} {e : TypeId} {size : Nat} {v : Value} {n : Nat} {xs : List Value} (h : w.ownsRow base e size v n xs) : ∀ k, v.ownBlock = some k → base ≤ k := by
  intro k hk
  rcases h.2 with ⟨rfl, _⟩ | ⟨g, cap, cur, rfl, hg, _⟩
  · cases hk
  · cases hk; exact hg
/-- What a grown row leaves: all that was there but the row itself. -/
theorem below_grown {B : Nat} {a w w' : World} {base : Nat} {e : TypeId} {size : Nat} {v : Value} {n : Nat} {xs : List Value} (h : Below B a w) (hB : B ≤ w.heap.size) (hown : w.ownsRow base e size v n xs) (hb : B ≤ base) (hg : w.grownBy w' v.ownBlock) : Below B a w' :=
  h.grown hg hB (fun k hk => Nat.le_trans hb (own_block hown k hk))
theorem block_grown {w w' : World} {base : Nat} {e : TypeId} {size : Nat} {v : Value} {n : Nat} {xs : List Value} (hown : w.ownsRow base e size v n xs) (hg : w.grownBy w' v.ownBlock) {k : Nat} {o : Obj} (hk : k < base) (h : w.heap[k]? = some o) : w'.heap[k]? = some o := by
  rw [hg.block k (Array.getElem?_eq_some_iff.1 h).1 (fun e => by have := own_block hown k e.symm; omega)]; exact h
end Go.Proofs.YtpoomcejmdlmiaaDoor
