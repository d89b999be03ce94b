/- Rows of one's own, and rows that are read. -/
import Derived.Test.YtohffidbibichaaDoorRows
import Derived.WalkKit
import Derived.ProofKit
import Derived.OpenShut
import Derived.WalkLawsBesides
import Derived.WalkSpells
import Derived.Outline
import Derived.Handy
import Derived.Lib.Hide
import Derived.Lib.OthersKept
import Derived.KernelRfl
import Derived.RegionTactic
import Derived.BigRegion
import Derived.Deep.RegionHeld3
import Derived.OwnWalk
import Derived.Laws.AppendOwn
import Derived.Test.YtohffidbibichaaDoorScO
import Derived.Test.YtohffidbibichaaDoorScV
namespace Go.Proofs.YtohffidbibichaaDoor
open Go.ChangeShapes Go.WideShapes Go.ChangeAt Go.RowKit
set_option linter.unusedVariables false
theorem own_other {w w' : World} {b1 b2 s1 s2 n1 n2 : Nat} {e1 e2 : TypeId} {v1 v2 : Value} {xs1 xs2 : List Value} (h1 : w.ownsRow b1 e1 s1 v1 n1 xs1) (h2 : w.ownsRow b2 e2 s2 v2 n2 xs2) (he : e1 ≠ e2) (g : w.grownBy w' v1.ownBlock) : w'.ownsRow b2 e2 s2 v2 n2 xs2 := by
  obtain ⟨a, h | ⟨k, cap, cur, hv, hb, hg, r⟩⟩ := h2
  · exact ⟨a, .inl h⟩
  · refine ⟨a, .inr ⟨k, cap, cur, hv, hb, ?_, r⟩⟩
    rw [g.block k (Array.getElem?_eq_some_iff.1 hg).1 ?_]
    · exact hg
    · intro e
      obtain ⟨_, ⟨h, _⟩ | ⟨k', cap', cur', hv', _, hg', _⟩⟩ := h1
      · rw [h] at e; cases e
      · rw [hv'] at e
        cases e
        rw [hg] at hg'
        cases hg'
        exact he rfl
theorem Tryd.infoInt : (Tryd.prog.info? 3).map (fun i => (i.zero, i.size, i.bytes)) = some (some (.int .i64 0), 1, 8) := by kernel_rfl
theorem Tryd.infoStr : (Tryd.prog.info? 9).map (fun i => (i.zero, i.size, i.bytes)) = some (some (.string ⟨#[]⟩), 1, 16) := by kernel_rfl
/-- One cell more behind a row of one's own. -/
theorem app_one {T E : TypeId} {z : Value} {sz : Nat} (hT : Tryd.prog.underlying T = some (.slice E)) (hinfo : (Tryd.prog.info? E).map (fun i => (i.zero, i.size, i.bytes)) = some (some z, 1, sz)) (hz1 : z.cells.size = 1) (hsz : sz ≤ 16)
    {ops : Array Oper} {rest : List Oper} {o : Oper} {a : Act} {Q : Exit → Act → World → Prop} {w : World} (hgd : o.guard = none) (s x : Operand)
    (ho : o.op = .call { callee := .builtin .append, args := #[s, x], argTypes := #[T, T] })
    (base : Nat) (v : Value) (n : Nat) (xs : List Value) (hs : a.eval s = v) (hown : w.ownsRow base E 1 v n xs)
    (b cap : Nat) (u : Value) (hx : a.eval x = .slice (some ⟨b, 0, none⟩) 1 cap) (hu : w.cell? ⟨b, 0, none⟩ = some u) (h1 : u.oneCell' = true) (hn : n ≤ 100000) (hbase : base ≤ w.heap.size)
    (h : ∀ v' w', w'.ownsRow base E 1 v' (n + 1) (xs ++ [u]) → w.grownBy w' v.ownBlock → wpList Tryd.prog ops Q rest (a.put o.dst v') w') : wpList Tryd.prog ops Q (o :: rest) a w := by
  obtain ⟨i0, hi, iz0, iz1, iz2⟩ := info_parts hinfo
  refine wpList_append_own _ hgd s x T ho base E i0 z 1 sz hT hi iz0 iz1 iz2 hz1 (by decide) v n xs hs hown ⟨b, 0, none⟩ 1 cap [u] hx rfl ?_ ?_ ?_ ?_ hbase fun v' w' k1 k2 _ => h v' w' k1 k2
  · intro j u' hj
    cases j with
    | zero =>
      obtain rfl : u = u' := by simpa using hj
      simpa [Addr.add] using hu
    | succ j => simp at hj
  · intro u' hu'
    obtain rfl : u' = u := by simpa using hu'
    exact h1
  · unfold maxLen; omega
  · have : (n + 1) * sz ≤ 100001 * 16 := Nat.mul_le_mul (by omega) hsz
    omega
/-- A value is a row of one-cell values. -/
def ColAt (w : World) (v : Value) (xs : List Value) : Prop := ∃ p cap, v = .slice p xs.length cap ∧ ∀ i (h : i < xs.length), ∃ g, p = some ⟨g, 0, none⟩ ∧ w.cell? ⟨g, i, none⟩ = some (xs[i]'h)
theorem col_of_own {w : World} {base : Nat} {e : TypeId} {v : Value} {n : Nat} {xs : List Value} (h : w.ownsRow base e 1 v n xs) : ColAt w v xs := by
  obtain ⟨h1, ⟨rfl, rfl⟩ | ⟨g, cap, cur, rfl, _, hg, _, _, _, ht⟩⟩ := h
  · obtain rfl : xs = [] := List.length_eq_zero_iff.1 (by simpa using h1)
    exact ⟨_, _, rfl, fun i hi => by cases hi⟩
  · rw [Nat.mul_one] at h1 ht
    subst h1
    refine ⟨_, _, rfl, fun i hi => ⟨g, rfl, ?_⟩⟩
    rw [cell_row hg, ← Array.getElem?_toList, ← List.getElem?_take_of_lt hi, ht, List.getElem?_eq_getElem hi]
theorem RowAt.form {w : World} {v : Value} {L : List Tk} (h : RowAt w v L) (hL : L ≠ []) : ∃ b cap, v = .slice (some ⟨b, 0, none⟩) L.length cap ∧ ∀ i (h : i < L.length),
    w.cell? ⟨b, i * 4, none⟩ = some (.int .i64 (L[i]'h).kind) ∧ w.cell? ⟨b, i * 4 + 1, none⟩ = some (.string (L[i]'h).text) ∧ w.cell? ⟨b, i * 4 + 2, none⟩ = some (.int .i64 (L[i]'h).n) ∧ w.cell? ⟨b, i * 4 + 3, none⟩ = some (.int .i64 (L[i]'h).line) := by
  rcases h with ⟨_, h⟩ | ⟨b, cap, h1, _, h2⟩
  · exact absurd h hL
  · exact ⟨b, cap, h1, h2⟩
theorem ColAt.ext {w w' : World} {v : Value} {xs : List Value} (h : ColAt w v xs) (g : Below w.heap.size w w') : ColAt w' v xs := by
  obtain ⟨p, cap, e, h3⟩ := h
  refine ⟨p, cap, e, fun i hi => ?_⟩
  obtain ⟨a, ea, c0⟩ := h3 i hi
  exact ⟨a, ea, (g.cell (cell_lt c0)).trans c0⟩
end Go.Proofs.YtohffidbibichaaDoor
