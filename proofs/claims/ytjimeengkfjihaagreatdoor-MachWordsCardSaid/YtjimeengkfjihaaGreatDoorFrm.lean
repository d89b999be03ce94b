/- Blocks of the call that others write into: what stays as it was beside them. -/
import Derived.Test.YtjimeengkfjihaaGreatDoorRows
import Derived.WalkKit
import Derived.ProofKit
import Derived.OpenShut
import Derived.WalkLawsBesides
import Derived.WalkSpells
import Derived.Handy
import Derived.Lib.Hide
import Derived.Lib.OthersKept
import Derived.KernelRfl
import Derived.Carry
import Derived.OwnWalk
import Derived.Maps.AppendAt
import Derived.Test.YtjimeengkfjihaaGreatDoorRow
import Derived.Test.YtjimeengkfjihaaGreatDoorAsO
namespace Go.Proofs.YtjimeengkfjihaaGreatDoor
open Go.ChangeShapes Go.WideShapes Go.ChangeAt Go.RowKit
set_option linter.unusedVariables false
/-- Blocks below S, but for those of X, are as they were. -/
structure Fr (S : Nat) (X : Nat → Prop) (a w : World) : Prop where
  size : S ≤ w.heap.size
  block : ∀ b, b < S → ¬ X b → w.heap[b]? = a.heap[b]?
theorem Fr.refl {S : Nat} {X : Nat → Prop} {a : World} (h : S ≤ a.heap.size) : Fr S X a a := ⟨h, fun _ _ _ => rfl⟩
theorem Fr.ext {S : Nat} {X : Nat → Prop} {a w w' : World} (h : Fr S X a w) (g : Below w.heap.size w w') : Fr S X a w' :=
  ⟨Nat.le_trans h.size g.size, fun b hb hx => (g.block b (Nat.lt_of_lt_of_le hb h.size)).trans (h.block b hb hx)⟩
theorem Fr.trans {S : Nat} {X : Nat → Prop} {a w w' : World} (h : Fr S X a w) (g : Fr S X w w') : Fr S X a w' :=
  ⟨g.size, fun b hb hx => (g.block b hb hx).trans (h.block b hb hx)⟩
theorem Fr.alloc {S : Nat} {X : Nat → Prop} {a w : World} (h : Fr S X a w) (o : Obj) : Fr S X a (w.alloc o) := h.ext (ext_alloc (Below.refl _ _) o)
theorem Fr.drew {S : Nat} {X : Nat → Prop} {a w : World} (h : Fr S X a w) : Fr S X a w.drew := h.ext (ext_drew (Below.refl _ _))
theorem Fr.drewN {S : Nat} {X : Nat → Prop} {a w : World} (h : Fr S X a w) (n : Nat) : Fr S X a (w.drewN n) := h.ext (ext_drewN (Below.refl _ _) n)
theorem Fr.set {S : Nat} {X : Nat → Prop} {a w : World} (h : Fr S X a w) {b o : Nat} (hb : X b ∨ S ≤ b) (v : Value) : Fr S X a (w.setCell ⟨b, o, none⟩ v) :=
  ⟨by have := (Below.refl 0 w).setCell (p := ⟨b, o, none⟩) (Nat.zero_le _) v; exact Nat.le_trans h.size this.size, fun k hk hx => (heap_setCell_other _ _ _ _ (by
    show k ≠ b
    intro e
    subst e
    rcases hb with hb | hb
    · exact hx hb
    · omega)).trans (h.block k hk hx)⟩
theorem Fr.grown {S : Nat} {X : Nat → Prop} {a w w' : World} (h : Fr S X a w) {r : Option Nat} (g : w.grownBy w' r) (hr : ∀ k, r = some k → X k ∨ S ≤ k) : Fr S X a w' :=
  ⟨Nat.le_trans h.size g.size, fun b hb hx => (g.block b (Nat.lt_of_lt_of_le hb h.size) (fun e => by
    rcases hr b e.symm with k | k
    · exact hx k
    · omega)).trans (h.block b hb hx)⟩
theorem Fr.own {S : Nat} {X : Nat → Prop} {a w : World} (f : Fr S X a w) {base : Nat} {e : TypeId} {k : Nat} {v : Value} {n : Nat} {xs : List Value} (h : a.ownsRow base e k v n xs) (hb : ∀ b, v.ownBlock = some b → b < S ∧ ¬ X b) : w.ownsRow base e k v n xs := by
  refine ⟨h.1, ?_⟩
  rcases h.2 with h | ⟨g0, cap, cur, h1, h2, h3, h4⟩
  · exact .inl h
  · have := hb g0 (by rw [h1]; rfl)
    exact .inr ⟨g0, cap, cur, h1, h2, (f.block g0 this.1 this.2).trans h3, h4⟩
theorem Fr.cell {S : Nat} {X : Nat → Prop} {a w : World} (f : Fr S X a w) {b o : Nat} {v : Value} (h : a.cell? ⟨b, o, none⟩ = some v) (hb : b < S) (hx : ¬ X b) : w.cell? ⟨b, o, none⟩ = some v := by
  have e := f.block b hb hx
  unfold World.cell? at h ⊢
  simp only at h ⊢
  rw [e]
  exact h
theorem Fr.heap {S : Nat} {X : Nat → Prop} {a w : World} (f : Fr S X a w) {b : Nat} {o : Obj} (h : a.heap[b]? = some o) (hb : b < S) (hx : ¬ X b) : w.heap[b]? = some o := (f.block b hb hx).trans h
/-- Lines behind a row of one's own. -/
theorem app_lines {ops : Array Oper} {rest : List Oper} {o : Oper} {a : Act} {Q : Exit → Act → World → Prop} {w : World} (hgd : o.guard = none) (s x : Operand)
    (ho : o.op = .call { callee := .builtin .append, args := #[s, x], argTypes := #[22, 22] })
    (base : Nat) (v : Value) (n : Nat) (X : List Ln) (hs : a.eval s = v) (hown : w.ownsRow base 41 7 v n (X.flatMap cellsL))
    (ad : Addr) (m c : Nat) (L : List Ln) (hx : a.eval x = .slice (some ad) m c) (hL : L.length = m) (hnews : ∀ j u, (L.flatMap cellsL)[j]? = some u → w.cell? (ad.add j) = some u)
    (n' : Nat) (hn' : n + m = n') (hn : n + m ≤ 1000000) (hbase : base ≤ w.heap.size)
    (h : ∀ p cap w', w'.ownsRow base 41 7 (.slice p n' cap) n' ((X ++ L).flatMap cellsL) → w.grownBy w' v.ownBlock → (Value.ownBlock (.slice p n' cap) = v.ownBlock ∨ Value.ownBlock (.slice p n' cap) = some w.heap.size) → wpList Tryz.prog ops Q rest (a.put o.dst (.slice p n' cap)) w') : wpList Tryz.prog ops Q (o :: rest) a w := by
  subst hn'
  obtain ⟨i0, hi0, hz0, hz1, hz2⟩ := info_parts infoL
  refine wpList_append_own_at w hgd s x 22 ho base 41 i0 _ 7 72 Tryz.underlying22 hi0 hz0 hz1 hz2 rfl (by omega) v n _ hs hown ad m c (L.flatMap cellsL) hx (by rw [flat_len cellsL 7 lenL, hL]) hnews (fun u hu => by
    obtain ⟨l, _, hu⟩ := List.mem_flatMap.1 hu
    exact oneL l u hu) (by unfold maxLen; omega) (by omega) hbase ?_
  intro v' w' k1 k2 _ k3
  rw [← List.flatMap_append] at k1
  obtain ⟨p, cap, rfl⟩ := own_slice k1
  exact h p cap w' k1 k2 k3
theorem one_ln (x : Ln) : [x].flatMap cellsL = cellsL x := by simp
/-- A block of one line is a row of one's own. -/
theorem own_one {w : World} {g base : Nat} {l : Ln} (h : w.heap[g]? = some (.cells (cellsL l).toArray 41 (0, 0))) (hb : base ≤ g) : w.ownsRow base 41 7 (.slice (some ⟨g, 0, none⟩) 1 1) 1 ([l].flatMap cellsL) :=
  ⟨by rw [flat_len cellsL 7 lenL]; rfl, .inr ⟨g, 1, _, rfl, hb, h, Nat.le_refl _, by unfold maxLen; omega, rfl, by simp [cellsL, cellsI]⟩⟩
end Go.Proofs.YtjimeengkfjihaaGreatDoor
