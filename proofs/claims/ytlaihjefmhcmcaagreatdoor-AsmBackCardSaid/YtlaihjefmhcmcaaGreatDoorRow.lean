/- Rows of structs that the call makes: appended to, read back. -/
import Derived.Test.YtlaihjefmhcmcaaGreatDoorRows
import Derived.WalkKit
import Derived.ProofKit
import Derived.OpenShut
import Derived.WalkLawsBesides
import Derived.WalkSpells
import Derived.Outline
import Derived.Handy
import Derived.Lib.Hide
import Derived.Lib.OthersKept
import Derived.KernelRfl
import Derived.Carry
import Derived.OwnWalk
import Derived.Test.YtlaihjefmhcmcaaGreatDoorAs0
import Derived.Test.YtlaihjefmhcmcaaGreatDoorAsW
namespace Go.Proofs.YtlaihjefmhcmcaaGreatDoor
open Go.ChangeShapes Go.WideShapes Go.ChangeAt Go.RowKit
set_option linter.unusedVariables false
theorem addr_add (g o n : Nat) : (⟨g, o, none⟩ : Addr).add n = ⟨g, o + n, none⟩ := by
  unfold Addr.add
  split
  · rename_i h; subst h; rfl
  · rfl
/-- One element more behind a row of one's own; its cells lie in a block. -/
theorem app_cells {T E : TypeId} {z : Value} {k sz : Nat} (hT : Tryz.prog.underlying T = some (.slice E)) (hinfo : (Tryz.prog.info? E).map (fun i => (i.zero, i.size, i.bytes)) = some (some z, k, sz)) (hz1 : z.cells.size = k) (hk : 0 < k) (hsz : sz ≤ 128)
    {ops : Array Oper} {rest : List Oper} {o : Oper} {a : Act} {Q : Exit → Act → World → Prop} {w : World} (hgd : o.guard = none) (s x : Operand)
    (ho : o.op = .call { callee := .builtin .append, args := #[s, x], argTypes := #[T, T] })
    (base : Nat) (v : Value) (n : Nat) (xs : List Value) (hs : a.eval s = v) (hown : w.ownsRow base E k v n xs)
    (b cap : Nat) (us : List Value) (hlen : us.length = k) (hx : a.eval x = .slice (some ⟨b, 0, none⟩) 1 cap) (hu : w.heap[b]? = some (.cells us.toArray E (0, 0))) (h1 : ∀ u ∈ us, u.oneCell' = true) (hn : n ≤ 1000000) (hbase : base ≤ w.heap.size)
    (h : ∀ v' w', w'.ownsRow base E k v' (n + 1) (xs ++ us) → w.grownBy w' v.ownBlock → wpList Tryz.prog ops Q rest (a.put o.dst v') w') : wpList Tryz.prog ops Q (o :: rest) a w := by
  obtain ⟨i0, hi, iz0, iz1, iz2⟩ := info_parts hinfo
  refine wpList_append_own _ hgd s x T ho base E i0 z k sz hT hi iz0 iz1 iz2 hz1 hk v n xs hs hown ⟨b, 0, none⟩ 1 cap us hx (by omega) ?_ h1 ?_ ?_ hbase fun v' w' k1 k2 _ => h v' w' k1 k2
  · intro j u' hj
    have e : w.cell? ⟨b, j, none⟩ = some u' := by
      rw [cell_row hu]
      simpa using hj
    rw [addr_add, Nat.zero_add]
    exact e
  · unfold maxLen; omega
  · have : (n + 1) * sz ≤ 1000001 * 128 := Nat.mul_le_mul (by omega) hsz
    omega
theorem flat_get {α : Type} (f : α → List Value) (k : Nat) (hf : ∀ x, (f x).length = k) : ∀ (L : List α) (i : Nat) (h : i < L.length) (t : Nat), t < k → (L.flatMap f)[i * k + t]? = (f (L[i]'h))[t]?
  | [], i, h, t, _ => by cases h
  | x :: L, 0, h, t, ht => by
    rw [List.flatMap_cons, Nat.zero_mul, Nat.zero_add, List.getElem?_append_left (by rw [hf]; exact ht)]
    rfl
  | x :: L, i + 1, h, t, ht => by
    have h' : i < L.length := by simpa using h
    rw [List.flatMap_cons, List.getElem?_append_right (by rw [hf, Nat.succ_mul]; omega), hf]
    have e : (i + 1) * k + t - k = i * k + t := by rw [Nat.succ_mul]; omega
    rw [e, flat_get f k hf L i h' t ht]
    rfl
theorem flat_len {α : Type} (f : α → List Value) (k : Nat) (hf : ∀ x, (f x).length = k) (L : List α) : (L.flatMap f).length = L.length * k := by
  induction L with
  | nil => simp
  | cons x L ih => rw [List.flatMap_cons, List.length_append, hf, ih, List.length_cons, Nat.succ_mul, Nat.add_comm]
theorem row_get {α : Type} {f : α → List Value} {k : Nat} (hf : ∀ x, (f x).length = k) (hk : 0 < k) {w : World} {base : Nat} {e : TypeId} {v : Value} {n : Nat} {L : List α} (h : w.ownsRow base e k v n (L.flatMap f)) :
    n = L.length ∧ ∃ p cap, v = .slice p L.length cap ∧ ∀ i (h : i < L.length), ∃ g, p = some ⟨g, 0, none⟩ ∧ base ≤ g ∧ ∀ t, t < k → w.cell? ⟨g, i * k + t, none⟩ = (f (L[i]'h))[t]? := by
  obtain ⟨h1, h2⟩ := h
  rw [flat_len f k hf] at h1
  have hn : n = L.length := Nat.eq_of_mul_eq_mul_right hk h1.symm
  refine ⟨hn, ?_⟩
  rcases h2 with ⟨rfl, rfl⟩ | ⟨g, cap, cur, rfl, hb, hg, _, _, hsz, ht⟩
  · exact ⟨none, 0, by rw [← hn], fun i hi => by omega⟩
  · refine ⟨_, cap, by rw [hn], fun i hi => ⟨g, rfl, hb, fun t htk => ?_⟩⟩
    rw [cell_row hg, ← flat_get f k hf L i hi t htk, ← ht, List.getElem?_take, if_pos, ← Array.getElem?_toList]
    have : (i + 1) * k ≤ n * k := Nat.mul_le_mul_right _ (by omega)
    rw [Nat.succ_mul] at this
    omega
def cellsI (x : In) : List Value := [.int .i64 x.op, .int .i64 x.d, .int .i64 x.a, .int .i64 x.b, .int .i64 x.n, .string (mk x.name)]
def cellsL (l : Ln) : List Value := .string (mk l.label) :: cellsI l.ins
def cellsA (a : Ar) : List Value := [.string (mk a.name), .int .i64 a.size]
def cellsN (n : Int) : List Value := [.int .i64 n]
theorem lenI (x : In) : (cellsI x).length = 6 := rfl
theorem lenL (x : Ln) : (cellsL x).length = 7 := rfl
theorem lenA (x : Ar) : (cellsA x).length = 2 := rfl
theorem lenN (x : Int) : (cellsN x).length = 1 := rfl
theorem oneI (x : In) : ∀ u ∈ cellsI x, u.oneCell' = true := by
  intro u hu
  simp [cellsI] at hu
  rcases hu with rfl | rfl | rfl | rfl | rfl | rfl <;> rfl
theorem oneL (x : Ln) : ∀ u ∈ cellsL x, u.oneCell' = true := by
  intro u hu
  rcases List.mem_cons.1 hu with rfl | h
  · rfl
  · exact oneI _ u h
theorem oneA (x : Ar) : ∀ u ∈ cellsA x, u.oneCell' = true := by
  intro u hu
  simp [cellsA] at hu
  rcases hu with rfl | rfl <;> rfl
theorem oneN (x : Int) : ∀ u ∈ cellsN x, u.oneCell' = true := by
  intro u hu
  simp [cellsN] at hu
  subst hu; rfl
def InAt (w : World) (a : Addr) (x : In) : Prop :=
  w.cell? a = some (.int .i64 x.op) ∧ w.cell? ⟨a.block, a.off + 1, none⟩ = some (.int .i64 x.d) ∧ w.cell? ⟨a.block, a.off + 2, none⟩ = some (.int .i64 x.a) ∧ w.cell? ⟨a.block, a.off + 3, none⟩ = some (.int .i64 x.b) ∧ w.cell? ⟨a.block, a.off + 4, none⟩ = some (.int .i64 x.n) ∧ w.cell? ⟨a.block, a.off + 5, none⟩ = some (.string (mk x.name))
def InsAt (w : World) (v : Value) (L : List In) : Prop :=
  L.length ≤ 9223372036854775807 ∧ ∃ p cap, v = .slice p L.length cap ∧ ∀ i (h : i < L.length), ∃ a, p = some a ∧ InAt w (a.add (i * 6)) (L[i]'h)
def NumsAt (w : World) (v : Value) (L : List Int) : Prop :=
  L.length ≤ 9223372036854775807 ∧ ∃ p cap, v = .slice p L.length cap ∧ ∀ i (h : i < L.length), ∃ a, p = some a ∧ w.cell? (a.add i) = some (.int .i64 (L[i]'h))
theorem InAt.ext {w w' : World} {a : Addr} {x : In} (h : InAt w a x) (g : Below w.heap.size w w') : InAt w' a x := by
  obtain ⟨h1, h2, h3, h4, h5, h6⟩ := h
  exact ⟨(g.cell (at_lt h1)).trans h1, (g.cell (at_lt h2)).trans h2, (g.cell (at_lt h3)).trans h3, (g.cell (at_lt h4)).trans h4, (g.cell (at_lt h5)).trans h5, (g.cell (at_lt h6)).trans h6⟩
theorem InsAt.ext {w w' : World} {v : Value} {L : List In} (h : InsAt w v L) (g : Below w.heap.size w w') : InsAt w' v L := by
  obtain ⟨h1, p, cap, e, h3⟩ := h
  refine ⟨h1, p, cap, e, fun i hi => ?_⟩
  obtain ⟨a, ea, c0⟩ := h3 i hi
  exact ⟨a, ea, c0.ext g⟩
theorem NumsAt.ext {w w' : World} {v : Value} {L : List Int} (h : NumsAt w v L) (g : Below w.heap.size w w') : NumsAt w' v L := by
  obtain ⟨h1, p, cap, e, h3⟩ := h
  refine ⟨h1, p, cap, e, fun i hi => ?_⟩
  obtain ⟨a, ea, c0⟩ := h3 i hi
  exact ⟨a, ea, (g.cell (at_lt c0)).trans c0⟩
theorem row_ins {w : World} {base : Nat} {e : TypeId} {v : Value} {n : Nat} {L : List In} (h : w.ownsRow base e 6 v n (L.flatMap cellsI)) (hL : L.length ≤ 9223372036854775807) : InsAt w v L := by
  obtain ⟨_, p, cap, rfl, h3⟩ := row_get lenI (by decide) h
  refine ⟨hL, p, cap, rfl, fun i hi => ?_⟩
  obtain ⟨g, rfl, _, hg⟩ := h3 i hi
  refine ⟨_, rfl, ?_⟩
  rw [addr_add, Nat.zero_add]
  exact ⟨hg 0 (by decide), hg 1 (by decide), hg 2 (by decide), hg 3 (by decide), hg 4 (by decide), hg 5 (by decide)⟩
theorem row_lns {w : World} {base : Nat} {e : TypeId} {v : Value} {n : Nat} {L : List Ln} (h : w.ownsRow base e 7 v n (L.flatMap cellsL)) (hL : L.length ≤ 9223372036854775807) : LnsAt w v L := by
  obtain ⟨_, p, cap, rfl, h3⟩ := row_get lenL (by decide) h
  refine ⟨hL, p, cap, rfl, fun i hi => ?_⟩
  obtain ⟨g, rfl, _, hg⟩ := h3 i hi
  refine ⟨_, rfl, ?_⟩
  rw [addr_add, Nat.zero_add]
  unfold LnAt
  simp only [addr_add]
  exact ⟨hg 0 (by decide), hg 1 (by decide), hg 2 (by decide), hg 3 (by decide), hg 4 (by decide), hg 5 (by decide), hg 6 (by decide)⟩
theorem row_ars {w : World} {base : Nat} {e : TypeId} {v : Value} {n : Nat} {L : List Ar} (h : w.ownsRow base e 2 v n (L.flatMap cellsA)) (hL : L.length ≤ 9223372036854775807) : ArsAt w v L := by
  obtain ⟨_, p, cap, rfl, h3⟩ := row_get lenA (by decide) h
  refine ⟨hL, p, cap, rfl, fun i hi => ?_⟩
  obtain ⟨g, rfl, _, hg⟩ := h3 i hi
  refine ⟨_, rfl, ?_⟩
  rw [addr_add, Nat.zero_add]
  unfold ArAt
  simp only [addr_add]
  exact ⟨hg 0 (by decide), hg 1 (by decide)⟩
theorem row_nums {w : World} {base : Nat} {e : TypeId} {v : Value} {n : Nat} {L : List Int} (h : w.ownsRow base e 1 v n (L.flatMap cellsN)) (hL : L.length ≤ 9223372036854775807) : NumsAt w v L := by
  obtain ⟨_, p, cap, rfl, h3⟩ := row_get lenN (by decide) h
  refine ⟨hL, p, cap, rfl, fun i hi => ?_⟩
  obtain ⟨g, rfl, _, hg⟩ := h3 i hi
  refine ⟨_, rfl, ?_⟩
  rw [addr_add, Nat.zero_add]
  have := hg 0 (by decide)
  rw [Nat.mul_one] at this
  exact this
theorem infoI : (Tryz.prog.info? 46).map (fun i => (i.zero, i.size, i.bytes)) = some (some (.agg #[.int .i64 0, .int .i64 0, .int .i64 0, .int .i64 0, .int .i64 0, .string ⟨#[]⟩]), 6, 56) := by kernel_rfl
theorem infoL : (Tryz.prog.info? 48).map (fun i => (i.zero, i.size, i.bytes)) = some (some (.agg #[.string ⟨#[]⟩, .int .i64 0, .int .i64 0, .int .i64 0, .int .i64 0, .int .i64 0, .string ⟨#[]⟩]), 7, 72) := by kernel_rfl
theorem infoA : (Tryz.prog.info? 44).map (fun i => (i.zero, i.size, i.bytes)) = some (some (.agg #[.string ⟨#[]⟩, .int .i64 0]), 2, 24) := by kernel_rfl
theorem infoN : (Tryz.prog.info? 3).map (fun i => (i.zero, i.size, i.bytes)) = some (some (.int .i64 0), 1, 8) := by kernel_rfl
theorem own_ne {w : World} {base : Nat} {e : TypeId} {k : Nat} {v : Value} {n : Nat} {xs : List Value} (h : w.ownsRow base e k v n xs) {b : Nat} (hb : b < base) : v.ownBlock ≠ some b := fun hk => by
  have := (h.lt b hk).1
  omega
theorem own_ext {w w' : World} {base : Nat} {e : TypeId} {k : Nat} {v : Value} {n : Nat} {xs : List Value} (h : w.ownsRow base e k v n xs) (g : Below w.heap.size w w') : w'.ownsRow base e k v n xs := by
  refine ⟨h.1, ?_⟩
  rcases h.2 with h | ⟨g0, cap, cur, h1, h2, h3, h4⟩
  · exact .inl h
  · exact .inr ⟨g0, cap, cur, h1, h2, (g.block g0 (Array.getElem?_eq_some_iff.1 h3).1).trans h3, h4⟩
theorem own_base {w : World} {base base' : Nat} {e : TypeId} {k : Nat} {v : Value} {n : Nat} {xs : List Value} (h : w.ownsRow base e k v n xs) (hb : base' ≤ base) : w.ownsRow base' e k v n xs := by
  refine ⟨h.1, ?_⟩
  rcases h.2 with h | ⟨g0, cap, cur, h1, h2, h3⟩
  · exact .inl h
  · exact .inr ⟨g0, cap, cur, h1, by omega, h3⟩
theorem map_kept {w w' : World} {b n : Nat} {F : List UInt8 → Option Int} (h : IMap w b n F) {r : Option Nat} (g : w.grownBy w' r) (hr : r ≠ some b) : IMap w' b n F := h.same (g.block b h.lt (fun e => hr e.symm))
theorem below_grown {B : Nat} {a w w' : World} {r : Option Nat} (h : Below B a w) (g : w.grownBy w' r) (hB : B ≤ w.heap.size) (hr : ∀ k, r = some k → B ≤ k) : Below B a w' := h.grown g hB hr
end Go.Proofs.YtlaihjefmhcmcaaGreatDoor
