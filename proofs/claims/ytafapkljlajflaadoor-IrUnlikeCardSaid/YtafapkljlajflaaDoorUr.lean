/- Rows in memory: those that the call makes, and those that it reads, rows in rows too. -/
import Derived.Test.YtafapkljlajflaaDoorRows
import Derived.WalkKit
import Derived.ProofKit
import Derived.OpenShut
import Derived.WalkLawsBesides
import Derived.WalkSpells
import Derived.Outline
import Derived.Handy
import Derived.Lib.Hide
import Derived.Lib.OthersKept
import Derived.KernelRfl
import Derived.Carry
import Derived.OwnWalk
import Derived.Maps.AppendAt
import Derived.Test.YtafapkljlajflaaDoorUa
namespace Go.Proofs.YtafapkljlajflaaDoor
open Go.ChangeShapes Go.WideShapes Go.ChangeAt Go.RowKit
set_option linter.unusedVariables false
theorem addr_add (g o n : Nat) : (⟨g, o, none⟩ : Addr).add n = ⟨g, o + n, none⟩ := by
  unfold Addr.add
  split
  · rename_i h; subst h; rfl
  · rfl
theorem add_block (a : Addr) (n : Nat) : (a.add n).block = a.block := by unfold Addr.add; split <;> rfl
theorem heap_new' (w : World) (o : Obj) (k : Nat) (h : k = w.heap.size) : (w.alloc o).heap[k]? = some o := by subst h; exact heap_new w o
theorem cell_lt {w : World} {a : Addr} {v : Value} (h : w.cell? a = some v) : a.block < w.heap.size := by
  rcases Nat.lt_or_ge a.block w.heap.size with h' | h'
  · exact h'
  · simp [World.cell?, Array.getElem?_eq_none h'] at h
theorem cell_ext {w w' : World} {a : Addr} {v : Value} (h : w.cell? a = some v) (b : Below w.heap.size w w') : w'.cell? a = some v := (b.cell (p := a) (cell_lt h)).trans h
theorem cell_alloc {w : World} {p : Addr} {v : Value} (h : w.cell? p = some v) (o : Obj) : (w.alloc o).cell? p = some v := cell_ext h (ext_alloc (Below.refl _ _) o)
theorem two_cells {w : World} {b : Nat} {v0 v1 : Value} {t : TypeId} (h : w.heap[b]? = some (.cells #[v0, v1] t (0, 0))) : w.cell? ⟨b, 0, none⟩ = some v0 ∧ w.cell? ⟨b, 1, none⟩ = some v1 := by
  simp [World.cell?, h]
theorem two_frozen {w : World} {b : Nat} {v0 v1 : Value} {t : TypeId} (h : w.heap[b]? = some (.cells #[v0, v1] t (0, 0))) : w.frozen? ⟨b, 0, none⟩ = false ∧ w.frozen? ⟨b, 1, none⟩ = false := by simp [World.frozen?, h]
/-- One element more behind a row of one's own; its cells lie in a block. -/
theorem app_cells {T E : TypeId} {z : Value} {k sz : Nat} (hT : Tryd.prog.underlying T = some (.slice E)) (hinfo : (Tryd.prog.info? E).map (fun i => (i.zero, i.size, i.bytes)) = some (some z, k, sz)) (hz1 : z.cells.size = k) (hk : 0 < k) (hsz : sz ≤ 128)
    {ops : Array Oper} {rest : List Oper} {o : Oper} {a : Act} {Q : Exit → Act → World → Prop} {w : World} (hgd : o.guard = none) (s x : Operand)
    (ho : o.op = .call { callee := .builtin .append, args := #[s, x], argTypes := #[T, T] })
    (base : Nat) (v : Value) (n : Nat) (xs : List Value) (hs : a.eval s = v) (hown : w.ownsRow base E k v n xs)
    (b cap : Nat) (us : List Value) (hlen : us.length = k) (hx : a.eval x = .slice (some ⟨b, 0, none⟩) 1 cap) (hu : w.heap[b]? = some (.cells us.toArray E (0, 0))) (h1 : ∀ u ∈ us, u.oneCell' = true) (hn : n ≤ 1000000) (hbase : base ≤ w.heap.size)
    (h : ∀ v' w', w'.ownsRow base E k v' (n + 1) (xs ++ us) → w.grownBy w' v.ownBlock → wpList Tryd.prog ops Q rest (a.put o.dst v') w') : wpList Tryd.prog ops Q (o :: rest) a w := by
  obtain ⟨i0, hi, iz0, iz1, iz2⟩ := info_parts hinfo
  refine wpList_append_own _ hgd s x T ho base E i0 z k sz hT hi iz0 iz1 iz2 hz1 hk v n xs hs hown ⟨b, 0, none⟩ 1 cap us hx (by omega) ?_ h1 ?_ ?_ hbase fun v' w' k1 k2 _ => h v' w' k1 k2
  · intro j u' hj
    have e : w.cell? ⟨b, j, none⟩ = some u' := by
      rw [cell_row hu]
      simpa using hj
    rw [addr_add, Nat.zero_add]
    exact e
  · unfold maxLen; omega
  · have : (n + 1) * sz ≤ 1000001 * 128 := Nat.mul_le_mul (by omega) hsz
    omega
theorem flat_get {α : Type} (f : α → List Value) (k : Nat) (hf : ∀ x, (f x).length = k) : ∀ (L : List α) (i : Nat) (h : i < L.length) (t : Nat), t < k → (L.flatMap f)[i * k + t]? = (f (L[i]'h))[t]?
  | [], i, h, t, _ => by cases h
  | x :: L, 0, h, t, ht => by
    rw [List.flatMap_cons, Nat.zero_mul, Nat.zero_add, List.getElem?_append_left (by rw [hf]; exact ht)]
    rfl
  | x :: L, i + 1, h, t, ht => by
    have h' : i < L.length := by simpa using h
    rw [List.flatMap_cons, List.getElem?_append_right (by rw [hf, Nat.succ_mul]; omega), hf]
    have e : (i + 1) * k + t - k = i * k + t := by rw [Nat.succ_mul]; omega
    rw [e, flat_get f k hf L i h' t ht]
    rfl
theorem flat_len {α : Type} (f : α → List Value) (k : Nat) (hf : ∀ x, (f x).length = k) (L : List α) : (L.flatMap f).length = L.length * k := by
  induction L with
  | nil => simp
  | cons x L ih => rw [List.flatMap_cons, List.length_append, hf, ih, List.length_cons, Nat.succ_mul, Nat.add_comm]
theorem row_get {α : Type} {f : α → List Value} {k : Nat} (hf : ∀ x, (f x).length = k) (hk : 0 < k) {w : World} {base : Nat} {e : TypeId} {v : Value} {n : Nat} {L : List α} (h : w.ownsRow base e k v n (L.flatMap f)) :
    n = L.length ∧ ∃ p cap, v = .slice p L.length cap ∧ ∀ i (h : i < L.length), ∃ g, p = some ⟨g, 0, none⟩ ∧ base ≤ g ∧ v.ownBlock = some g ∧ ∀ t, t < k → w.cell? ⟨g, i * k + t, none⟩ = (f (L[i]'h))[t]? := by
  obtain ⟨h1, h2⟩ := h
  rw [flat_len f k hf] at h1
  have hn : n = L.length := Nat.eq_of_mul_eq_mul_right hk h1.symm
  refine ⟨hn, ?_⟩
  rcases h2 with ⟨rfl, rfl⟩ | ⟨g, cap, cur, rfl, hb, hg, _, _, hsz, ht⟩
  · exact ⟨none, 0, by rw [← hn], fun i hi => by omega⟩
  · refine ⟨_, cap, by rw [hn], fun i hi => ⟨g, rfl, hb, rfl, fun t htk => ?_⟩⟩
    rw [cell_row hg, ← flat_get f k hf L i hi t htk, ← ht, List.getElem?_take, if_pos, ← Array.getElem?_toList]
    have : (i + 1) * k ≤ n * k := Nat.mul_le_mul_right _ (by omega)
    rw [Nat.succ_mul] at this
    omega
theorem own_ne {w : World} {base : Nat} {e : TypeId} {k : Nat} {v : Value} {n : Nat} {xs : List Value} (h : w.ownsRow base e k v n xs) {b : Nat} (hb : b < base) : v.ownBlock ≠ some b := fun hk => by
  have := (h.lt b hk).1
  omega
theorem own_ext {w w' : World} {base : Nat} {e : TypeId} {k : Nat} {v : Value} {n : Nat} {xs : List Value} (h : w.ownsRow base e k v n xs) (g : Below w.heap.size w w') : w'.ownsRow base e k v n xs := by
  refine ⟨h.1, ?_⟩
  rcases h.2 with h | ⟨g0, cap, cur, h1, h2, h3, h4⟩
  · exact .inl h
  · exact .inr ⟨g0, cap, cur, h1, h2, (g.block g0 (Array.getElem?_eq_some_iff.1 h3).1).trans h3, h4⟩
theorem own_base {w : World} {base base' : Nat} {e : TypeId} {k : Nat} {v : Value} {n : Nat} {xs : List Value} (h : w.ownsRow base e k v n xs) (hb : base' ≤ base) : w.ownsRow base' e k v n xs := by
  refine ⟨h.1, ?_⟩
  rcases h.2 with h | ⟨g0, cap, cur, h1, h2, h3⟩
  · exact .inl h
  · exact .inr ⟨g0, cap, cur, h1, by omega, h3⟩
theorem own_slice {w : World} {base : Nat} {e : TypeId} {k : Nat} {v : Value} {n : Nat} {xs : List Value} (h : w.ownsRow base e k v n xs) : ∃ a cap, v = .slice a n cap := by
  rcases h.2 with ⟨rfl, rfl⟩ | ⟨g, cap, cur, rfl, _⟩
  · exact ⟨_, _, rfl⟩
  · exact ⟨_, _, rfl⟩
theorem own_apart {w : World} {base base' : Nat} {e e' : TypeId} {k k' : Nat} {v v' : Value} {n n' : Nat} {xs xs' : List Value} (h : w.ownsRow base e k v n xs) (h' : w.ownsRow base' e' k' v' n' xs') (he : e' ≠ e) : v'.ownBlock = none ∨ v'.ownBlock ≠ v.ownBlock := by
  rcases h'.2 with ⟨rfl, _⟩ | ⟨g', cap', cur', rfl, _, hg', _⟩
  · exact .inl rfl
  · refine .inr fun hk => ?_
    rcases h.2 with ⟨rfl, _⟩ | ⟨g, cap, cur, rfl, _, hg, _⟩
    · cases hk
    · injection hk with hk
      have hk2 : g' = g := hk
      rw [hk2, hg] at hg'
      injection hg' with hg'
      injection hg' with _ h2 _
      exact he h2.symm
theorem own_set {w : World} {base : Nat} {e : TypeId} {k : Nat} {v : Value} {n : Nat} {xs : List Value} (h : w.ownsRow base e k v n xs) {b o : Nat} {x : Value} (hb : b < base) : (w.setCell ⟨b, o, none⟩ x).ownsRow base e k v n xs := by
  refine ⟨h.1, ?_⟩
  rcases h.2 with h | ⟨g0, cap, cur, h1, h2, h3, h4⟩
  · exact .inl h
  · exact .inr ⟨g0, cap, cur, h1, h2, (heap_setCell_other _ _ _ _ (by show g0 ≠ b; omega)).trans h3, h4⟩
theorem grown_after {w0 w w' : World} {r : Option Nat} (h : w.grownBy w' r) (g : Below w0.heap.size w0 w) : w0.grownBy w' r :=
  ⟨h.os.trans g.os, h.tape.trans g.tape, h.output.trans g.output, by have := h.size; have := g.size; omega, fun k hk hr => (h.block k (by have := g.size; omega) hr).trans (g.block k hk)⟩
theorem below_grown {B : Nat} {a w w' : World} {r : Option Nat} (h : Below B a w) (g : w.grownBy w' r) (hB : B ≤ w.heap.size) (hr : ∀ k, r = some k → B ≤ k) : Below B a w' := h.grown g hB hr
/-! What is read; A says of which blocks. -/
def Kept (A : Nat → Prop) (w w' : World) : Prop := ∀ b, A b → b < w.heap.size → w'.heap[b]? = w.heap[b]?
theorem kept_below {A : Nat → Prop} {w w' : World} (g : Below w.heap.size w w') : Kept A w w' := fun b _ h => g.block b h
theorem kept_grown {A : Nat → Prop} {w w' : World} {r : Option Nat} (g : w.grownBy w' r) (hr : ∀ b, r = some b → ¬ A b) : Kept A w w' := fun b ha h => g.block b h (fun e => hr b e.symm ha)
theorem kept_set {A : Nat → Prop} {w : World} {p : Addr} {v : Value} (hp : ¬ A p.block) : Kept A w (w.setCell p v) := fun b ha h => heap_setCell_other _ _ _ _ (fun e => hp (e ▸ ha))
theorem kept_trans {A : Nat → Prop} {a b c : World} (h : Kept A a b) (k : Kept A b c) (hs : a.heap.size ≤ b.heap.size) : Kept A a c := fun x hx hl => (k x hx (by omega)).trans (h x hx hl)
theorem Kept.cell {A : Nat → Prop} {w w' : World} (k : Kept A w w') {a : Addr} {v : Value} (ha : A a.block) (h : w.cell? a = some v) : w'.cell? a = some v :=
  (World.cell?_of_block (k _ ha (cell_lt h))).trans h
def RowAt {α : Type} (k : Nat) (P : (Nat → Prop) → World → Addr → α → Prop) (A : Nat → Prop) (w : World) (v : Value) (L : List α) : Prop :=
  L.length ≤ 9223372036854775807 ∧ ∃ p cap, v = .slice p L.length cap ∧ ∀ i (h : i < L.length), ∃ a, p = some a ∧ A a.block ∧ P A w (a.add (i * k)) (L[i]'h)
theorem RowAt.kept {α : Type} {k : Nat} {P : (Nat → Prop) → World → Addr → α → Prop} (hP : ∀ {A w w' a x}, P A w a x → A a.block → Kept A w w' → P A w' a x) {A : Nat → Prop} {w w' : World} {v : Value} {L : List α} (h : RowAt k P A w v L) (g : Kept A w w') : RowAt k P A w' v L := by
  obtain ⟨h1, p, cap, e, h3⟩ := h
  refine ⟨h1, p, cap, e, fun i hi => ?_⟩
  obtain ⟨a, ea, ha, c0⟩ := h3 i hi
  exact ⟨a, ea, ha, hP c0 (by rw [add_block]; exact ha) g⟩
theorem RowAt.wide {α : Type} {k : Nat} {P : (Nat → Prop) → World → Addr → α → Prop} {A B : Nat → Prop} (hAB : ∀ b, A b → B b) (hP : ∀ {w a x}, P A w a x → P B w a x) {w : World} {v : Value} {L : List α} (h : RowAt k P A w v L) : RowAt k P B w v L := by
  obtain ⟨h1, p, cap, e, h3⟩ := h
  refine ⟨h1, p, cap, e, fun i hi => ?_⟩
  obtain ⟨a, ea, ha, c0⟩ := h3 i hi
  exact ⟨a, ea, hAB _ ha, hP c0⟩
theorem RowAt.nil {α : Type} {k : Nat} {P : (Nat → Prop) → World → Addr → α → Prop} {A : Nat → Prop} {w : World} {p : Option Addr} {cap : Nat} : RowAt k P A w (.slice p 0 cap) ([] : List α) :=
  ⟨by simp, p, cap, rfl, fun i h => by cases h⟩
def NmAt (A : Nat → Prop) (w : World) (a : Addr) (n : Int) : Prop := w.cell? a = some (.int .i64 n)
abbrev NumsAt := RowAt 1 NmAt
def ArAt (A : Nat → Prop) (w : World) (a : Addr) (x : Ar) : Prop := w.cell? a = some (.string (mk x.name)) ∧ w.cell? ⟨a.block, a.off + 1, none⟩ = some (.int .i64 x.size)
abbrev ArsAt := RowAt 2 ArAt
def XnAt (A : Nat → Prop) (w : World) (a : Addr) (x : Xn) : Prop :=
  w.cell? a = some (.int .i64 x.kind) ∧ w.cell? ⟨a.block, a.off + 1, none⟩ = some (.int .i64 x.d) ∧ w.cell? ⟨a.block, a.off + 2, none⟩ = some (.int .i64 x.a) ∧ w.cell? ⟨a.block, a.off + 3, none⟩ = some (.int .i64 x.b) ∧ w.cell? ⟨a.block, a.off + 4, none⟩ = some (.int .i64 x.op) ∧ w.cell? ⟨a.block, a.off + 5, none⟩ = some (.int .i64 x.n) ∧ w.cell? ⟨a.block, a.off + 6, none⟩ = some (.string (mk x.name)) ∧ ∃ v, w.cell? ⟨a.block, a.off + 7, none⟩ = some v ∧ NumsAt A w v x.args
abbrev XnsAt := RowAt 8 XnAt
def BkAt (A : Nat → Prop) (w : World) (a : Addr) (b : Bk) : Prop :=
  (∃ v, w.cell? a = some v ∧ XnsAt A w v b.ins) ∧ w.cell? ⟨a.block, a.off + 1, none⟩ = some (.int .i64 b.term.kind) ∧ w.cell? ⟨a.block, a.off + 2, none⟩ = some (.int .i64 b.term.a) ∧ w.cell? ⟨a.block, a.off + 3, none⟩ = some (.int .i64 b.term.to) ∧ w.cell? ⟨a.block, a.off + 4, none⟩ = some (.int .i64 b.term.els)
abbrev BksAt := RowAt 5 BkAt
def FlAt (A : Nat → Prop) (w : World) (a : Addr) (f : Fl) : Prop :=
  w.cell? a = some (.string (mk f.name)) ∧ w.cell? ⟨a.block, a.off + 1, none⟩ = some (.int .i64 f.params) ∧ w.cell? ⟨a.block, a.off + 2, none⟩ = some (.int .i64 f.values) ∧ ∃ v, w.cell? ⟨a.block, a.off + 3, none⟩ = some v ∧ BksAt A w v f.blocks
abbrev FlsAt := RowAt 4 FlAt
/-- A value is a unit: its arrays' row, its functions' row. -/
def UnAt (A : Nat → Prop) (w : World) (v : Value) (u : Un) : Prop := ∃ va vf, v = .agg #[va, vf] ∧ ArsAt A w va u.arrays ∧ FlsAt A w vf u.flows
theorem nm_kept {A : Nat → Prop} {w w' : World} {a : Addr} {x : Int} (h : NmAt A w a x) (ha : A a.block) (g : Kept A w w') : NmAt A w' a x := g.cell ha h
theorem ar_kept {A : Nat → Prop} {w w' : World} {a : Addr} {x : Ar} (h : ArAt A w a x) (ha : A a.block) (g : Kept A w w') : ArAt A w' a x := ⟨g.cell ha h.1, g.cell ha h.2⟩
theorem xn_kept {A : Nat → Prop} {w w' : World} {a : Addr} {x : Xn} (h : XnAt A w a x) (ha : A a.block) (g : Kept A w w') : XnAt A w' a x := by
  obtain ⟨h0, h1, h2, h3, h4, h5, h6, v, h7, h8⟩ := h
  exact ⟨g.cell ha h0, g.cell ha h1, g.cell ha h2, g.cell ha h3, g.cell ha h4, g.cell ha h5, g.cell ha h6, v, g.cell ha h7, RowAt.kept (P := NmAt) nm_kept h8 g⟩
theorem bk_kept {A : Nat → Prop} {w w' : World} {a : Addr} {x : Bk} (h : BkAt A w a x) (ha : A a.block) (g : Kept A w w') : BkAt A w' a x := by
  obtain ⟨⟨v, h0, h8⟩, h1, h2, h3, h4⟩ := h
  exact ⟨⟨v, g.cell ha h0, RowAt.kept (P := XnAt) xn_kept h8 g⟩, g.cell ha h1, g.cell ha h2, g.cell ha h3, g.cell ha h4⟩
theorem fl_kept {A : Nat → Prop} {w w' : World} {a : Addr} {x : Fl} (h : FlAt A w a x) (ha : A a.block) (g : Kept A w w') : FlAt A w' a x := by
  obtain ⟨h0, h1, h2, v, h3, h4⟩ := h
  exact ⟨g.cell ha h0, g.cell ha h1, g.cell ha h2, v, g.cell ha h3, RowAt.kept (P := BkAt) bk_kept h4 g⟩
theorem UnAt.kept {A : Nat → Prop} {w w' : World} {v : Value} {u : Un} (h : UnAt A w v u) (g : Kept A w w') : UnAt A w' v u := by
  obtain ⟨va, vf, e, h1, h2⟩ := h
  exact ⟨va, vf, e, RowAt.kept (P := ArAt) ar_kept h1 g, RowAt.kept (P := FlAt) fl_kept h2 g⟩
theorem UnAt.ext {A : Nat → Prop} {w w' : World} {v : Value} {u : Un} (h : UnAt A w v u) (g : Below w.heap.size w w') : UnAt A w' v u := h.kept (kept_below g)
theorem nums_kept {A : Nat → Prop} {w w' : World} {v : Value} {L : List Int} (h : NumsAt A w v L) (g : Kept A w w') : NumsAt A w' v L := RowAt.kept (P := NmAt) nm_kept h g
theorem ars_kept {A : Nat → Prop} {w w' : World} {v : Value} {L : List Ar} (h : ArsAt A w v L) (g : Kept A w w') : ArsAt A w' v L := RowAt.kept (P := ArAt) ar_kept h g
theorem xns_kept {A : Nat → Prop} {w w' : World} {v : Value} {L : List Xn} (h : XnsAt A w v L) (g : Kept A w w') : XnsAt A w' v L := RowAt.kept (P := XnAt) xn_kept h g
theorem bks_kept {A : Nat → Prop} {w w' : World} {v : Value} {L : List Bk} (h : BksAt A w v L) (g : Kept A w w') : BksAt A w' v L := RowAt.kept (P := BkAt) bk_kept h g
theorem fls_kept {A : Nat → Prop} {w w' : World} {v : Value} {L : List Fl} (h : FlsAt A w v L) (g : Kept A w w') : FlsAt A w' v L := RowAt.kept (P := FlAt) fl_kept h g
theorem xn_wide {A B : Nat → Prop} (hAB : ∀ b, A b → B b) {w : World} {a : Addr} {x : Xn} (h : XnAt A w a x) : XnAt B w a x := by
  obtain ⟨h0, h1, h2, h3, h4, h5, h6, v, h7, h8⟩ := h
  exact ⟨h0, h1, h2, h3, h4, h5, h6, v, h7, RowAt.wide (P := NmAt) hAB (fun h => h) h8⟩
theorem bk_wide {A B : Nat → Prop} (hAB : ∀ b, A b → B b) {w : World} {a : Addr} {x : Bk} (h : BkAt A w a x) : BkAt B w a x := by
  obtain ⟨⟨v, h0, h8⟩, h1, h2, h3, h4⟩ := h
  exact ⟨⟨v, h0, RowAt.wide (P := XnAt) hAB (xn_wide hAB) h8⟩, h1, h2, h3, h4⟩
theorem fl_wide {A B : Nat → Prop} (hAB : ∀ b, A b → B b) {w : World} {a : Addr} {x : Fl} (h : FlAt A w a x) : FlAt B w a x := by
  obtain ⟨h0, h1, h2, v, h3, h4⟩ := h
  exact ⟨h0, h1, h2, v, h3, RowAt.wide (P := BkAt) hAB (bk_wide hAB) h4⟩
theorem nums_wide {A B : Nat → Prop} (hAB : ∀ b, A b → B b) {w : World} {v : Value} {L : List Int} (h : NumsAt A w v L) : NumsAt B w v L := RowAt.wide (P := NmAt) hAB (fun h => h) h
theorem xns_wide {A B : Nat → Prop} (hAB : ∀ b, A b → B b) {w : World} {v : Value} {L : List Xn} (h : XnsAt A w v L) : XnsAt B w v L := RowAt.wide (P := XnAt) hAB (xn_wide hAB) h
theorem bks_wide {A B : Nat → Prop} (hAB : ∀ b, A b → B b) {w : World} {v : Value} {L : List Bk} (h : BksAt A w v L) : BksAt B w v L := RowAt.wide (P := BkAt) hAB (bk_wide hAB) h
theorem fls_wide {A B : Nat → Prop} (hAB : ∀ b, A b → B b) {w : World} {v : Value} {L : List Fl} (h : FlsAt A w v L) : FlsAt B w v L := RowAt.wide (P := FlAt) hAB (fl_wide hAB) h
/-! Cells of what is appended: an inner row stands there as a slice. -/
def cellsA (a : Ar) : List Value := [.string (mk a.name), .int .i64 a.size]
def cellsN (n : Int) : List Value := [.int .i64 n]
def cellsX (c : Xn × Value) : List Value := [.int .i64 c.1.kind, .int .i64 c.1.d, .int .i64 c.1.a, .int .i64 c.1.b, .int .i64 c.1.op, .int .i64 c.1.n, .string (mk c.1.name), c.2]
def cellsB (c : Bk × Value) : List Value := [c.2, .int .i64 c.1.term.kind, .int .i64 c.1.term.a, .int .i64 c.1.term.to, .int .i64 c.1.term.els]
def cellsF (c : Fl × Value) : List Value := [.string (mk c.1.name), .int .i64 c.1.params, .int .i64 c.1.values, c.2]
theorem lenA (x : Ar) : (cellsA x).length = 2 := rfl
theorem lenN (x : Int) : (cellsN x).length = 1 := rfl
theorem lenX (x : Xn × Value) : (cellsX x).length = 8 := rfl
theorem lenB (x : Bk × Value) : (cellsB x).length = 5 := rfl
theorem lenF (x : Fl × Value) : (cellsF x).length = 4 := rfl
theorem oneN (x : Int) : ∀ u ∈ cellsN x, u.oneCell' = true := by
  intro u hu
  simp [cellsN] at hu
  subst hu; rfl
theorem oneA (x : Ar) : ∀ u ∈ cellsA x, u.oneCell' = true := by
  intro u hu
  simp [cellsA] at hu
  rcases hu with rfl | rfl <;> rfl
theorem oneX (x : Xn) {p : Option Addr} {n c : Nat} : ∀ u ∈ cellsX (x, .slice p n c), u.oneCell' = true := by
  intro u hu
  simp [cellsX] at hu
  rcases hu with rfl | rfl | rfl | rfl | rfl | rfl | rfl | rfl <;> rfl
theorem oneB (x : Bk) {p : Option Addr} {n c : Nat} : ∀ u ∈ cellsB (x, .slice p n c), u.oneCell' = true := by
  intro u hu
  simp [cellsB] at hu
  rcases hu with rfl | rfl | rfl | rfl | rfl <;> rfl
theorem oneF (x : Fl) {p : Option Addr} {n c : Nat} : ∀ u ∈ cellsF (x, .slice p n c), u.oneCell' = true := by
  intro u hu
  simp [cellsF] at hu
  rcases hu with rfl | rfl | rfl | rfl <;> rfl
theorem row_slice {α : Type} {k : Nat} {P : (Nat → Prop) → World → Addr → α → Prop} {A : Nat → Prop} {w : World} {v : Value} {L : List α} (h : RowAt k P A w v L) : ∃ p cap, v = .slice p L.length cap := by
  obtain ⟨_, p, cap, e, _⟩ := h
  exact ⟨p, cap, e⟩
theorem row_nums {A : Nat → Prop} {w : World} {base : Nat} {e : TypeId} {v : Value} {n : Nat} {L : List Int} (h : w.ownsRow base e 1 v n (L.flatMap cellsN)) (hL : L.length ≤ 9223372036854775807) (hA : ∀ g, v.ownBlock = some g → A g) : NumsAt A w v L := by
  obtain ⟨_, p, cap, rfl, h3⟩ := row_get lenN (by decide) h
  refine ⟨hL, p, cap, rfl, fun i hi => ?_⟩
  obtain ⟨g, rfl, _, ho, hg⟩ := h3 i hi
  refine ⟨_, rfl, hA _ ho, ?_⟩
  rw [addr_add, Nat.zero_add]
  have := hg 0 (by decide)
  exact this
theorem row_ars {A : Nat → Prop} {w : World} {base : Nat} {e : TypeId} {v : Value} {n : Nat} {L : List Ar} (h : w.ownsRow base e 2 v n (L.flatMap cellsA)) (hL : L.length ≤ 9223372036854775807) (hA : ∀ g, v.ownBlock = some g → A g) : ArsAt A w v L := by
  obtain ⟨_, p, cap, rfl, h3⟩ := row_get lenA (by decide) h
  refine ⟨hL, p, cap, rfl, fun i hi => ?_⟩
  obtain ⟨g, rfl, _, ho, hg⟩ := h3 i hi
  refine ⟨_, rfl, hA _ ho, ?_⟩
  rw [addr_add, Nat.zero_add]
  exact ⟨hg 0 (by decide), hg 1 (by decide)⟩
theorem row_xns {A : Nat → Prop} {w : World} {base : Nat} {e : TypeId} {v : Value} {n : Nat} {L : List (Xn × Value)} (h : w.ownsRow base e 8 v n (L.flatMap cellsX)) (hL : L.length ≤ 9223372036854775807) (hA : ∀ g, v.ownBlock = some g → A g) (hin : ∀ c ∈ L, NumsAt A w c.2 c.1.args) : XnsAt A w v (L.map (·.1)) := by
  obtain ⟨_, p, cap, rfl, h3⟩ := row_get lenX (by decide) h
  refine ⟨by simpa using hL, p, cap, by simp, fun i hi => ?_⟩
  have hi' : i < L.length := by simpa using hi
  obtain ⟨g, rfl, _, ho, hg⟩ := h3 i hi'
  refine ⟨_, rfl, hA _ ho, ?_⟩
  rw [addr_add, Nat.zero_add, List.getElem_map]
  exact ⟨hg 0 (by decide), hg 1 (by decide), hg 2 (by decide), hg 3 (by decide), hg 4 (by decide), hg 5 (by decide), hg 6 (by decide), _, hg 7 (by decide), hin _ (List.getElem_mem hi')⟩
theorem row_bks {A : Nat → Prop} {w : World} {base : Nat} {e : TypeId} {v : Value} {n : Nat} {L : List (Bk × Value)} (h : w.ownsRow base e 5 v n (L.flatMap cellsB)) (hL : L.length ≤ 9223372036854775807) (hA : ∀ g, v.ownBlock = some g → A g) (hin : ∀ c ∈ L, XnsAt A w c.2 c.1.ins) : BksAt A w v (L.map (·.1)) := by
  obtain ⟨_, p, cap, rfl, h3⟩ := row_get lenB (by decide) h
  refine ⟨by simpa using hL, p, cap, by simp, fun i hi => ?_⟩
  have hi' : i < L.length := by simpa using hi
  obtain ⟨g, rfl, _, ho, hg⟩ := h3 i hi'
  refine ⟨_, rfl, hA _ ho, ?_⟩
  rw [addr_add, Nat.zero_add, List.getElem_map]
  exact ⟨⟨_, hg 0 (by decide), hin _ (List.getElem_mem hi')⟩, hg 1 (by decide), hg 2 (by decide), hg 3 (by decide), hg 4 (by decide)⟩
theorem row_fls {A : Nat → Prop} {w : World} {base : Nat} {e : TypeId} {v : Value} {n : Nat} {L : List (Fl × Value)} (h : w.ownsRow base e 4 v n (L.flatMap cellsF)) (hL : L.length ≤ 9223372036854775807) (hA : ∀ g, v.ownBlock = some g → A g) (hin : ∀ c ∈ L, BksAt A w c.2 c.1.blocks) : FlsAt A w v (L.map (·.1)) := by
  obtain ⟨_, p, cap, rfl, h3⟩ := row_get lenF (by decide) h
  refine ⟨by simpa using hL, p, cap, by simp, fun i hi => ?_⟩
  have hi' : i < L.length := by simpa using hi
  obtain ⟨g, rfl, _, ho, hg⟩ := h3 i hi'
  refine ⟨_, rfl, hA _ ho, ?_⟩
  rw [addr_add, Nat.zero_add, List.getElem_map]
  exact ⟨hg 0 (by decide), hg 1 (by decide), hg 2 (by decide), _, hg 3 (by decide), hin _ (List.getElem_mem hi')⟩
def slotN (v : Value) : Nat := match v with | .int _ x => x.toNat | _ => 0
theorem slotN_int (k : Nat) : slotN (.int .i64 (k : Int)) = k := by simp [slotN]
theorem infoA : (Tryd.prog.info? 60).map (fun i => (i.zero, i.size, i.bytes)) = some (some (.agg #[.string ⟨#[]⟩, .int .i64 0]), 2, 24) := by kernel_rfl
theorem infoN : (Tryd.prog.info? 3).map (fun i => (i.zero, i.size, i.bytes)) = some (some (.int .i64 0), 1, 8) := by kernel_rfl
theorem infoX : (Tryd.prog.info? 36).map (fun i => (i.zero, i.size, i.bytes)) = some (some (.agg #[.int .i64 0, .int .i64 0, .int .i64 0, .int .i64 0, .int .i64 0, .int .i64 0, .string ⟨#[]⟩, .slice none 0 0]), 8, 88) := by kernel_rfl
theorem infoB : (Tryd.prog.info? 43).map (fun i => (i.zero, i.size, i.bytes)) = some (some (.agg #[.slice none 0 0, .int .i64 0, .int .i64 0, .int .i64 0, .int .i64 0]), 5, 56) := by kernel_rfl
theorem infoF : (Tryd.prog.info? 45).map (fun i => (i.zero, i.size, i.bytes)) = some (some (.agg #[.string ⟨#[]⟩, .int .i64 0, .int .i64 0, .slice none 0 0]), 4, 56) := by kernel_rfl
theorem infoS : (Tryd.prog.info? 9).map (fun i => (i.zero, i.size, i.bytes)) = some (some (.string ⟨#[]⟩), 1, 16) := by kernel_rfl
theorem i64_of (v : Int) (h0 : -9223372036854775808 ≤ v) (h1 : v ≤ 9223372036854775807) : I64 v := ⟨h0, h1⟩
end Go.Proofs.YtafapkljlajflaaDoor
