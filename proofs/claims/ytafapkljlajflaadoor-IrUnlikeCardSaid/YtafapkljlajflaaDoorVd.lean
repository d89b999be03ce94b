/- For IrWrong: rows read with their inner slices; a function's place in a row, written. -/
import Derived.Test.YtafapkljlajflaaDoorRows
import Derived.WalkKit
import Derived.ProofKit
import Derived.OpenShut
import Derived.Lib.Hide
import Derived.Lib.OthersKept
import Derived.OwnWalk
import Derived.Test.YtafapkljlajflaaDoorUk
namespace Go.Proofs.YtafapkljlajflaaDoor
open Go.ChangeShapes Go.WideShapes Go.ChangeAt Go.RowKit
set_option linter.unusedVariables false
theorem pick_list {α : Type} {Q : Nat → α → Prop} : ∀ (len : Nat), (∀ i, i < len → ∃ x, Q i x) → ∃ L : List α, L.length = len ∧ ∀ i (h : i < L.length), Q i (L[i]'h)
  | 0, _ => ⟨[], rfl, fun i h => by cases h⟩
  | len + 1, key => by
    obtain ⟨L, h1, h2⟩ := pick_list len (fun i hi => key i (by omega))
    obtain ⟨x, hx⟩ := key len (by omega)
    refine ⟨L ++ [x], by simp [h1], fun i h => ?_⟩
    by_cases hi : i < L.length
    · rw [List.getElem_append_left hi]; exact h2 i hi
    · have e : i = len := by simp at h; omega
      subst e
      rw [List.getElem_append_right (by omega)]
      simp only [h1, Nat.sub_self, List.getElem_cons_zero]
      exact hx
/-- Cells that lie k by k are what a flat list says. -/
theorem flat_cells {β : Type} {f : β → List Value} {k : Nat} (hf : ∀ x, (f x).length = k) (hk : 0 < k) {w : World} {a : Addr} {M : List β} (h : ∀ i (hi : i < M.length) t, t < k → w.cell? ((a.add (i * k)).add t) = (f (M[i]'hi))[t]?) (j : Nat) (u : Value) (hj : (M.flatMap f)[j]? = some u) : w.cell? (a.add j) = some u := by
  have hlt : j < M.length * k := by
    have := (List.getElem?_eq_some_iff.1 hj).1
    rwa [flat_len f k hf] at this
  have hi : j / k < M.length := Nat.div_lt_of_lt_mul (by rw [Nat.mul_comm]; exact hlt)
  have ht : j % k < k := Nat.mod_lt _ hk
  have e : j / k * k + j % k = j := by rw [Nat.mul_comm]; exact Nat.div_add_mod j k
  have h1 := h (j / k) hi (j % k) ht
  rw [Addr.add_add, e] at h1
  have h2 := flat_get f k hf M (j / k) hi (j % k) ht
  rw [e, hj] at h2
  rw [h1, ← h2]
theorem xns_read {A : Nat → Prop} {w : World} {p : Option Addr} {m c : Nat} {L : List Xn} (h : XnsAt A w (.slice p m c) L) : m = L.length ∧ ∃ M : List (Xn × Value), M.map (·.1) = L ∧ (∀ x ∈ M, NumsAt A w x.2 x.1.args) ∧ ∀ a, p = some a → ∀ j u, (M.flatMap cellsX)[j]? = some u → w.cell? (a.add j) = some u := by
  obtain ⟨_, p', c', hq, hc⟩ := h
  injection hq with hq1 hq2 hq3
  subst hq1 hq2 hq3
  obtain ⟨M, hM, hM2⟩ := pick_list (Q := fun i (x : Xn × Value) => ∃ hi : i < L.length, x.1 = L[i]'hi ∧ NumsAt A w x.2 x.1.args ∧ ∀ a, p = some a → ∀ t, t < 8 → w.cell? ((a.add (i * 8)).add t) = (cellsX x)[t]?) L.length (fun i hi => by
    obtain ⟨a, rfl, _, h0, h1, h2, h3, h4, h5, h6, v, h7, h8⟩ := hc i hi
    refine ⟨(L[i]'hi, v), hi, rfl, h8, fun b hb t ht => ?_⟩
    cases hb
    rcases (by omega : t = 0 ∨ t = 1 ∨ t = 2 ∨ t = 3 ∨ t = 4 ∨ t = 5 ∨ t = 6 ∨ t = 7) with rfl | rfl | rfl | rfl | rfl | rfl | rfl | rfl
    · rw [Addr.add_zero']; exact h0
    · exact h1
    · exact h2
    · exact h3
    · exact h4
    · exact h5
    · exact h6
    · exact h7)
  refine ⟨rfl, M, ?_, fun x hx => ?_, fun a ha => ?_⟩
  · refine List.ext_getElem (by rw [List.length_map, hM]) (fun i h1 h2 => ?_)
    rw [List.getElem_map]
    exact (hM2 i (by simpa using h1)).2.1
  · obtain ⟨i, hi, rfl⟩ := List.getElem_of_mem hx
    exact (hM2 i hi).2.2.1
  · exact flat_cells (k := 8) (f := cellsX) (fun x => rfl) (by decide) (fun i hi t ht => (hM2 i hi).2.2.2 a ha t ht)
theorem bks_read {A : Nat → Prop} {w : World} {p : Option Addr} {m c : Nat} {L : List Bk} (h : BksAt A w (.slice p m c) L) : m = L.length ∧ ∃ M : List (Bk × Value), M.map (·.1) = L ∧ (∀ x ∈ M, XnsAt A w x.2 x.1.ins) ∧ ∀ a, p = some a → ∀ j u, (M.flatMap cellsB)[j]? = some u → w.cell? (a.add j) = some u := by
  obtain ⟨_, p', c', hq, hc⟩ := h
  injection hq with hq1 hq2 hq3
  subst hq1 hq2 hq3
  obtain ⟨M, hM, hM2⟩ := pick_list (Q := fun i (x : Bk × Value) => ∃ hi : i < L.length, x.1 = L[i]'hi ∧ XnsAt A w x.2 x.1.ins ∧ ∀ a, p = some a → ∀ t, t < 5 → w.cell? ((a.add (i * 5)).add t) = (cellsB x)[t]?) L.length (fun i hi => by
    obtain ⟨a, rfl, _, ⟨v, h0, h8⟩, h1, h2, h3, h4⟩ := hc i hi
    refine ⟨(L[i]'hi, v), hi, rfl, h8, fun b hb t ht => ?_⟩
    cases hb
    rcases (by omega : t = 0 ∨ t = 1 ∨ t = 2 ∨ t = 3 ∨ t = 4) with rfl | rfl | rfl | rfl | rfl
    · rw [Addr.add_zero']; exact h0
    · exact h1
    · exact h2
    · exact h3
    · exact h4)
  refine ⟨rfl, M, ?_, fun x hx => ?_, fun a ha => ?_⟩
  · refine List.ext_getElem (by rw [List.length_map, hM]) (fun i h1 h2 => ?_)
    rw [List.getElem_map]
    exact (hM2 i (by simpa using h1)).2.1
  · obtain ⟨i, hi, rfl⟩ := List.getElem_of_mem hx
    exact (hM2 i hi).2.2.1
  · exact flat_cells (k := 5) (f := cellsB) (fun x => rfl) (by decide) (fun i hi t ht => (hM2 i hi).2.2.2 a ha t ht)
/-! One function written into its row. -/
theorem flat_fixF (M : List (Fl × Value)) (j : Nat) (h : j < M.length) (c : Fl × Value) : ((((M.flatMap cellsF).set (j * 4 + 0) (.string (mk c.1.name))).set (j * 4 + 1) (.int .i64 c.1.params)).set (j * 4 + 2) (.int .i64 c.1.values)).set (j * 4 + 3) c.2 = (M.set j c).flatMap cellsF := by
  obtain ⟨A, l, B, rfl, hA⟩ : ∃ A l B, M = A ++ l :: B ∧ A.length = j := ⟨M.take j, M[j]'h, M.drop (j + 1), by rw [← List.drop_eq_getElem_cons h, List.take_append_drop], by rw [List.length_take]; omega⟩
  have hl : (A.flatMap cellsF).length = j * 4 := by rw [flat_len cellsF 4 lenF, hA]
  have e2 : (A ++ l :: B).set j c = A ++ c :: B := by
    rw [List.set_append_right _ _ (by omega), hA, Nat.sub_self]; rfl
  rw [e2, List.flatMap_append, List.flatMap_append, List.flatMap_cons, List.flatMap_cons]
  rw [set_at _ _ _ 0 hl, set_at _ _ _ 1 hl, set_at _ _ _ 2 hl, set_at _ _ _ 3 hl]
  rfl
def putFl (w : World) (g j : Nat) (c : Fl × Value) : World := (((w.setCell ⟨g, j * 4, none⟩ (.string (mk c.1.name))).setCell ⟨g, j * 4 + 1, none⟩ (.int .i64 c.1.params)).setCell ⟨g, j * 4 + 2, none⟩ (.int .i64 c.1.values)).setCell ⟨g, j * 4 + 3, none⟩ c.2
theorem row_fixF {w : World} {base : Nat} {e : TypeId} {g n cap : Nat} {M : List (Fl × Value)} (h : w.ownsRow base e 4 (.slice (some ⟨g, 0, none⟩) n cap) n (M.flatMap cellsF)) (j : Nat) (hj : j < M.length) (c : Fl × Value) :
    (putFl w g j c).ownsRow base e 4 (.slice (some ⟨g, 0, none⟩) n cap) n ((M.set j c).flatMap cellsF) ∧ w.grownBy (putFl w g j c) (some g) := by
  obtain ⟨h1, g1⟩ := h.stored (j * 4 + 0) (.string (mk c.1.name))
  obtain ⟨h2, g2⟩ := h1.stored (j * 4 + 1) (.int .i64 c.1.params)
  obtain ⟨h3, g3⟩ := h2.stored (j * 4 + 2) (.int .i64 c.1.values)
  obtain ⟨h4, g4⟩ := h3.stored (j * 4 + 3) c.2
  rw [flat_fixF M j hj c] at h4
  exact ⟨h4, grown_trans (grown_trans (grown_trans g1 g2) g3) g4⟩
/-- A whole row behind a row of one's own. -/
theorem app_row {T E : TypeId} {z : Value} {k sz : Nat} (hT : Tryd.prog.underlying T = some (.slice E)) (hinfo : (Tryd.prog.info? E).map (fun i => (i.zero, i.size, i.bytes)) = some (some z, k, sz)) (hz1 : z.cells.size = k) (hk : 0 < k) (hsz : sz ≤ 128)
    {ops : Array Oper} {rest : List Oper} {o : Oper} {a : Act} {Q : Exit → Act → World → Prop} {w : World} (hgd : o.guard = none) (s x : Operand)
    (ho : o.op = .call { callee := .builtin .append, args := #[s, x], argTypes := #[T, T] })
    (base : Nat) (v : Value) (n : Nat) (xs : List Value) (hs : a.eval s = v) (hown : w.ownsRow base E k v n xs)
    (ad : Addr) (m cap : Nat) (us : List Value) (hm : 0 < m) (hlen : us.length = m * k) (hx : a.eval x = .slice (some ad) m cap) (hu : ∀ j u, us[j]? = some u → w.cell? (ad.add j) = some u) (h1 : ∀ u ∈ us, u.oneCell' = true) (n' : Nat) (hn' : n + m = n') (hn : n + m ≤ 1000000) (hbase : base ≤ w.heap.size)
    (h : ∀ g' cap' w', w'.ownsRow base E k (.slice (some ⟨g', 0, none⟩) n' cap') n' (xs ++ us) → w.grownBy w' v.ownBlock → (v.ownBlock = some g' ∨ g' = w.heap.size) → wpList Tryd.prog ops Q rest (a.put o.dst (.slice (some ⟨g', 0, none⟩) n' cap')) w') : wpList Tryd.prog ops Q (o :: rest) a w := by
  subst hn'
  obtain ⟨i0, hi, iz0, iz1, iz2⟩ := info_parts hinfo
  refine wpList_append_own_at w hgd s x T ho base E i0 z k sz hT hi iz0 iz1 iz2 hz1 hk v n xs hs hown ad m cap us hx hlen hu h1 ?_ ?_ hbase fun v' w' k1 k2 _ k3 => ?_
  · unfold maxLen; omega
  · have : (n + m) * sz ≤ 1000001 * 128 := Nat.mul_le_mul (by omega) hsz
    omega
  · obtain ⟨g', cap', rfl, _, _⟩ := own_block k1 (by omega)
    refine h g' cap' w' k1 k2 ?_
    rcases k3 with k3 | k3
    · exact .inl (k3.symm.trans rfl)
    · injection k3 with k3
      exact .inr k3
end Go.Proofs.YtafapkljlajflaaDoor
