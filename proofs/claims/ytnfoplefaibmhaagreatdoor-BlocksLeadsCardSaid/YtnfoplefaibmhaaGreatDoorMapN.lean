/- Maps from numbers to numbers, in plain words: what is there is a function. -/
import Derived.Test.YtnfoplefaibmhaaGreatDoorMapI
namespace Go.Proofs.YtnfoplefaibmhaaGreatDoor
open Go.ChangeShapes Go.WideShapes Go.ChangeAt Go.RowKit
open Go.Maps (Keyed IsMap)
open Go.MapKept Go.WideMaps Go.ChangeMaps
set_option linter.unusedVariables false
theorem nKeyed : Keyed Tryz.prog 3 := Go.Maps.int_keyed Tryz.underlying3
/-- Block b is a map of at most n entries: at each text it has what F says. -/
def NMap (w : World) (b n : Nat) (F : Int → Option Int) : Prop :=
  ∃ D : DataW Unit, w.ownsMap Tryz.prog 3 mapRead b n D ∧ ∀ k, Maps.has D (.int .i64 k) = (F k).isSome ∧ D.atKey (.int .i64 k) (.lit (.int .i64 0)) = .lit (.int .i64 ((F k).getD 0))
theorem nmap_made (w : World) : NMap (w.alloc (.map #[] 0)) w.heap.size 0 (fun _ => none) :=
  ⟨.map [], World.ownsMap_made _ _ _ _, fun k => ⟨rfl, rfl⟩⟩
theorem NMap.lt {w : World} {b n : Nat} {F : Int → Option Int} (h : NMap w b n F) : b < w.heap.size := by
  obtain ⟨D, h1, _⟩ := h
  exact h1.lt
theorem NMap.mono {w : World} {b n m : Nat} {F : Int → Option Int} (h : NMap w b n F) (hn : n ≤ m) : NMap w b m F := by
  obtain ⟨D, h1, h2⟩ := h
  exact ⟨D, h1.mono hn, h2⟩
theorem NMap.same {w w' : World} {b n : Nat} {F : Int → Option Int} (h : NMap w b n F) (hb : w'.heap[b]? = w.heap[b]?) : NMap w' b n F := by
  obtain ⟨D, ⟨es, clock, h1, h3⟩, h2⟩ := h
  exact ⟨D, ⟨es, clock, hb.trans h1, h3⟩, h2⟩
theorem NMap.ext {w w' : World} {b n : Nat} {F : Int → Option Int} (h : NMap w b n F) (g : Below w.heap.size w w') : NMap w' b n F := h.same (g.block b h.lt)
theorem NMap.to {w : World} {b n : Nat} {F G : Int → Option Int} (h : NMap w b n F) (e : ∀ k, F k = G k) : NMap w b n G := by
  obtain ⟨D, h1, h2⟩ := h
  exact ⟨D, h1, fun k => by rw [← e k]; exact h2 k⟩
theorem keyN (k : Int) (hk : I64 k) : keyOf Tryz.prog 3 (.int .i64 k) = some (.int .i64 k) := Go.Maps.keyOf_int_mk Tryz.underlying3 (i64_wf hk)
theorem keyLitN (k : Int) (hk : I64 k) : WideAt.IsKeyLit (.int .i64 k) := nKeyed.key (keyN k hk)
/-- 'v, ok := m[k]'. -/
theorem wpN_look_ok {w : World} {ops : Array Oper} {rest : List Oper} {o : Oper} {a : Act} {Q : Exit → Act → World → Prop} (b n : Nat) (F : Int → Option Int) (hown : NMap w b n F) (k : Int) (hk : I64 k)
    (hg : o.guard = none) (m x : Operand) (hop : o.op = Op.lookup 56 m x true) (hm : a.eval m = .map (some b)) (hx : a.eval x = .int .i64 k)
    (hK : wpList Tryz.prog ops Q rest (a.put o.dst (.tuple #[.int .i64 ((F k).getD 0), .bool (F k).isSome])) w) : wpList Tryz.prog ops Q (o :: rest) a w := by
  obtain ⟨D, h1, h2⟩ := hown
  refine wpList_lookup_own_ok_int w hg m x 56 hop 3 3 .i64 nKeyed Tryz.underlying56 Tryz.underlying3 (zeroInt w) b n D hm h1 _ _ hx (keyN k hk) ?_
  intro c hat _
  obtain ⟨e1, e2⟩ := h2 k
  rw [e2] at hat
  injection hat with hat
  injection hat with _ hat
  rw [e1, ← hat]
  exact hK
/-- 'm[k]'. -/
theorem wpN_look {w : World} {ops : Array Oper} {rest : List Oper} {o : Oper} {a : Act} {Q : Exit → Act → World → Prop} (b n : Nat) (F : Int → Option Int) (hown : NMap w b n F) (k : Int) (hk : I64 k)
    (hg : o.guard = none) (m x : Operand) (hop : o.op = Op.lookup 56 m x false) (hm : a.eval m = .map (some b)) (hx : a.eval x = .int .i64 k)
    (hK : wpList Tryz.prog ops Q rest (a.put o.dst (.int .i64 ((F k).getD 0))) w) : wpList Tryz.prog ops Q (o :: rest) a w := by
  obtain ⟨D, h1, h2⟩ := hown
  refine wpList_lookup_own_int w hg m x 56 hop 3 3 .i64 nKeyed Tryz.underlying56 Tryz.underlying3 (zeroInt w) b n D hm h1 _ _ hx (keyN k hk) ?_
  intro c hat _
  obtain ⟨e1, e2⟩ := h2 k
  rw [e2] at hat
  injection hat with hat
  injection hat with _ hat
  rw [← hat]
  exact hK
def putN (F : Int → Option Int) (k : Int) (v : Int) : Int → Option Int := fun x => if x = k then some v else F x
/-- 'm[k] = v'. -/
theorem wpN_put {w : World} {ops : Array Oper} {rest : List Oper} {o : Oper} {a : Act} {Q : Exit → Act → World → Prop} (b n : Nat) (F : Int → Option Int) (hown : NMap w b n F) (hn : n < 140737488355328) (k : Int) (hk : I64 k) (c : Int) (hc : I64 c)
    (hg : o.guard = none) (m x v : Operand) (hop : o.op = Op.mapUpdate 56 m x v) (hm : a.eval m = .map (some b)) (hx : a.eval x = .int .i64 k) (hv : a.eval v = .int .i64 c)
    (hK : ∀ w', NMap w' b (n + 1) (putN F k c) → w.grownBy w' (some b) → wpList Tryz.prog ops Q rest (a.put o.dst undef) w') : wpList Tryz.prog ops Q (o :: rest) a w := by
  obtain ⟨D, h1, h2⟩ := hown
  refine wpList_mapUpdate_own w hg m x v 56 hop 3 3 nKeyed Tryz.underlying56 mapRead b n D hm h1 (by unfold maxLen; omega) _ _ _ hx hv (keyN k hk) _ [] (plainElem_int Tryz.underlying3 (i64_wf hc)) ?_
  intro w' h3 hgr
  refine hK w' ⟨_, h3, fun y => ?_⟩ hgr
  obtain ⟨e1, e2⟩ := h2 y
  have hD : IsMap D := h1.isMap
  unfold putN
  by_cases e : y = k
  · subst e
    rw [if_pos rfl]
    exact ⟨Maps.has_put_same hD (keyLitN y hk) _, Maps.atKey_put_same hD (keyLitN y hk) _ _⟩
  · have hne : Lit.int .i64 y ≠ Lit.int .i64 k := fun h => e (by injection h)
    rw [if_neg e]
    exact ⟨(Maps.has_put_other hne _).trans e1, (Maps.atKey_put_other hne _ _).trans e2⟩
set_option maxRecDepth 100000 in
/-- What a look-up runs to. -/
theorem nmap_look {w : World} {b n : Nat} {F : Int → Option Int} (hown : NMap w b n F) (k : Int) (hk : I64 k) : (Instr.lookup 56 (.map (some b)) (.int .i64 k) false).run Tryz.prog w = .ok (.int .i64 ((F k).getD 0)) w := by
  obtain ⟨D, h1, h2⟩ := hown
  obtain ⟨c, hr, hat, _⟩ := h1.lookup_int nKeyed Tryz.underlying56 Tryz.underlying3 (zeroInt w) (keyN k hk)
  obtain ⟨e1, e2⟩ := h2 k
  rw [e2] at hat
  injection hat with hat
  injection hat with _ hat
  exact hat ▸ hr
set_option maxRecDepth 100000 in
theorem imap_look {w : World} {b n : Nat} {F : List UInt8 → Option Int} (hown : IMap w b n F) (k : List UInt8) (hk : k.length ≤ maxLen) : (Instr.lookup 53 (.map (some b)) (.string (mk k)) false).run Tryz.prog w = .ok (.int .i64 ((F k).getD 0)) w := by
  obtain ⟨D, h1, h2⟩ := hown
  obtain ⟨c, hr, hat, _⟩ := h1.lookup_int sKeyed Tryz.underlying53 Tryz.underlying3 (zeroInt w) (keyS k hk)
  obtain ⟨e1, e2⟩ := h2 k
  rw [e2] at hat
  injection hat with hat
  injection hat with _ hat
  exact hat ▸ hr
/-- What a store into it runs to. -/
theorem nmap_put {w : World} {b n : Nat} {F : Int → Option Int} (hown : NMap w b n F) (hn : n < 140737488355328) (k : Int) (hk : I64 k) (c : Int) (hc : I64 c) :
    ∃ w', (Instr.mapUpdate 56 (.map (some b)) (.int .i64 k) (.int .i64 c)).run Tryz.prog w = .ok () w' ∧ NMap w' b (n + 1) (putN F k c) ∧ w.grownBy w' (some b) := by
  obtain ⟨D, h1, h2⟩ := hown
  obtain ⟨w', hr, h3, hgr⟩ := h1.update nKeyed Tryz.underlying56 (by unfold maxLen; omega) (keyN k hk) (plainElem_int Tryz.underlying3 (i64_wf hc))
  refine ⟨w', hr, ⟨_, h3, fun y => ?_⟩, hgr⟩
  obtain ⟨e1, e2⟩ := h2 y
  have hD : IsMap D := h1.isMap
  unfold putN
  by_cases e : y = k
  · subst e
    rw [if_pos rfl]
    exact ⟨Maps.has_put_same hD (keyLitN y hk) _, Maps.atKey_put_same hD (keyLitN y hk) _ _⟩
  · have hne : Lit.int .i64 y ≠ Lit.int .i64 k := fun h => e (by injection h)
    rw [if_neg e]
    exact ⟨(Maps.has_put_other hne _).trans e1, (Maps.atKey_put_other hne _ _).trans e2⟩
end Go.Proofs.YtnfoplefaibmhaaGreatDoor
