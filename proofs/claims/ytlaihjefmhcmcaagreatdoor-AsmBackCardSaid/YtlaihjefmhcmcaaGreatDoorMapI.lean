/- Maps from texts to numbers, in plain words: what is there is a function. -/
import Derived.Test.YtlaihjefmhcmcaaGreatDoorRows
import Derived.WalkKit
import Derived.ProofKit
import Derived.OpenShut
import Derived.WalkLawsBesides
import Derived.WalkSpells
import Derived.Outline
import Derived.Handy
import Derived.Lib.Hide
import Derived.KernelRfl
import Derived.Carry
import Derived.Maps.OwnSet
import Derived.StringKeys
import Derived.Test.YtlaihjefmhcmcaaGreatDoorIn0
namespace Go.Proofs.YtlaihjefmhcmcaaGreatDoor
open Go.ChangeShapes Go.WideShapes Go.ChangeAt Go.RowKit
open Go.Maps (Keyed IsMap)
open Go.MapKept Go.WideMaps Go.ChangeMaps
set_option linter.unusedVariables false
noncomputable abbrev mapRead : Value → Option (DataW Unit × List MemPlace) := plainElem Tryz.prog 3
theorem sKeyed : Keyed Tryz.prog 9 := Go.Maps.string_keyed Tryz.underlying9
theorem zeroInt (w : World) : (zeroValue 3).run Tryz.prog w = .ok (.int .i64 0) w := by kernel_rfl
theorem i64_wf {v : Int} (h : I64 v) : (Lit.int .i64 v).wf = true := by
  unfold I64 at h
  simp [Lit.wf, IntKind.min, IntKind.max, IntKind.signed, IntKind.bits]; omega
/-- Block b is a map of at most n entries: at each text it has what F says. -/
def IMap (w : World) (b n : Nat) (F : List UInt8 → Option Int) : Prop :=
  ∃ D : DataW Unit, w.ownsMap Tryz.prog 9 mapRead b n D ∧ ∀ k, Maps.has D (.string k) = (F k).isSome ∧ D.atKey (.string k) (.lit (.int .i64 0)) = .lit (.int .i64 ((F k).getD 0))
theorem imap_made (w : World) : IMap (w.alloc (.map #[] 0)) w.heap.size 0 (fun _ => none) :=
  ⟨.map [], World.ownsMap_made _ _ _ _, fun k => ⟨rfl, rfl⟩⟩
theorem IMap.lt {w : World} {b n : Nat} {F : List UInt8 → Option Int} (h : IMap w b n F) : b < w.heap.size := by
  obtain ⟨D, h1, _⟩ := h
  exact h1.lt
theorem IMap.mono {w : World} {b n m : Nat} {F : List UInt8 → Option Int} (h : IMap w b n F) (hn : n ≤ m) : IMap w b m F := by
  obtain ⟨D, h1, h2⟩ := h
  exact ⟨D, h1.mono hn, h2⟩
theorem IMap.same {w w' : World} {b n : Nat} {F : List UInt8 → Option Int} (h : IMap w b n F) (hb : w'.heap[b]? = w.heap[b]?) : IMap w' b n F := by
  obtain ⟨D, ⟨es, clock, h1, h3⟩, h2⟩ := h
  exact ⟨D, ⟨es, clock, hb.trans h1, h3⟩, h2⟩
theorem IMap.ext {w w' : World} {b n : Nat} {F : List UInt8 → Option Int} (h : IMap w b n F) (g : Below w.heap.size w w') : IMap w' b n F := h.same (g.block b h.lt)
theorem IMap.to {w : World} {b n : Nat} {F G : List UInt8 → Option Int} (h : IMap w b n F) (e : ∀ k, F k = G k) : IMap w b n G := by
  obtain ⟨D, h1, h2⟩ := h
  exact ⟨D, h1, fun k => by rw [← e k]; exact h2 k⟩
theorem keyS (k : List UInt8) (hk : k.length ≤ maxLen) : keyOf Tryz.prog 9 (.string (mk k)) = some (.string k) := keyOf_string_mk (s := mk k) Tryz.underlying9 hk
theorem keyLit (k : List UInt8) (hk : k.length ≤ maxLen) : WideAt.IsKeyLit (.string k) := sKeyed.key (keyS k hk)
/-- 'v, ok := m[k]'. -/
theorem wp_look_ok {w : World} {ops : Array Oper} {rest : List Oper} {o : Oper} {a : Act} {Q : Exit → Act → World → Prop} (b n : Nat) (F : List UInt8 → Option Int) (hown : IMap w b n F) (k : List UInt8) (hk : k.length ≤ maxLen)
    (hg : o.guard = none) (m x : Operand) (hop : o.op = Op.lookup 71 m x true) (hm : a.eval m = .map (some b)) (hx : a.eval x = .string (mk k))
    (hK : wpList Tryz.prog ops Q rest (a.put o.dst (.tuple #[.int .i64 ((F k).getD 0), .bool (F k).isSome])) w) : wpList Tryz.prog ops Q (o :: rest) a w := by
  obtain ⟨D, h1, h2⟩ := hown
  refine wpList_lookup_own_ok_int w hg m x 71 hop 9 3 .i64 sKeyed Tryz.underlying71 Tryz.underlying3 (zeroInt w) b n D hm h1 _ _ hx (keyS k hk) ?_
  intro c hat _
  obtain ⟨e1, e2⟩ := h2 k
  rw [e2] at hat
  injection hat with hat
  injection hat with _ hat
  rw [e1, ← hat]
  exact hK
/-- 'm[k]'. -/
theorem wp_look {w : World} {ops : Array Oper} {rest : List Oper} {o : Oper} {a : Act} {Q : Exit → Act → World → Prop} (b n : Nat) (F : List UInt8 → Option Int) (hown : IMap w b n F) (k : List UInt8) (hk : k.length ≤ maxLen)
    (hg : o.guard = none) (m x : Operand) (hop : o.op = Op.lookup 71 m x false) (hm : a.eval m = .map (some b)) (hx : a.eval x = .string (mk k))
    (hK : wpList Tryz.prog ops Q rest (a.put o.dst (.int .i64 ((F k).getD 0))) w) : wpList Tryz.prog ops Q (o :: rest) a w := by
  obtain ⟨D, h1, h2⟩ := hown
  refine wpList_lookup_own_int w hg m x 71 hop 9 3 .i64 sKeyed Tryz.underlying71 Tryz.underlying3 (zeroInt w) b n D hm h1 _ _ hx (keyS k hk) ?_
  intro c hat _
  obtain ⟨e1, e2⟩ := h2 k
  rw [e2] at hat
  injection hat with hat
  injection hat with _ hat
  rw [← hat]
  exact hK
def putF (F : List UInt8 → Option Int) (k : List UInt8) (v : Int) : List UInt8 → Option Int := fun x => if x = k then some v else F x
/-- 'm[k] = v'. -/
theorem wp_put {w : World} {ops : Array Oper} {rest : List Oper} {o : Oper} {a : Act} {Q : Exit → Act → World → Prop} (b n : Nat) (F : List UInt8 → Option Int) (hown : IMap w b n F) (hn : n < 140737488355328) (k : List UInt8) (hk : k.length ≤ maxLen) (c : Int) (hc : I64 c)
    (hg : o.guard = none) (m x v : Operand) (hop : o.op = Op.mapUpdate 71 m x v) (hm : a.eval m = .map (some b)) (hx : a.eval x = .string (mk k)) (hv : a.eval v = .int .i64 c)
    (hK : ∀ w', IMap w' b (n + 1) (putF F k c) → w.grownBy w' (some b) → wpList Tryz.prog ops Q rest (a.put o.dst undef) w') : wpList Tryz.prog ops Q (o :: rest) a w := by
  obtain ⟨D, h1, h2⟩ := hown
  refine wpList_mapUpdate_own w hg m x v 71 hop 9 3 sKeyed Tryz.underlying71 mapRead b n D hm h1 (by unfold maxLen; omega) _ _ _ hx hv (keyS k hk) _ [] (plainElem_int Tryz.underlying3 (i64_wf hc)) ?_
  intro w' h3 hgr
  refine hK w' ⟨_, h3, fun y => ?_⟩ hgr
  obtain ⟨e1, e2⟩ := h2 y
  have hD : IsMap D := h1.isMap
  unfold putF
  by_cases e : y = k
  · subst e
    rw [if_pos rfl]
    exact ⟨Maps.has_put_same hD (keyLit y hk) _, Maps.atKey_put_same hD (keyLit y hk) _ _⟩
  · have hne : Lit.string y ≠ Lit.string k := fun h => e (by injection h)
    rw [if_neg e]
    exact ⟨(Maps.has_put_other hne _).trans e1, (Maps.atKey_put_other hne _ _).trans e2⟩
end Go.Proofs.YtlaihjefmhcmcaaGreatDoor
