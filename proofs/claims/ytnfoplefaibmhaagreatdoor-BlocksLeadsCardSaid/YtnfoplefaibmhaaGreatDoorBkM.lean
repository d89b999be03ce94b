/- Sets of numbers as maps, and their keys in rising order. -/
import Derived.Test.YtnfoplefaibmhaaGreatDoorMapN
import Derived.Test.YtnfoplefaibmhaaGreatDoorRow
import Derived.Test.YtnfoplefaibmhaaGreatDoorShelfS
namespace Go.Proofs.YtnfoplefaibmhaaGreatDoor
open Go.ChangeShapes Go.WideShapes Go.ChangeAt Go.RowKit
open Go.Maps (Keyed IsMap)
open Go.MapKept Go.WideMaps Go.ChangeMaps Go.Sort Go.Shelf
set_option linter.unusedVariables false
/-- Block b is a set of at most n numbers: those of which F holds. -/
def NSet (w : World) (b n : Nat) (F : Int → Prop) : Prop :=
  ∃ D : DataW Unit, w.ownsMap Tryz.prog 3 unitElem b n D ∧ ∀ k, Maps.has D (.int .i64 k) = true ↔ F k
theorem nset_made (w : World) : NSet (w.alloc (.map #[] 0)) w.heap.size 0 (fun _ => False) :=
  ⟨.map [], World.ownsMap_made _ _ _ _, fun k => by simp [Maps.has_eq]⟩
theorem NSet.lt {w : World} {b n : Nat} {F : Int → Prop} (h : NSet w b n F) : b < w.heap.size := by
  obtain ⟨D, h1, _⟩ := h
  exact h1.lt
theorem NSet.mono {w : World} {b n m : Nat} {F : Int → Prop} (h : NSet w b n F) (hn : n ≤ m) : NSet w b m F := by
  obtain ⟨D, h1, h2⟩ := h
  exact ⟨D, h1.mono hn, h2⟩
theorem NSet.same {w w' : World} {b n : Nat} {F : Int → Prop} (h : NSet w b n F) (hb : w'.heap[b]? = w.heap[b]?) : NSet w' b n F := by
  obtain ⟨D, ⟨es, clock, h1, h3⟩, h2⟩ := h
  exact ⟨D, ⟨es, clock, hb.trans h1, h3⟩, h2⟩
theorem NSet.ext {w w' : World} {b n : Nat} {F : Int → Prop} (h : NSet w b n F) (g : Below w.heap.size w w') : NSet w' b n F := h.same (g.block b h.lt)
theorem NSet.to {w : World} {b n : Nat} {F G : Int → Prop} (h : NSet w b n F) (e : ∀ k, F k ↔ G k) : NSet w b n G := by
  obtain ⟨D, h1, h2⟩ := h
  exact ⟨D, h1, fun k => (h2 k).trans (e k)⟩
theorem zeroU (w : World) : (zeroValue 73).run Tryz.prog w = .ok (.agg #[]) w := by kernel_rfl
/-- (places).add -/
theorem add_any (b n : Nat) (F : Int → Prop) (k : Int) (w : World) (h : NSet w b n F) (hn : n < 140737488355328) (hk : I64 k) :
    Calls Tryz.prog 18 #[.map (some b), .int .i64 k] w fun e w' => e = .returned (.tuple #[]) ∧ NSet w' b (n + 1) (fun x => F x ∨ x = k) ∧ w.grownBy w' (some b) := by
  obtain ⟨D, h1, h2⟩ := h
  go_enter Tryz.func18, Tryz.ntmps18
  go_wp2_with (at_mapUpdate; refine wpList_mapUpdate_own w rfl _ _ _ 58 rfl 3 73 nKeyed Tryz.underlying58 unitElem b n D rfl h1 (by unfold maxLen; omega) _ _ _ rfl rfl (keyN k hk) _ [] unitElem_mk ?_; intro w' h3 hgr)
  go_end0
  refine ⟨rfl, ⟨_, h3, fun y => ?_⟩, hgr⟩
  have hD : IsMap D := h1.isMap
  by_cases e : y = k
  · subst e
    simp [Maps.has_put_same hD (keyLitN y hk)]
  · have hne : Lit.int .i64 y ≠ Lit.int .i64 k := fun h => e (by injection h)
    rw [Maps.has_put_other hne, h2 y]
    simp [e]
/-- 'delete(m, k)'. -/
theorem wpS_del {w : World} {ops : Array Oper} {rest : List Oper} {o : Oper} {a : Act} {Q : Exit → Act → World → Prop} (b n : Nat) (F : Int → Prop) (hown : NSet w b n F) (k : Int) (hk : I64 k)
    (hg : o.guard = none) (m x : Operand) (hop : o.op = Op.call { callee := Callee.builtin Builtin.delete, args := #[m, x], argTypes := #[58, 3] }) (hm : a.eval m = .map (some b)) (hx : a.eval x = .int .i64 k)
    (hK : ∀ w', NSet w' b n (fun x => F x ∧ x ≠ k) → w.grownBy w' (some b) → wpList Tryz.prog ops Q rest (a.put o.dst (.tuple #[])) w') : wpList Tryz.prog ops Q (o :: rest) a w := by
  obtain ⟨D, h1, h2⟩ := hown
  refine wpList_delete_own w hg m x 58 3 hop 73 nKeyed Tryz.underlying58 unitElem b n D hm h1 _ _ hx (keyN k hk) ?_
  intro w' h3 ht
  refine hK w' ⟨_, h3, fun y => ?_⟩ ht.grown
  by_cases e : y = k
  · subst e
    simp [Maps.has_del_same]
  · have hne : Lit.int .i64 y ≠ Lit.int .i64 k := fun h => e (by injection h)
    rw [Maps.has_del_other hne, h2 y]
    simp [e]
theorem sortsA (m : Nat) : AnyZI.SortsIn Tryz.prog Tryz.sortedA_ren Fence.wide m :=
  ⟨fun blk off cap ss W hH hblk hsz => callsIn_wide.2 (AnyM.slices_Sort_int Tryz.sortA blk off cap ss W hH hblk hsz),
   fun p cap W => callsIn_wide.2 (AnyM.slices_Sort_int_none Tryz.sortA p cap W)⟩
theorem sorted_self {l : List Int} (h : l.Pairwise (· < ·)) : l.mergeSort leI = l :=
  List.mergeSort_of_pairwise (h.imp fun {a b} hab => by simp only [leI, decide_eq_true_eq]; omega)
theorem map_enc (l : List Int) : l.map encZ = l.flatMap cellsN := by
  induction l with
  | nil => rfl
  | cons x l ih => rw [List.map_cons, List.flatMap_cons, ih]; rfl
theorem set_perm {w : World} {b n : Nat} {F : Int → Prop} {D : DataW Unit} (h1 : w.ownsMap Tryz.prog 3 unitElem b n D) (h2 : ∀ k, Maps.has D (.int .i64 k) = true ↔ F k) {l : List Int} (hl : l.Pairwise (· < ·)) (hF : ∀ k, F k ↔ k ∈ l) :
    l.Perm (intKeys D) := by
  have hc : CollectedI D (fun _ => false) l := ⟨hl.imp fun {a b} hab => by omega, fun x => by rw [← hF x, ← h2 x]; simp⟩
  exact hc.perm h1 nKeyed Tryz.underlying3 (fun _ => rfl)
set_option maxHeartbeats 1000000 in
/-- (places).rising -/
theorem rising_any (b n : Nat) (F : Int → Prop) (l : List Int) (w : World) (h : NSet w b n F) (hn : n ≤ 1000000) (hl : l.Pairwise (· < ·)) (hF : ∀ k, F k ↔ k ∈ l) :
    Calls Tryz.prog 19 #[.map (some b)] w fun e w' => ∃ v, e = .returned v ∧ w'.ownsRow w.heap.size 3 1 v l.length (l.flatMap cellsN) ∧ Below w.heap.size w w' := by
  obtain ⟨D0, hown, h2⟩ := h
  have hperm := set_perm hown h2 hl hF
  have hsz := hown.size_le
  have hmax : Maps.size D0 ≤ maxLen := by unfold maxLen; omega
  have hbytes : Maps.size D0 * 8 ≤ 140737488355328 := by omega
  have hfin : ∀ ss : List Int, ss.Perm (intKeys D0) → ss.length = l.length ∧ (ss.mergeSort (fun x y => decide (x ≤ y))).map encZ = l.flatMap cellsN := fun ss hS => by
    have hp := hS.trans hperm.symm
    refine ⟨hp.length_eq, ?_⟩
    have e : ss.mergeSort leI = l.mergeSort leI := mergeSort_of_perm_i hp
    show (ss.mergeSort leI).map encZ = _
    rw [e, sorted_self hl, map_enc]
  have HFIN := Lib.hid hfin
  clear hF hl hperm hfin h2
  refine (callsIn_wide (n := 6)).1 ?_
  have hbl := hown.lt
  have hseq : SeqGives Fence.wide 2 Tryz.prog 51 #[.pointer (some ⟨w.heap.size, 0, none⟩)] encZ (fun ss => ss.Perm (intKeys D0)) (Maps.size D0) (w.alloc (.cells #[.map (some b)] 58)) :=
    AnyZI.keys_gives (ρ := Tryz.keysA_ren) { Tryz.keysA with } Fence.wide _ trivial rfl (by omega) w.heap.size b n D0 _ (by simp) (by simp) (by
      obtain ⟨es, clock, hb, Ft, hs, hD⟩ := hown
      exact ⟨es, clock, (Below.heap_alloc _ _ b hbl).trans hb, Ft, hs, hD⟩)
  have cK : ∀ mb W, CallsIn Fence.wide 5 Tryz.prog 31 #[.map mb] W fun e w' => e = .returned (.func (.func 51) #[] #[.pointer (some ⟨W.heap.size, 0, none⟩)]) ∧ w' = W.alloc (.cells #[.map mb] 58) := fun mb W => AnyZI.keys_in Tryz.keysA Fence.wide 5 trivial rfl mb W
  have cS := AnyZI.sorted_in Tryz.sortedA Fence.wide 5 trivial trivial trivial trivial rfl (by omega) (sortsA _) (enters_of Tryz.func50 (by kernel_rfl) rfl) 51 #[.pointer (some ⟨w.heap.size, 0, none⟩)] trivial (enters_of Tryz.func51 (by kernel_rfl) rfl) _ _ hmax hbytes _ hseq
  change CallsIn _ _ Tryz.prog 30 _ _ _ at cS
  have hfK : Fence.wide.fn 31 := trivial
  have hfS : Fence.wide.fn 30 := trivial
  refine callsIn_of_wp Tryz.func19 rfl trivial ?_ rfl
  simp only [Tryz.ntmps19, List.size_toArray, List.length_cons, List.length_nil, Nat.reduceAdd, Nat.reduceSub, Array.replicate_succ, Array.replicate_zero, List.push_toArray, List.append_toArray, List.nil_append, List.cons_append]
  gi_wp2_with (first
    | (gi_at_call 31; refine (cK _ _).mono ?_; rintro e w' ⟨rfl, rfl⟩)
    | (gi_at_call 30; refine cS.mono ?_; rintro e w' ⟨v, ss, rfl, hS, hrow, hnil, hb⟩))
  go_ret
  obtain ⟨e1, e2⟩ := HFIN.out ss hS
  rw [e1, e2] at hrow
  exact ⟨v, rfl, ownsRow_base_a hrow (by simp), ((Below.refl _ w).alloc (Nat.le_refl _) _).trans (hb.mono (by simp))⟩
end Go.Proofs.YtnfoplefaibmhaaGreatDoor
