/- ir's names: what is asked of instructions and ends. -/
import Derived.Test.YtafapkljlajflaaDoorRows
import Derived.WalkKit
import Derived.ProofKit
import Derived.OpenShut
import Derived.WalkLawsBesides
import Derived.WalkSpells
import Derived.Outline
import Derived.Handy
import Derived.Lib.Hide
import Derived.Lib.OthersKept
import Derived.KernelRfl
import Derived.Carry
import Derived.RegionTactic
import Derived.BigRegion
import Derived.OwnWalk
import Derived.Deep.Cut
import Derived.IntWalk
import Derived.Deep.QuietTactic
import Derived.BigQuiet
import Derived.Test.YtafapkljlajflaaDoorUn
import Derived.Test.YtafapkljlajflaaDoorUm
namespace Go.Proofs.YtafapkljlajflaaDoor
open Go.ChangeShapes Go.WideShapes Go.ChangeAt Go.RowKit
open Go.Maps (Keyed IsMap)
open Go.MapKept Go.WideMaps Go.ChangeMaps
set_option linter.unusedVariables false
set_option maxRecDepth 100000 in
theorem imap_look {w : World} {b n : Nat} {F : List UInt8 → Option Int} (hown : IMap w b n F) (k : List UInt8) (hk : k.length ≤ maxLen) : (Instr.lookup 76 (.map (some b)) (.string (mk k)) false).run Tryd.prog w = .ok (.int .i64 ((F k).getD 0)) w := by
  obtain ⟨D, h1, h2⟩ := hown
  obtain ⟨c, hr, hat, _⟩ := h1.lookup_int sKeyed Tryd.underlying76 Tryd.underlying3 (zeroInt w) (keyS k hk)
  obtain ⟨e1, e2⟩ := h2 k
  rw [e2] at hat
  injection hat with hat
  injection hat with _ hat
  exact hat ▸ hr
/-- What a store into it runs to. -/
theorem imap_put {w : World} {b n : Nat} {F : List UInt8 → Option Int} (hown : IMap w b n F) (hn : n < 140737488355328) (k : List UInt8) (hk : k.length ≤ maxLen) (c : Int) (hc : I64 c) :
    ∃ w', (Instr.mapUpdate 76 (.map (some b)) (.string (mk k)) (.int .i64 c)).run Tryd.prog w = .ok () w' ∧ IMap w' b (n + 1) (putF F k c) ∧ w.grownBy w' (some b) := by
  obtain ⟨D, h1, h2⟩ := hown
  obtain ⟨w', hr, h3, hgr⟩ := h1.update sKeyed Tryd.underlying76 (by unfold maxLen; omega) (keyS k hk) (plainElem_int Tryd.underlying3 (i64_wf hc))
  refine ⟨w', hr, ⟨_, h3, fun y => ?_⟩, hgr⟩
  obtain ⟨e1, e2⟩ := h2 y
  have hD : IsMap D := h1.isMap
  unfold putF
  by_cases e : y = k
  · subst e
    rw [if_pos rfl]
    exact ⟨Maps.has_put_same hD (keyLit y hk) _, Maps.atKey_put_same hD (keyLit y hk) _ _⟩
  · have hne : Lit.string y ≠ Lit.string k := fun h => e (by injection h)
    rw [if_neg e]
    exact ⟨(Maps.has_put_other hne _).trans e1, (Maps.atKey_put_other hne _ _).trans e2⟩
/-- The block that holds a unit, and the places of its names. -/
structure NI (w : World) (b : Nat) (u : Un) (va vf : Value) (ba na bf nf : Nat) (FA FF : List UInt8 → Option Int) : Prop where
  of ::
  bx : w.heap[b]? = some (.cells #[va, vf, .map (some ba), .map (some bf)] 78 (0, 0))
  ma : IMap w ba na FA
  mf : IMap w bf nf FF
  ar : ArsAt (fun _ => True) w va u.arrays
  fl : FlsAt (fun _ => True) w vf u.flows
section
variable {w w' : World} {b : Nat} {u : Un} {va vf : Value} {ba na bf nf : Nat} {FA FF : List UInt8 → Option Int}
theorem NI.ext (h : NI w b u va vf ba na bf nf FA FF) (g : Below w.heap.size w w') : NI w' b u va vf ba na bf nf FA FF :=
  ⟨(g.block b (Array.getElem?_eq_some_iff.1 h.bx).1).trans h.bx, h.ma.ext g, h.mf.ext g, ars_kept h.ar (kept_below g), fls_kept h.fl (kept_below g)⟩
theorem NI.lt (h : NI w b u va vf ba na bf nf FA FF) : b < w.heap.size := (Array.getElem?_eq_some_iff.1 h.bx).1
end
theorem four_at' {w : World} {b : Nat} {v0 v1 v2 v3 : Value} {t : TypeId} (h : w.heap[b]? = some (.cells #[v0, v1, v2, v3] t (0, 0))) :
    w.cell? ⟨b, 0, none⟩ = some v0 ∧ w.cell? ⟨b, 1, none⟩ = some v1 ∧ w.cell? ⟨b, 2, none⟩ = some v2 ∧ w.cell? ⟨b, 3, none⟩ = some v3 := by
  simp [World.cell?, h]
def freeB (FA FF : List UInt8 → Option Int) (n : List UInt8) : Bool := nameC n && !(FA n).isSome && !(FF n).isSome
set_option maxRecDepth 100000 in
theorem free_any {w : World} {b : Nat} {u : Un} {va vf : Value} {ba na bf nf : Nat} {FA FF : List UInt8 → Option Int} (h : NI w b u va vf ba na bf nf FA FF) (name : List UInt8) (hl : name.length ≤ 140737488355328) :
    Calls Tryd.prog 39 #[.pointer (some ⟨b, 0, none⟩), .string (mk name)] w fun e w' => e = .returned (.bool (freeB FA FF name)) ∧ Below w.heap.size w w' := by
  have HN := Lib.hid h
  have hlm : name.length ≤ maxLen := by unfold maxLen; omega
  obtain ⟨s0, s1, s2, s3⟩ := four_at' h.bx
  have HC := Lib.hid (fun w => name_calls (mk name) w (by show name.length ≤ _; omega))
  have E : Hid (freeB FA FF name = (nameB (mk name) && !(FA name).isSome && !(FF name).isSome)) := Lib.hid rfl
  clear h s0 s1
  generalize nameB (mk name) = x at *
  generalize hA : (FA name).isSome = y at *
  generalize hF : (FF name).isSome = z at *
  have hA2 := hA
  have hF2 := hF
  clear hA hF
  cases x
  case false =>
    go_enter Tryd.func39, Tryd.ntmps39
    go_wp2_with (first | (at_lookup; refine wp_look_ok ba na FA (HN.out.ext (Below.refl _ _)).ma name hlm rfl _ _ rfl rfl rfl ?_) | (at_lookup; refine wp_look_ok bf nf FF (HN.out.ext (Below.refl _ _)).mf name hlm rfl _ _ rfl rfl rfl ?_))
    refine (HC.out _).mono ?_; rintro e w1 ⟨rfl, g1⟩
    go_wp2_with fail
    go_ret
    exact ⟨by rw [E.out]; rfl, g1⟩
  case true =>
    cases y
    case true =>
      go_enter Tryd.func39, Tryd.ntmps39
      go_wp2_with (first | (at_lookup; refine wp_look_ok ba na FA (HN.out.ext (Below.refl _ _)).ma name hlm rfl _ _ rfl rfl rfl ?_) | (at_lookup; refine wp_look_ok bf nf FF (HN.out.ext (Below.refl _ _)).mf name hlm rfl _ _ rfl rfl rfl ?_))
      refine (HC.out _).mono ?_; rintro e w1 ⟨rfl, g1⟩
      go_wp2_with fail
      go_ret
      exact ⟨by rw [E.out]; rfl, g1⟩
    case false =>
      cases z
      all_goals
        go_enter Tryd.func39, Tryd.ntmps39
        go_wp2_with (first | (at_lookup; refine wp_look_ok ba na FA (HN.out.ext (Below.refl _ _)).ma name hlm rfl _ _ rfl rfl rfl ?_) | (at_lookup; refine wp_look_ok bf nf FF (HN.out.ext (Below.refl _ _)).mf name hlm rfl _ _ rfl rfl rfl ?_))
        refine (HC.out _).mono ?_; rintro e w1 ⟨rfl, g1⟩
        go_wp2_with fail
        go_ret
        exact ⟨by rw [E.out]; rfl, g1⟩
def namM (FA FF : List UInt8 → Option Int) (k : Int) (n : List UInt8) : Bool := if k = 5 ∨ k = 6 then (FA n).isSome else if k = 9 then (FF n).isSome else decide (n = [])
set_option maxRecDepth 100000 in
set_option maxHeartbeats 4000000 in
theorem rname_any {w : World} {b : Nat} {u : Un} {va vf : Value} {ba na bf nf : Nat} {FA FF : List UInt8 → Option Int} (h : NI w b u va vf ba na bf nf FA FF) (k : Int) (name : List UInt8) (hl : name.length ≤ 140737488355328) :
    Calls Tryd.prog 50 #[.pointer (some ⟨b, 0, none⟩), .int .i64 (hasK k), .string (mk name)] w fun e w' => e = .returned (.bool (namM FA FF k name)) ∧ w = w' := by
  have HN := Lib.hid h
  have hlm : name.length ≤ maxLen := by unfold maxLen; omega
  obtain ⟨s0, s1, s2, s3⟩ := four_at' h.bx
  have tn : (mk name).toList = name := mk_tl _
  have E : Hid (namM FA FF k name = if k = 5 ∨ k = 6 then (FA name).isSome else if k = 9 then (FF name).isSome else decide (name = [])) := Lib.hid rfl
  have hie : name.isEmpty = decide (name = []) := by cases name <;> rfl
  clear h s0 s1
  generalize hA : (FA name).isSome = y at *
  generalize hF : (FF name).isSome = z at *
  have hA2 := hA
  have hF2 := hF
  clear hA hF
  have HIE := Lib.hid hie
  clear hie
  rcases hasK_all k with h | h | h | h | h | h | h | h | h | h
  · rw [hasK_no h]
    have E2 : Hid (namM FA FF k name = decide (name = [])) := Lib.hid (by rw [E.out, if_neg (by omega), if_neg (by omega)])
    clear h E
    by_cases hn : name = []
    · subst hn
      have hnil : mk [] = ⟨#[]⟩ := rfl
      rw [hnil]
      clear hnil
      go_enter Tryd.func50, Tryd.ntmps50
      go_wp2_with (first | (at_lookup; refine wp_look_ok ba na FA (HN.out.ext (Below.refl _ _)).ma [] hlm rfl _ _ rfl rfl rfl ?_) | (at_lookup; refine wp_look_ok bf nf FF (HN.out.ext (Below.refl _ _)).mf [] hlm rfl _ _ rfl rfl rfl ?_))
      go_ret
      exact ⟨by rw [E2.out]; rfl, rfl⟩
    · have hne := HIE.out
      rw [decide_eq_false hn] at E2 hne
      clear hn
      go_enter Tryd.func50, Tryd.ntmps50
      go_wp2_with (first | (at_lookup; refine wp_look_ok ba na FA (HN.out.ext (Below.refl _ _)).ma name hlm rfl _ _ rfl rfl rfl ?_) | (at_lookup; refine wp_look_ok bf nf FF (HN.out.ext (Below.refl _ _)).mf name hlm rfl _ _ rfl rfl rfl ?_))
      go_ret
      exact ⟨by rw [E2.out]; rfl, rfl⟩
  all_goals
    subst h
    unfold hasK
  all_goals
    by_cases hn : name = []
    · subst hn
      have hnil : mk [] = ⟨#[]⟩ := rfl
      rw [hnil]
      clear hnil
      go_enter Tryd.func50, Tryd.ntmps50
      go_wp2_with (first | (at_lookup; refine wp_look_ok ba na FA (HN.out.ext (Below.refl _ _)).ma [] hlm rfl _ _ rfl rfl rfl ?_) | (at_lookup; refine wp_look_ok bf nf FF (HN.out.ext (Below.refl _ _)).mf [] hlm rfl _ _ rfl rfl rfl ?_))
      go_ret
      exact ⟨by rw [E.out]; rfl, rfl⟩
    · have hne := HIE.out
      have hnb : decide (name = []) = false := decide_eq_false hn
      rw [hnb] at E hne
      clear hn hnb
      go_enter Tryd.func50, Tryd.ntmps50
      go_wp2_with (first | (at_lookup; refine wp_look_ok ba na FA (HN.out.ext (Below.refl _ _)).ma name hlm rfl _ _ rfl rfl rfl ?_) | (at_lookup; refine wp_look_ok bf nf FF (HN.out.ext (Below.refl _ _)).mf name hlm rfl _ _ rfl rfl rfl ?_))
      go_ret
      exact ⟨by rw [E.out]; rfl, rfl⟩
end Go.Proofs.YtafapkljlajflaaDoor
