/- asm.lineFault: what is wrong with a line. -/
import Derived.Test.YtlaihjefmhcmcaaGreatDoorRows
import Derived.WalkKit
import Derived.ProofKit
import Derived.OpenShut
import Derived.WalkLawsBesides
import Derived.WalkSpells
import Derived.Outline
import Derived.Handy
import Derived.Lib.Hide
import Derived.Lib.OthersKept
import Derived.KernelRfl
import Derived.Carry
import Derived.Test.YtlaihjefmhcmcaaGreatDoorAs1
import Derived.Test.YtlaihjefmhcmcaaGreatDoorAsW
import Derived.Test.YtlaihjefmhcmcaaGreatDoorInC
import Derived.Test.YtlaihjefmhcmcaaGreatDoorInD
namespace Go.Proofs.YtlaihjefmhcmcaaGreatDoor
open Go.ChangeShapes Go.WideShapes Go.ChangeAt Go.RowKit
set_option linter.unusedVariables false
def lnV (l : Ln) : Value := .agg #[.string (mk l.label), .int .i64 l.ins.op, .int .i64 l.ins.d, .int .i64 l.ins.a, .int .i64 l.ins.b, .int .i64 l.ins.n, .string (mk l.ins.name)]
theorem ins_ext {y x : In} (h0 : y.op = x.op) (h1 : y.d = x.d) (h2 : y.a = x.a) (h3 : y.b = x.b) (h4 : y.n = x.n) (h5 : y.name = x.name) : y = x := by
  cases y; cases x; simp_all
theorem ie_nil : ([] : List UInt8).isEmpty = true := rfl
theorem ie_ne {l : List UInt8} (h : l ≠ []) : l.isEmpty = false := by cases l <;> simp_all
set_option maxRecDepth 100000 in
theorem lineFault_lab (lab : List UInt8) (x : In) (i : Int) (ba bl na nl : Nat) (fa fl : List UInt8 → Option Int) (w : World) (hl : IMap w bl nl fl) (h0 : lab ≠ []) (z0 : lab.length ≤ 140737488355328) (z1 : x.name.length ≤ 140737488355328) :
    Calls Tryz.prog 47 #[lnV ⟨lab, x⟩, .int .i64 i, .map (some ba), .map (some bl)] w fun e w' => e = .returned (.int .i64 (lineG fa fl i ⟨lab, x⟩)) ∧ Below w.heap.size w w' := by
  have HL := Lib.hid (fun w => label_any lab w (by omega))
  have HM := Lib.hid hl
  have tl : (mk lab).toList = lab := mk_tl _
  have hie := ie_ne h0
  have hlm : lab.length ≤ maxLen := by unfold maxLen; omega
  unfold lnV
  clear hl
  cases hb : labelB lab
  · have HG : Hid (lineG fa fl i ⟨lab, x⟩ = 60) := Lib.hid (by unfold lineG; rw [if_pos h0, if_pos (.inl hb)])
    rw [hb] at HL
    clear hb h0
    go_enter Tryz.func47, Tryz.ntmps47
    go_wp2_with fail
    refine (HL.out _).mono ?_; rintro e w1 ⟨rfl, rfl⟩
    go_wp2_with fail
    go_ret
    exact ⟨by rw [HG.out]; rfl, ext_alloc (Below.refl _ _) _⟩
  · by_cases hz : x = zeroI
    · have HG : Hid (lineG fa fl i ⟨lab, x⟩ = if (fl lab).getD 0 < i then 61 else 0) := Lib.hid (by unfold lineG; rw [if_pos h0, if_neg (fun k => k.elim (fun k => by rw [hb] at k; cases k) (fun k => k hz))])
      subst hz
      have hnil : (.agg #[.string (mk lab), .int .i64 zeroI.op, .int .i64 zeroI.d, .int .i64 zeroI.a, .int .i64 zeroI.b, .int .i64 zeroI.n, .string (mk zeroI.name)] : Value) = .agg #[.string (mk lab), .int .i64 0, .int .i64 0, .int .i64 0, .int .i64 0, .int .i64 0, .string ⟨#[]⟩] := rfl
      simp only
      rw [hnil]
      clear hnil
      rw [hb] at HL
      clear hb h0
      generalize hv : (fl lab).getD 0 = v at *
      have hpos := hv
      clear hv
      by_cases hlt : v < i
      all_goals
        go_enter Tryz.func47, Tryz.ntmps47
        go_wp2_with fail
        refine (HL.out _).mono ?_; rintro e w1 ⟨rfl, rfl⟩
        go_wp2_with (at_lookup; refine wp_look bl nl fl (HM.out.ext (ext_alloc (Below.refl _ _) _)) lab hlm rfl _ _ rfl rfl rfl ?_)
        go_ret
        exact ⟨by rw [HG.out]; first | (rw [if_pos hlt]; rfl) | (rw [if_neg (by omega)]; rfl), ext_alloc (Below.refl _ _) _⟩
    · have HG : Hid (lineG fa fl i ⟨lab, x⟩ = 60) := Lib.hid (by unfold lineG; rw [if_pos h0, if_pos (.inr hz)])
      have HZ := Lib.hid hz
      obtain ⟨op, d, a, b, n, name⟩ := x
      have tn : (mk name).toList = name := mk_tl _
      rw [hb] at HL
      clear hb h0 hz
      go_enter Tryz.func47, Tryz.ntmps47
      go_wp2_with fail
      refine (HL.out _).mono ?_; rintro e w1 ⟨rfl, rfl⟩
      go_wp2_with fail
      all_goals first
        | (go_ret; exact ⟨by rw [HG.out]; rfl, ext_alloc (Below.refl _ _) _⟩)
        | exact absurd (ins_ext ‹_› ‹_› ‹_› ‹_› ‹_› ‹_›) HZ.out
theorem bne_nil {l : List UInt8} (h : l ≠ []) : (!l.isEmpty) = true := by cases l <;> simp_all
set_option maxRecDepth 100000 in
theorem lineFault_ins (x : In) (i : Int) (ba bl na nl : Nat) (fa fl : List UInt8 → Option Int) (w : World) (ha : IMap w ba na fa) (hl : IMap w bl nl fl) (z1 : x.name.length ≤ 140737488355328) :
    Calls Tryz.prog 47 #[lnV ⟨[], x⟩, .int .i64 i, .map (some ba), .map (some bl)] w fun e w' => e = .returned (.int .i64 (lineG fa fl i ⟨[], x⟩)) ∧ Below w.heap.size w w' := by
  have HR := Lib.hid (fun w => right_any x w z1)
  have HM := Lib.hid hl
  have HA := Lib.hid ha
  have hnil : mk [] = ⟨#[]⟩ := rfl
  have hlm : x.name.length ≤ maxLen := by unfold maxLen; omega
  have tn : (mk x.name).toList = x.name := mk_tl _
  unfold lnV
  simp only
  rw [hnil]
  clear ha hl hnil
  unfold inV at HR
  cases hb : rightB x
  · have HG : Hid (lineG fa fl i ⟨[], x⟩ = 60) := Lib.hid (by unfold lineG; rw [if_neg (by simp), if_pos hb])
    rw [hb] at HR
    clear hb
    go_enter Tryz.func47, Tryz.ntmps47
    go_wp2_with fail
    refine (HR.out _).mono ?_; rintro e w1 ⟨rfl, g1⟩
    go_wp2_with fail
    go_ret
    exact ⟨by rw [HG.out]; rfl, ext_trans (ext_alloc (Below.refl _ _) _) g1⟩
  · have HG : Hid (lineG fa fl i ⟨[], x⟩ = if x.name ≠ [] ∧ (if x.op = 17 then (fa x.name).isSome else (fl x.name).isSome) = false then 61 else 0) := Lib.hid (by unfold lineG; rw [if_neg (by simp), if_neg (by show ¬ rightB x = false; rw [hb]; simp)])
    rw [hb] at HR
    clear hb
    obtain ⟨op, d, a, b, n, name⟩ := x
    simp only at HR HG hlm tn z1
    by_cases h17 : op = 17
    · subst h17
      have HG2 : Hid (lineG fa fl i ⟨[], ⟨17, d, a, b, n, name⟩⟩ = if name ≠ [] ∧ (fa name).isSome = false then 61 else 0) := Lib.hid (by rw [HG.out, if_pos rfl])
      clear HG
      generalize hs : (fa name).isSome = s at *
      have hsv := hs
      clear hs
      cases s
      all_goals
        by_cases hn : name = []
        all_goals
          have hie : name.isEmpty = decide (name = []) := by cases name <;> rfl
          have HN := Lib.hid hn
          first | rw [decide_eq_true hn] at hie | rw [decide_eq_false hn] at hie
          clear hn
          go_enter Tryz.func47, Tryz.ntmps47
          go_wp2_with fail
          refine (HR.out _).mono ?_; rintro e w1 ⟨rfl, g1⟩
          have q1 := (g1.block w.heap.size (by simp)).trans (heap_new w _)
          have q2 := cell_row q1 1
          have q3 := cell_row q1 6
          have G1 := Lib.hid (ext_trans (ext_alloc (Below.refl w.heap.size w) _) g1)
          have hAw := Lib.hid (HA.out.ext G1.out)
          clear q1 g1
          go_wp2_with (at_lookup; refine wp_look_ok ba na fa hAw.out name hlm rfl _ _ rfl rfl rfl ?_)
          go_ret
          exact ⟨by rw [HG2.out]; split <;> (first | rfl | (rename_i k; have hh := HN.out; exfalso; revert k hh; simp)), G1.out⟩
    · have h17b : (op == 17) = false := beq_eq_false_iff_ne.2 h17
      have HG2 : Hid (lineG fa fl i ⟨[], ⟨op, d, a, b, n, name⟩⟩ = if name ≠ [] ∧ (fl name).isSome = false then 61 else 0) := Lib.hid (by rw [HG.out, if_neg h17])
      clear HG h17
      generalize hs : (fl name).isSome = s at *
      have hsv := hs
      clear hs
      cases s
      all_goals
        by_cases hn : name = []
        all_goals
          have hie : name.isEmpty = decide (name = []) := by cases name <;> rfl
          have HN := Lib.hid hn
          first | rw [decide_eq_true hn] at hie | rw [decide_eq_false hn] at hie
          clear hn
          go_enter Tryz.func47, Tryz.ntmps47
          go_wp2_with fail
          refine (HR.out _).mono ?_; rintro e w1 ⟨rfl, g1⟩
          have q1 := (g1.block w.heap.size (by simp)).trans (heap_new w _)
          have q2 := cell_row q1 1
          have q3 := cell_row q1 6
          have G1 := Lib.hid (ext_trans (ext_alloc (Below.refl w.heap.size w) _) g1)
          have hLw := Lib.hid (HM.out.ext G1.out)
          clear q1 g1
          go_wp2_with (at_lookup; refine wp_look_ok bl nl fl hLw.out name hlm rfl _ _ rfl rfl rfl ?_)
          go_ret
          exact ⟨by rw [HG2.out]; split <;> (first | rfl | (rename_i k; have hh := HN.out; exfalso; revert k hh; simp)), G1.out⟩
theorem lineFault_any (l : Ln) (i : Int) (ba bl na nl : Nat) (fa fl : List UInt8 → Option Int) (w : World) (ha : IMap w ba na fa) (hl : IMap w bl nl fl) (z0 : l.label.length ≤ 140737488355328) (z1 : l.ins.name.length ≤ 140737488355328) :
    Calls Tryz.prog 47 #[lnV l, .int .i64 i, .map (some ba), .map (some bl)] w fun e w' => e = .returned (.int .i64 (lineG fa fl i l)) ∧ Below w.heap.size w w' := by
  obtain ⟨lab, x⟩ := l
  by_cases h : lab = []
  · subst h; exact lineFault_ins x i ba bl na nl fa fl w ha hl z1
  · exact lineFault_lab lab x i ba bl na nl fa fl w hl h z0 z1
end Go.Proofs.YtlaihjefmhcmcaaGreatDoor
