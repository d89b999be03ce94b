/- asm.readLine. -/
import Derived.Test.YtlaihjefmhcmcaaGreatDoorRows
import Derived.WalkKit
import Derived.ProofKit
import Derived.OpenShut
import Derived.WalkLawsBesides
import Derived.WalkSpells
import Derived.Outline
import Derived.Handy
import Derived.Lib.Hide
import Derived.Lib.OthersKept
import Derived.KernelRfl
import Derived.Carry
import Derived.Test.YtlaihjefmhcmcaaGreatDoorAsR
import Derived.Test.YtlaihjefmhcmcaaGreatDoorAsX
namespace Go.Proofs.YtlaihjefmhcmcaaGreatDoor
open Go.ChangeShapes Go.WideShapes Go.ChangeAt Go.RowKit
set_option linter.unusedVariables false
theorem seven_at {w : World} {b : Nat} {v0 v1 v2 v3 v4 v5 v6 : Value} {t : TypeId} (h : w.heap[b]? = some (.cells #[v0, v1, v2, v3, v4, v5, v6] t (0, 0))) :
    (w.cell? ⟨b, 0, none⟩ = some v0 ∧ w.cell? ⟨b, 1, none⟩ = some v1 ∧ w.cell? ⟨b, 2, none⟩ = some v2 ∧ w.cell? ⟨b, 3, none⟩ = some v3 ∧ w.cell? ⟨b, 4, none⟩ = some v4 ∧ w.cell? ⟨b, 5, none⟩ = some v5 ∧ w.cell? ⟨b, 6, none⟩ = some v6) ∧
    w.frozen? ⟨b, 0, none⟩ = false ∧ w.frozen? ⟨b, 1, none⟩ = false ∧ w.frozen? ⟨b, 2, none⟩ = false ∧ w.frozen? ⟨b, 3, none⟩ = false ∧ w.frozen? ⟨b, 4, none⟩ = false ∧ w.frozen? ⟨b, 5, none⟩ = false ∧ w.frozen? ⟨b, 6, none⟩ = false := by
  simp [World.cell?, World.frozen?, h]
def lnC (x : Ln) : Array Value := #[.string (mk x.label), .int .i64 x.ins.op, .int .i64 x.ins.d, .int .i64 x.ins.a, .int .i64 x.ins.b, .int .i64 x.ins.n, .string (mk x.ins.name)]
theorem set7 (v0 v1 v2 v3 v4 v5 v6 a b c d e f g : Value) : (((((((#[v0, v1, v2, v3, v4, v5, v6] : Array Value).setIfInBounds 0 a).setIfInBounds 1 b).setIfInBounds 2 c).setIfInBounds 3 d).setIfInBounds 4 e).setIfInBounds 5 f).setIfInBounds 6 g = #[a, b, c, d, e, f, g] := by simp
theorem seven_store {w wr : World} {b : Nat} {v0 v1 v2 v3 v4 v5 v6 : Value} {t : TypeId} (h : wr.heap[b]? = some (.cells #[v0, v1, v2, v3, v4, v5, v6] t (0, 0))) (hb : Below w.heap.size w wr) (hB : w.heap.size ≤ b) (x : Ln) :
    ∃ wf, ((((((wr.setCell ⟨b, 0, none⟩ (.string (mk x.label))).setCell ⟨b, 1, none⟩ (.int .i64 x.ins.op)).setCell ⟨b, 2, none⟩ (.int .i64 x.ins.d)).setCell ⟨b, 3, none⟩ (.int .i64 x.ins.a)).setCell ⟨b, 4, none⟩ (.int .i64 x.ins.b)).setCell ⟨b, 5, none⟩ (.int .i64 x.ins.n)).setCell ⟨b, 6, none⟩ (.string (mk x.ins.name)) = wf ∧ wf.heap[b]? = some (.cells (lnC x) t (0, 0)) ∧ Below w.heap.size w wf := by
  have h0 := heap_setCell_same _ _ 0 _ _ (.string (mk x.label)) h
  have h1 := heap_setCell_same _ _ 1 _ _ (.int .i64 x.ins.op) h0
  have h2 := heap_setCell_same _ _ 2 _ _ (.int .i64 x.ins.d) h1
  have h3 := heap_setCell_same _ _ 3 _ _ (.int .i64 x.ins.a) h2
  have h4 := heap_setCell_same _ _ 4 _ _ (.int .i64 x.ins.b) h3
  have h5 := heap_setCell_same _ _ 5 _ _ (.int .i64 x.ins.n) h4
  have h6 := heap_setCell_same _ _ 6 _ _ (.string (mk x.ins.name)) h5
  exact ⟨_, rfl, h6.trans (congrArg (fun c => some (Obj.cells c t (0, 0))) (set7 _ _ _ _ _ _ _ _ _ _ _ _ _ _)), ext_set (ext_set (ext_set (ext_set (ext_set (ext_set (ext_set hb hB _) hB _) hB _) hB _) hB _) hB _) hB _⟩
def LnRes (l : List UInt8) (e : Ending) : Prop := (∃ x, readLn l = some x ∧ e = .returned (.tuple #[lnV x, .bool true])) ∨ (readLn l = none ∧ ∃ y, e = .returned (.tuple #[lnV y, .bool false]))
set_option maxHeartbeats 1000000 in
set_option maxRecDepth 100000 in
theorem readLine_any (l : List UInt8) (hl : l.length ≤ 100000) (w : World) (hv : Env w) : Calls Tryz.prog 22 #[.string (mk l)] w fun e w' => LnRes l e ∧ Below w.heap.size w w' := by
  have HP := Lib.hid (fun w => cuts_any l hl w)
  have HV := Lib.hid hv
  clear hv
  by_cases hb : l.getLast? = some 58
  · have HL := Lib.hid (fun w => label_any l.dropLast w (by rw [List.length_dropLast]; omega))
    have HR : Hid (readLn l = if labelB l.dropLast then some ⟨l.dropLast, zeroI⟩ else none) := Lib.hid (by unfold readLn; rw [if_pos hb])
    rw [if_pos hb] at HP
    clear hb
    generalize l.dropLast = L2 at *
    cases hlb : labelB L2
    all_goals
      rw [hlb] at HL HR
      clear hlb
      go_enter Tryz.func22, Tryz.ntmps22
      go_wp2_with fail
      refine (HP.out _).mono ?_; rintro e w' ⟨rfl, rfl⟩
      go_wp2_with fail
      refine (HL.out _).mono ?_; rintro e w' ⟨rfl, rfl⟩
      go_wp2_with fail
    · exact bodyPost_ret (v := .tuple #[lnV ⟨L2, zeroI⟩, .bool false]) (by simp [results, Tryz.results22, go_sem, lnV, zeroI]; rfl) rfl ⟨.inr ⟨by rw [HR.out]; rfl, _, rfl⟩, ext_alloc (Below.refl _ _) _⟩
    · exact bodyPost_ret (v := .tuple #[lnV ⟨L2, zeroI⟩, .bool true]) (by simp [results, Tryz.results22, go_sem, lnV, zeroI]; rfl) rfl ⟨.inl ⟨_, by rw [HR.out]; rfl, rfl⟩, ext_alloc (Below.refl _ _) _⟩
  · have HPA := Lib.hid (fun w hv => parse_any l hl w hv)
    have HR : Hid (readLn l = (readI2 l).map fun x => ⟨[], x⟩) := Lib.hid (by unfold readLn; rw [if_neg hb])
    rw [if_neg hb] at HP
    clear hb
    go_enter Tryz.func22, Tryz.ntmps22
    go_wp2_with fail
    refine (HP.out _).mono ?_; rintro e w' ⟨rfl, rfl⟩
    go_wp2_with fail
    refine (HPA.out _ (HV.out.ext (ext_alloc (Below.refl _ _) _))).mono ?_; rintro e w1 ⟨hres, g1⟩
    have G1 := Lib.hid (ext_trans (ext_alloc (Below.refl w.heap.size w) _) g1)
    have B1 := (g1.block w.heap.size (by simp)).trans (heap_new w _)
    have l1 : w.heap.size < w1.heap.size := (Array.getElem?_eq_some_iff.1 B1).1
    have HB1 := Lib.hid B1
    clear g1 B1
    have key : ∃ (x : In) (n : Int), Hid (e = .returned (.tuple #[inV x, .int .i64 n]) ∧ (if n = 0 then readI2 l = some x else readI2 l = none)) ∧ (n = 0 ∨ n = 60) := by
      rcases hres with ⟨x, h1, h2, rfl, h4⟩ | ⟨h1, h2⟩
      · exact ⟨x, 0, Lib.hid ⟨h4, by rw [if_pos rfl]; exact readI2_some h1 h2⟩, .inl rfl⟩
      · exact ⟨zeroI, 60, Lib.hid ⟨h2, by rw [if_neg (by decide)]; exact readI2_none h1⟩, .inr rfl⟩
    clear hres
    obtain ⟨x, n, hk, hn⟩ := key
    rw [hk.out.1]
    unfold inV
    have HE : Hid ((n = 0 → readLn l = some ⟨[], x⟩) ∧ (n = 60 → readLn l = none)) := Lib.hid ⟨fun h => by have := hk.out.2; rw [if_pos h] at this; rw [HR.out, this]; rfl, fun h => by have := hk.out.2; rw [if_neg (by omega)] at this; rw [HR.out, this]; rfl⟩
    clear hk
    have B2 := (Lib.alloc_old w1 (.cells #[.int .i64 x.op, .int .i64 x.d, .int .i64 x.a, .int .i64 x.b, .int .i64 x.n, .string (mk x.name)] 46) w.heap.size l1).trans HB1.out
    have N2 := heap_new w1 (.cells #[.int .i64 x.op, .int .i64 x.d, .int .i64 x.a, .int .i64 x.b, .int .i64 x.n, .string (mk x.name)] 46)
    have G2 := Lib.hid (ext_alloc G1.out (.cells #[.int .i64 x.op, .int .i64 x.d, .int .i64 x.a, .int .i64 x.b, .int .i64 x.n, .string (mk x.name)] 46))
    have HB2 := Lib.hid B2
    have HN2 := Lib.hid N2
    clear B2 N2 HB1
    go_upto_region 5 with (fail)
    obtain ⟨w2, hw2⟩ : ∃ w2, w1.alloc (.cells #[.int .i64 x.op, .int .i64 x.d, .int .i64 x.a, .int .i64 x.b, .int .i64 x.n, .string (mk x.name)] 46) = w2 := ⟨_, rfl⟩
    rw [hw2] at HB2 HN2 G2 ⊢
    clear hw2
    obtain ⟨⟨c0, c1, c2, c3, c4, c5, c6⟩, g0, g1, g2, g3, g4, g5, g6⟩ := seven_at HB2.out
    obtain ⟨⟨d0, d1, d2, d3, d4, d5⟩, f0, f1, f2, f3, f4, f5⟩ := six_at HN2.out
    obtain ⟨wf, hwf, hhf, hbf⟩ := seven_store HB2.out G2.out (Nat.le_refl _) ⟨[], x⟩
    have HWF := Lib.hid hwf
    have HHF := Lib.hid hhf
    have HBF := Lib.hid hbf
    clear hwf hhf hbf
    rcases hn with rfl | rfl
    · go_wp2_with fail
      refine bodyPost_world HWF.out ?_
      clear c0 c1 c2 c3 c4 c5 c6 g0 g1 g2 g3 g4 g5 g6 d0 d1 d2 d3 d4 d5 f0 f1 f2 f3 f4 f5
      obtain ⟨⟨c0, c1, c2, c3, c4, c5, c6⟩, _⟩ := seven_at HHF.out
      exact bodyPost_ret (v := .tuple #[lnV ⟨[], x⟩, .bool true]) (by simp [results, Tryz.results22, go_sem, lnV, c0, c1, c2, c3, c4, c5, c6]) rfl ⟨.inl ⟨_, HE.out.1 (by simp), rfl⟩, HBF.out⟩
    · go_wp2_with fail
      refine bodyPost_world HWF.out ?_
      clear c0 c1 c2 c3 c4 c5 c6 g0 g1 g2 g3 g4 g5 g6 d0 d1 d2 d3 d4 d5 f0 f1 f2 f3 f4 f5
      obtain ⟨⟨c0, c1, c2, c3, c4, c5, c6⟩, _⟩ := seven_at HHF.out
      exact bodyPost_ret (v := .tuple #[lnV ⟨[], x⟩, .bool false]) (by simp [results, Tryz.results22, go_sem, lnV, c0, c1, c2, c3, c4, c5, c6]) rfl ⟨.inr ⟨HE.out.2 (by simp), _, rfl⟩, HBF.out⟩
end Go.Proofs.YtlaihjefmhcmcaaGreatDoor
