/- What instructions may be. -/
import Derived.Test.YtlaihjefmhcmcaaGreatDoorRows
import Derived.WalkKit
import Derived.ProofKit
import Derived.OpenShut
import Derived.WalkLawsBesides
import Derived.WalkSpells
import Derived.Outline
import Derived.Handy
import Derived.Lib.Hide
import Derived.Lib.OthersKept
import Derived.KernelRfl
import Derived.Test.YtlaihjefmhcmcaaGreatDoorInB
import Derived.Test.YtlaihjefmhcmcaaGreatDoorInC
namespace Go.Proofs.YtlaihjefmhcmcaaGreatDoor
open Go.ChangeShapes Go.WideShapes Go.ChangeAt Go.RowKit
set_option linter.unusedVariables false
abbrev inC (x : In) : Array Value := #[.int .i64 x.op, .int .i64 x.d, .int .i64 x.a, .int .i64 x.b, .int .i64 x.n, .string (mk x.name)]
theorem six_at {w : World} {b : Nat} {v0 v1 v2 v3 v4 v5 : Value} {t : TypeId} (h : w.heap[b]? = some (.cells #[v0, v1, v2, v3, v4, v5] t (0, 0))) :
    (w.cell? ⟨b, 0, none⟩ = some v0 ∧ w.cell? ⟨b, 1, none⟩ = some v1 ∧ w.cell? ⟨b, 2, none⟩ = some v2 ∧ w.cell? ⟨b, 3, none⟩ = some v3 ∧ w.cell? ⟨b, 4, none⟩ = some v4 ∧ w.cell? ⟨b, 5, none⟩ = some v5) ∧
    w.frozen? ⟨b, 0, none⟩ = false ∧ w.frozen? ⟨b, 1, none⟩ = false ∧ w.frozen? ⟨b, 2, none⟩ = false ∧ w.frozen? ⟨b, 3, none⟩ = false ∧ w.frozen? ⟨b, 4, none⟩ = false ∧ w.frozen? ⟨b, 5, none⟩ = false := by
  simp [World.cell?, World.frozen?, h]
theorem six_store {w0 w : World} {b : Nat} {v0 v1 v2 v3 v4 v5 : Value} {t : TypeId} (h : w.heap[b]? = some (.cells #[v0, v1, v2, v3, v4, v5] t (0, 0))) (hb : Below w0.heap.size w0 w) (hB : w0.heap.size ≤ b) (x : In) :
    ∃ wf, (((((w.setCell ⟨b, 0, none⟩ (.int .i64 x.op)).setCell ⟨b, 1, none⟩ (.int .i64 x.d)).setCell ⟨b, 2, none⟩ (.int .i64 x.a)).setCell ⟨b, 3, none⟩ (.int .i64 x.b)).setCell ⟨b, 4, none⟩ (.int .i64 x.n)).setCell ⟨b, 5, none⟩ (.string (mk x.name)) = wf ∧ wf.heap[b]? = some (.cells (inC x) t (0, 0)) ∧ Below w0.heap.size w0 wf := by
  have h1 := heap_setCell_same _ _ 0 _ _ (.int .i64 x.op) h
  have h2 := heap_setCell_same _ _ 1 _ _ (.int .i64 x.d) h1
  have h3 := heap_setCell_same _ _ 2 _ _ (.int .i64 x.a) h2
  have h4 := heap_setCell_same _ _ 3 _ _ (.int .i64 x.b) h3
  have h5 := heap_setCell_same _ _ 4 _ _ (.int .i64 x.n) h4
  have h6 := heap_setCell_same _ _ 5 _ _ (.string (mk x.name)) h5
  exact ⟨_, rfl, h6.trans rfl, ext_set (ext_set (ext_set (ext_set (ext_set (ext_set hb hB _) hB _) hB _) hB _) hB _) hB _⟩
theorem has_any (op : Int) : (hasL op).length ≤ 7 ∧ ∀ c ∈ hasL op, c.toNat < 128 := by
  cases h : isOp op
  · have : hasL op = [] := by unfold hasL; rw [h]; rfl
    rw [this]; exact ⟨Nat.zero_le _, fun c hc => by cases hc⟩
  · exact has_len h
theorem drop_at (l : List UInt8) (i : Nat) (h : i < l.length) : l.drop i = (l[i]'h) :: l.drop (i + 1) := List.drop_eq_getElem_cons h
theorem foldR_step (x : In) (l : List UInt8) (i : Nat) (h : i < l.length) (st : Bool × In) : foldR x (l.drop i) st = foldR x (l.drop (i + 1)) (stepR x st (l[i]'h)) := by
  rw [drop_at l i h]; rfl
theorem byte_ne {c : UInt8} {k : Nat} (hk : k < 256) (h : c ≠ UInt8.ofNat k) : ((c.toNat : Int) == (k : Int)) = false := by
  rw [beq_eq_false_iff_ne]
  intro e
  apply h
  apply UInt8.toNat_inj.1
  rw [UInt8.toNat_ofNat', Nat.mod_eq_of_lt hk]
  omega
theorem heap_new' (w : World) (o : Obj) (k : Nat) (h : k = w.heap.size) : (w.alloc o).heap[k]? = some o := by subst h; exact heap_new w o
theorem iterPos_set (w : World) (a : Addr) (v : Value) (k : Nat) (h : k ≠ a.block) : (w.setCell a v).iterPos k = w.iterPos k := by
  unfold World.iterPos
  rw [heap_setCell_other _ _ _ _ h]
set_option maxHeartbeats 4000000 in
set_option maxRecDepth 100000 in
theorem right_any (x : In) (w : World) (hl : x.name.length ≤ 140737488355328) : Calls Tryz.prog 29 #[inV x] w fun e w' => e = .returned (.bool (rightB x)) ∧ Below w.heap.size w w' := by
  have HF := Lib.hid (fun w => form_any x.op w)
  have HAS := has_any x.op
  have hR : Hid (rightB x = ((foldR x (hasL x.op) (isOp x.op, { x with op := 0 })).1 && decide ((foldR x (hasL x.op) (isOp x.op, { x with op := 0 })).2 = zeroI))) := Lib.hid rfl
  unfold formV at HF
  unfold inV
  have HREG := Lib.hid (fun n w => reg_any n w)
  have HLAB := Lib.hid (fun w => label_any x.name w hl)
  generalize hasL x.op = H at *
  generalize isOp x.op = b0 at *
  go_enter Tryz.func29, Tryz.ntmps29
  go_wp2_with fail
  refine (HF.out _).mono ?_; rintro e w1 ⟨rfl, g1⟩
  have hB : w1.heap[w.heap.size]? = some (.cells #[.int .i64 x.op, .int .i64 x.d, .int .i64 x.a, .int .i64 x.b, .int .i64 x.n, .string (mk x.name)] 46 (0, 0)) := (g1.block w.heap.size (by simp)).trans (heap_new _ _)
  have hz : w.heap.size < w1.heap.size := by have := g1.size; simp at this; omega
  obtain ⟨⟨c0, c1, c2, c3, c4, c5⟩, f0, f1, f2, f3, f4, f5⟩ := six_at hB
  have G1 : Below w.heap.size w w1 := ext_trans (ext_alloc (Below.refl _ _) _) g1
  have HB := Lib.hid hB
  clear hB g1
  go_wp2_with fail
  clear c0 c1 c2 c3 c4 c5 f0 f1 f2 f3 f4 f5
  have hHs : (mk H).size = H.length := rfl
  go_loopw [4] (fun ok wr => ∃ (pos : Nat) (b : Bool) (y : In), ok = .bool b ∧ pos ≤ H.length ∧ wr.heap[w1.heap.size + 1]? = some (.cells (inC y) 46 (0, 0)) ∧ wr.heap[w1.heap.size + 2]? = some (.stringIter (mk H) pos) ∧
      wr.heap[w.heap.size]? = some (.cells (inC x) 46 (0, 0)) ∧ Below w.heap.size w wr ∧ foldR x (H.drop pos) (b, y) = foldR x H (b0, { x with op := 0 })) (fun _ wr => H.length - wr.iterPos (w1.heap.size + 2))
  case atStart =>
    refine ⟨0, b0, { x with op := 0 }, rfl, Nat.zero_le _, ?_, ?_, ?_, ext_alloc (ext_alloc (ext_alloc G1 _) _) _, rfl⟩
    · exact (Lib.alloc_old _ _ _ (by simp)).trans (heap_new' _ _ _ (by simp))
    · exact heap_new' _ _ _ (by simp)
    · exact (Lib.alloc_old _ _ _ (by simp; omega)).trans ((Lib.alloc_old _ _ _ (by simp; omega)).trans ((Lib.alloc_old _ _ _ hz).trans HB.out))
  case round =>
    obtain ⟨pos, b, y, rfl, hp, hrb, hit, hbx, hbl, hfo⟩ := hrel
    have HFO := Lib.hid hfo
    have HIT := Lib.hid hit
    clear hfo
    by_cases hlt : pos < H.length
    · have hst := Lib.hid (fun st => foldR_step x H pos hlt st)
      have hasc : (H[pos]'hlt).toNat < 128 := HAS.2 _ (List.getElem_mem hlt)
      have hnx := fun ty => Lib.run_next_ascii_at (P := Tryz.prog) wr (w1.heap.size + 2) (mk H) pos ty hit hlt hasc
      have hg : ((mk H)[pos]'hlt).toNat = (H[pos]'hlt).toNat := rfl
      have hit2 := Lib.hid (Lib.iterAt_heap wr _ (mk H) pos (pos + 1) hit)
      have hbl2 := Lib.below_iterAt hbl (k := w1.heap.size + 2) (by omega) (mk H) (pos + 1)
      have hrb2 : (wr.iterAt (w1.heap.size + 2) (mk H) (pos + 1)).heap[w1.heap.size + 1]? = some (.cells (inC y) 46 (0, 0)) := (Lib.iterAt_other wr _ _ _ _ (by omega)).trans hrb
      have hbx2 : (wr.iterAt (w1.heap.size + 2) (mk H) (pos + 1)).heap[w.heap.size]? = some (.cells (inC x) 46 (0, 0)) := (Lib.iterAt_other wr _ _ _ _ (by omega)).trans hbx
      rw [hg] at hnx
      clear hg hit hrb hbx
      generalize H[pos]'hlt = c at *
      have hmeas : H.length - (pos + 1) < H.length - wr.iterPos (w1.heap.size + 2) := by
        have a : wr.iterPos (w1.heap.size + 2) = pos := by simp [World.iterPos, HIT.out]
        omega
      have HM := Lib.hid hmeas
      clear hmeas
      generalize hwi : wr.iterAt (w1.heap.size + 2) (mk H) (pos + 1) = wi at *
      have hpos2 : wi.iterPos (w1.heap.size + 2) = pos + 1 := by simp [World.iterPos, hit2.out]
      have HP2 := Lib.hid hpos2
      clear hpos2 hwi
      obtain ⟨⟨c0, c1, c2, c3, c4, c5⟩, _, _, _, _, _, _⟩ := six_at hbx2
      obtain ⟨⟨d0, d1, d2, d3, d4, d5⟩, f0, f1, f2, f3, f4, f5⟩ := six_at hrb2
      have HRB := Lib.hid hrb2
      have HBX := Lib.hid hbx2
      have HBL := Lib.hid hbl2
      have HNX := Lib.hid hnx
      clear hrb2 hbx2 hbl2 hnx
      by_cases h68 : c = 68
      · subst h68
        have hnx : ∀ ty, (Instr.next (.pointer (some ⟨w1.heap.size + 2, 0, none⟩)) true ty).run Tryz.prog wr = .ok (.tuple #[.bool true, .int .i64 pos, .int .i32 68]) wi := HNX.out
        cases b
        · go_wp2_with fail
          go_roundw
          case rel => exact ⟨pos + 1, false, { y with d := 0 }, rfl, by omega, (heap_setCell_same _ _ 1 _ _ _ HRB.out).trans rfl, (heap_setCell_other _ _ _ _ (by simp)).trans hit2.out, (heap_setCell_other _ _ _ _ (by simp; omega)).trans HBX.out, ext_set HBL.out (by simp; omega) _, by rw [← HFO.out, hst.out]; rfl⟩
          case measure => rw [iterPos_set _ _ _ _ (by simp), HP2.out]; exact HM.out
        · go_wp2_with ((with_reducible refine (HREG.out _ _).mono ?_); rintro e w2 ⟨rfl, rfl⟩)
          go_roundw
          case rel => exact ⟨pos + 1, regB x.d, { y with d := 0 }, rfl, by omega, (heap_setCell_same _ _ 1 _ _ _ HRB.out).trans rfl, (heap_setCell_other _ _ _ _ (by simp)).trans hit2.out, (heap_setCell_other _ _ _ _ (by simp; omega)).trans HBX.out, ext_set HBL.out (by simp; omega) _, by rw [← HFO.out, hst.out]; rfl⟩
          case measure => rw [iterPos_set _ _ _ _ (by simp), HP2.out]; exact HM.out
      by_cases h65 : c = 65
      · subst h65
        have hnx : ∀ ty, (Instr.next (.pointer (some ⟨w1.heap.size + 2, 0, none⟩)) true ty).run Tryz.prog wr = .ok (.tuple #[.bool true, .int .i64 pos, .int .i32 65]) wi := HNX.out
        cases b
        · go_wp2_with fail
          go_roundw
          case rel => exact ⟨pos + 1, false, { y with a := 0 }, rfl, by omega, (heap_setCell_same _ _ 2 _ _ _ HRB.out).trans rfl, (heap_setCell_other _ _ _ _ (by simp)).trans hit2.out, (heap_setCell_other _ _ _ _ (by simp; omega)).trans HBX.out, ext_set HBL.out (by simp; omega) _, by rw [← HFO.out, hst.out]; rfl⟩
          case measure => rw [iterPos_set _ _ _ _ (by simp), HP2.out]; exact HM.out
        · go_wp2_with ((with_reducible refine (HREG.out _ _).mono ?_); rintro e w2 ⟨rfl, rfl⟩)
          go_roundw
          case rel => exact ⟨pos + 1, regB x.a, { y with a := 0 }, rfl, by omega, (heap_setCell_same _ _ 2 _ _ _ HRB.out).trans rfl, (heap_setCell_other _ _ _ _ (by simp)).trans hit2.out, (heap_setCell_other _ _ _ _ (by simp; omega)).trans HBX.out, ext_set HBL.out (by simp; omega) _, by rw [← HFO.out, hst.out]; rfl⟩
          case measure => rw [iterPos_set _ _ _ _ (by simp), HP2.out]; exact HM.out
      by_cases h66 : c = 66
      · subst h66
        have hnx : ∀ ty, (Instr.next (.pointer (some ⟨w1.heap.size + 2, 0, none⟩)) true ty).run Tryz.prog wr = .ok (.tuple #[.bool true, .int .i64 pos, .int .i32 66]) wi := HNX.out
        cases b
        · go_wp2_with fail
          go_roundw
          case rel => exact ⟨pos + 1, false, { y with b := 0 }, rfl, by omega, (heap_setCell_same _ _ 3 _ _ _ HRB.out).trans rfl, (heap_setCell_other _ _ _ _ (by simp)).trans hit2.out, (heap_setCell_other _ _ _ _ (by simp; omega)).trans HBX.out, ext_set HBL.out (by simp; omega) _, by rw [← HFO.out, hst.out]; rfl⟩
          case measure => rw [iterPos_set _ _ _ _ (by simp), HP2.out]; exact HM.out
        · go_wp2_with ((with_reducible refine (HREG.out _ _).mono ?_); rintro e w2 ⟨rfl, rfl⟩)
          go_roundw
          case rel => exact ⟨pos + 1, regB x.b, { y with b := 0 }, rfl, by omega, (heap_setCell_same _ _ 3 _ _ _ HRB.out).trans rfl, (heap_setCell_other _ _ _ _ (by simp)).trans hit2.out, (heap_setCell_other _ _ _ _ (by simp; omega)).trans HBX.out, ext_set HBL.out (by simp; omega) _, by rw [← HFO.out, hst.out]; rfl⟩
          case measure => rw [iterPos_set _ _ _ _ (by simp), HP2.out]; exact HM.out
      by_cases h78 : c = 78
      · subst h78
        have hnx : ∀ ty, (Instr.next (.pointer (some ⟨w1.heap.size + 2, 0, none⟩)) true ty).run Tryz.prog wr = .ok (.tuple #[.bool true, .int .i64 pos, .int .i32 78]) wi := HNX.out
        go_wp2_with fail
        go_roundw
        case rel => exact ⟨pos + 1, b, { y with n := 0 }, rfl, by omega, (heap_setCell_same _ _ 4 _ _ _ HRB.out).trans rfl, (heap_setCell_other _ _ _ _ (by simp)).trans hit2.out, (heap_setCell_other _ _ _ _ (by simp; omega)).trans HBX.out, ext_set HBL.out (by simp; omega) _, by rw [← HFO.out, hst.out]; rfl⟩
        case measure => rw [iterPos_set _ _ _ _ (by simp), HP2.out]; exact HM.out
      by_cases h83 : c = 83
      · subst h83
        have hnx : ∀ ty, (Instr.next (.pointer (some ⟨w1.heap.size + 2, 0, none⟩)) true ty).run Tryz.prog wr = .ok (.tuple #[.bool true, .int .i64 pos, .int .i32 83]) wi := HNX.out
        cases b
        · go_wp2_with fail
          go_roundw
          case rel => exact ⟨pos + 1, false, { y with n := 0 }, rfl, by omega, (heap_setCell_same _ _ 4 _ _ _ HRB.out).trans rfl, (heap_setCell_other _ _ _ _ (by simp)).trans hit2.out, (heap_setCell_other _ _ _ _ (by simp; omega)).trans HBX.out, ext_set HBL.out (by simp; omega) _, by rw [← HFO.out, hst.out]; rfl⟩
          case measure => rw [iterPos_set _ _ _ _ (by simp), HP2.out]; exact HM.out
        · by_cases n1 : -2047 ≤ x.n
          · by_cases n2 : x.n ≤ 2047
            · have HS : Hid (smallB x.n = true) := Lib.hid (decide_eq_true ⟨n1, n2⟩)
              go_wp2_with fail
              go_roundw
              case rel => exact ⟨pos + 1, true, { y with n := 0 }, rfl, by omega, (heap_setCell_same _ _ 4 _ _ _ HRB.out).trans rfl, (heap_setCell_other _ _ _ _ (by simp)).trans hit2.out, (heap_setCell_other _ _ _ _ (by simp; omega)).trans HBX.out, ext_set HBL.out (by simp; omega) _, by rw [← HFO.out, hst.out]; show _ = foldR x _ (true && smallB x.n, { y with n := 0 }); rw [HS.out]; rfl⟩
              case measure => rw [iterPos_set _ _ _ _ (by simp), HP2.out]; exact HM.out
            · have HS : Hid (smallB x.n = false) := Lib.hid (decide_eq_false (fun h => n2 h.2))
              go_wp2_with fail
              go_roundw
              case rel => exact ⟨pos + 1, false, { y with n := 0 }, rfl, by omega, (heap_setCell_same _ _ 4 _ _ _ HRB.out).trans rfl, (heap_setCell_other _ _ _ _ (by simp)).trans hit2.out, (heap_setCell_other _ _ _ _ (by simp; omega)).trans HBX.out, ext_set HBL.out (by simp; omega) _, by rw [← HFO.out, hst.out]; show _ = foldR x _ (true && smallB x.n, { y with n := 0 }); rw [HS.out]; rfl⟩
              case measure => rw [iterPos_set _ _ _ _ (by simp), HP2.out]; exact HM.out
          · have HS : Hid (smallB x.n = false) := Lib.hid (decide_eq_false (fun h => n1 h.1))
            go_wp2_with fail
            go_roundw
            case rel => exact ⟨pos + 1, false, { y with n := 0 }, rfl, by omega, (heap_setCell_same _ _ 4 _ _ _ HRB.out).trans rfl, (heap_setCell_other _ _ _ _ (by simp)).trans hit2.out, (heap_setCell_other _ _ _ _ (by simp; omega)).trans HBX.out, ext_set HBL.out (by simp; omega) _, by rw [← HFO.out, hst.out]; show _ = foldR x _ (true && smallB x.n, { y with n := 0 }); rw [HS.out]; rfl⟩
            case measure => rw [iterPos_set _ _ _ _ (by simp), HP2.out]; exact HM.out
      by_cases h76 : c = 76
      · subst h76
        have hnx : ∀ ty, (Instr.next (.pointer (some ⟨w1.heap.size + 2, 0, none⟩)) true ty).run Tryz.prog wr = .ok (.tuple #[.bool true, .int .i64 pos, .int .i32 76]) wi := HNX.out
        cases b
        · go_wp2_with fail
          go_roundw
          case rel => exact ⟨pos + 1, false, { y with name := [] }, rfl, by omega, (heap_setCell_same _ _ 5 _ _ _ HRB.out).trans rfl, (heap_setCell_other _ _ _ _ (by simp)).trans hit2.out, (heap_setCell_other _ _ _ _ (by simp; omega)).trans HBX.out, ext_set HBL.out (by simp; omega) _, by rw [← HFO.out, hst.out]; rfl⟩
          case measure => rw [iterPos_set _ _ _ _ (by simp), HP2.out]; exact HM.out
        · go_wp2_with ((with_reducible refine (HLAB.out _).mono ?_); rintro e w2 ⟨rfl, rfl⟩)
          go_roundw
          case rel => exact ⟨pos + 1, labelB x.name, { y with name := [] }, rfl, by omega, (heap_setCell_same _ _ 5 _ _ _ HRB.out).trans rfl, (heap_setCell_other _ _ _ _ (by simp)).trans hit2.out, (heap_setCell_other _ _ _ _ (by simp; omega)).trans HBX.out, ext_set HBL.out (by simp; omega) _, by rw [← HFO.out, hst.out]; rfl⟩
          case measure => rw [iterPos_set _ _ _ _ (by simp), HP2.out]; exact HM.out
      have e68 := byte_ne (k := 68) (by decide) h68
      have e65 := byte_ne (k := 65) (by decide) h65
      have e66 := byte_ne (k := 66) (by decide) h66
      have e78 := byte_ne (k := 78) (by decide) h78
      have e83 := byte_ne (k := 83) (by decide) h83
      have e76 := byte_ne (k := 76) (by decide) h76
      have HSTO : Hid (stepR x (b, y) c = (b, y)) := Lib.hid (by unfold stepR; rw [if_neg h68, if_neg h65, if_neg h66, if_neg h78, if_neg h83, if_neg h76])
      clear h68 h65 h66 h78 h83 h76
      have hnx := HNX.out
      generalize (c.toNat : Int) = r at *
      have e68 : (r == 68) = false := e68
      have e65 : (r == 65) = false := e65
      have e66 : (r == 66) = false := e66
      have e78 : (r == 78) = false := e78
      have e83 : (r == 83) = false := e83
      have e76 : (r == 76) = false := e76
      go_wp2_with fail
      go_roundw
      case rel => exact ⟨pos + 1, b, y, rfl, by omega, HRB.out, hit2.out, HBX.out, HBL.out, by rw [← HFO.out, hst.out, HSTO.out]⟩
      case measure => rw [HP2.out]; exact HM.out
    · have hnx := fun ty => Lib.run_next_end_at (P := Tryz.prog) wr (w1.heap.size + 2) (mk H) pos ty hit hlt
      obtain ⟨⟨d0, d1, d2, d3, d4, d5⟩, f0, f1, f2, f3, f4, f5⟩ := six_at hrb
      have HR2 : Hid (rightB x = (b && decide (y = zeroI))) := Lib.hid (by
        rw [hR.out, ← HFO.out, List.drop_eq_nil_of_le (by omega)]; rfl)
      clear hrb hit hbx
      rcases y with ⟨y0, y1, y2, y3, y4, y5⟩
      dsimp only at *
      cases b
      · go_wp2_with fail
        go_ret
        exact ⟨by rw [HR2.out]; rfl, hbl⟩
      have hnm : (mk y5).toList = y5 := mk_tl y5
      by_cases k0 : y0 = 0
      case neg =>
        have HX : Hid ((⟨y0, y1, y2, y3, y4, y5⟩ : In) ≠ zeroI) := Lib.hid (fun e => k0 (congrArg In.op e))
        go_wp2_with fail
        go_ret
        exact ⟨by rw [HR2.out, decide_eq_false HX.out]; rfl, hbl⟩
      by_cases k1 : y1 = 0
      case neg =>
        have HX : Hid ((⟨y0, y1, y2, y3, y4, y5⟩ : In) ≠ zeroI) := Lib.hid (fun e => k1 (congrArg In.d e))
        go_wp2_with fail
        go_ret
        exact ⟨by rw [HR2.out, decide_eq_false HX.out]; rfl, hbl⟩
      by_cases k2 : y2 = 0
      case neg =>
        have HX : Hid ((⟨y0, y1, y2, y3, y4, y5⟩ : In) ≠ zeroI) := Lib.hid (fun e => k2 (congrArg In.a e))
        go_wp2_with fail
        go_ret
        exact ⟨by rw [HR2.out, decide_eq_false HX.out]; rfl, hbl⟩
      by_cases k3 : y3 = 0
      case neg =>
        have HX : Hid ((⟨y0, y1, y2, y3, y4, y5⟩ : In) ≠ zeroI) := Lib.hid (fun e => k3 (congrArg In.b e))
        go_wp2_with fail
        go_ret
        exact ⟨by rw [HR2.out, decide_eq_false HX.out]; rfl, hbl⟩
      by_cases k4 : y4 = 0
      case neg =>
        have HX : Hid ((⟨y0, y1, y2, y3, y4, y5⟩ : In) ≠ zeroI) := Lib.hid (fun e => k4 (congrArg In.n e))
        go_wp2_with fail
        go_ret
        exact ⟨by rw [HR2.out, decide_eq_false HX.out]; rfl, hbl⟩
      subst k0 k1 k2 k3 k4
      cases y5 with
      | nil =>
        go_wp2_with fail
        go_ret
        exact ⟨by rw [HR2.out]; rfl, hbl⟩
      | cons a l =>
        have HX : Hid ((⟨0, 0, 0, 0, 0, a :: l⟩ : In) ≠ zeroI) := Lib.hid (fun e => by have := congrArg In.name e; cases this)
        go_wp2_with fail
        go_ret
        exact ⟨by rw [HR2.out, decide_eq_false HX.out]; rfl, hbl⟩
end Go.Proofs.YtlaihjefmhcmcaaGreatDoor
