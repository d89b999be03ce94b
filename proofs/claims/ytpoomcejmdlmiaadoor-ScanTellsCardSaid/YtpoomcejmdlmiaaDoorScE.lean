/- Characters between quotes. -/
import Derived.Test.YtpoomcejmdlmiaaDoorRows
import Derived.WalkKit
import Derived.ProofKit
import Derived.OpenShut
import Derived.WalkLawsBesides
import Derived.WalkSpells
import Derived.Outline
import Derived.Handy
import Derived.Lib.Hide
import Derived.Lib.OthersKept
import Derived.Test.YtpoomcejmdlmiaaDoorSc0
import Derived.RegionTactic
import Derived.BigRegion
import Derived.Deep.RegionHeld3
import Derived.Test.YtpoomcejmdlmiaaDoorScB
namespace Go.Proofs.YtpoomcejmdlmiaaDoor
open Go.ChangeShapes Go.WideShapes Go.ChangeAt Go.RowKit
set_option linter.unusedVariables false
def badC (r : Int) : Bool := decide (r = 39 ∨ r = 92 ∨ r < 32 ∨ r = 65533)
def charP (s : ByteArray) : Option Piece :=
  if wd s 0 < s.size ∧ badC (rn s (wd s 0)) = false ∧ wd s 0 + wd s (wd s 0) < s.size ∧ rn s (wd s 0 + wd s (wd s 0)) = 39 then
    some ⟨wd s 0 + wd s (wd s 0) + 1, 3, s.extract 0 (wd s 0 + wd s (wd s 0) + 1), rn s (wd s 0)⟩ else none
theorem four_keep {a w : World} {b : Nat} {o : Obj} (h : Below (b + 1) a w) (ha : a.heap[b]? = some o) : w.heap[b]? = some o := (h.block b (by omega)).trans ha
set_option maxRecDepth 100000 in
set_option maxHeartbeats 4000000 in
theorem character_calls (s : ByteArray) (w : World) (hs : s.size ≤ 9223372036854775806) (h0 : 0 < s.size) : Calls Tryd.prog 26 #[.string s] w fun e w' => Says (charP s) e ∧ Below w.heap.size w w' := by
  have p1 := wd_pos s 0 h0
  have q1 := wd_le s 0 h0
  rw [Nat.zero_add] at q1
  have hsp := Lib.hid (rfl : charP s = charP s)
  generalize hP : charP s = P at *
  have HP := Lib.hid hP
  clear hsp hP
  go_enter Tryd.func26, Tryd.ntmps26
  go_wp2_with fail
  go_loopw [5, 6] (fun c k wr => ∃ pos : Nat, pos ≤ s.size ∧ wr.heap[w.heap.size + 1]? = some (.stringIter s pos) ∧ Below w.heap.size w wr ∧ wr.heap[w.heap.size]? = some (.cells #[.int .i64 0, .string ⟨#[]⟩, .int .i64 0, .int .i64 0] 30 (0, 0)) ∧
    ((c = .int .i64 0 ∧ k = .int .i32 0 ∧ pos = 0) ∨ (c = .int .i64 1 ∧ k = .int .i32 0 ∧ pos = wd s 0) ∨ (c = .int .i64 2 ∧ k = .int .i32 (rn s (wd s 0)) ∧ pos = wd s 0 + wd s (wd s 0) ∧ wd s 0 < s.size ∧ badC (rn s (wd s 0)) = false))) (fun _ _ wr => s.size - wr.iterPos (w.heap.size + 1))
  case atStart => exact ⟨0, Nat.zero_le _, by simpa using World.iter_heap (w.alloc _) s 0, ((Below.refl _ _).alloc (Nat.le_refl _) _).alloc (by simp) _, (Below.heap_alloc _ _ _ (by simp)).trans (heap_new _ _), .inl ⟨rfl, rfl, rfl⟩⟩
  case round =>
    obtain ⟨pos, hp, hit, hb, hblk, ⟨rfl, rfl, rfl⟩ | ⟨rfl, rfl, rfl⟩ | ⟨rfl, rfl, rfl, hl1, hb1⟩⟩ := hrel
    · have hnx : ∀ ty, (Instr.next (.pointer (some ⟨w.heap.size + 1, 0, none⟩)) true ty).run Tryd.prog wr = .ok (.tuple #[.bool true, .int .i64 0, .int .i32 (rn s 0)]) (wr.iterAt (w.heap.size + 1) s (wd s 0)) := fun ty => by simpa using next_at (P := Tryd.prog) ty hit h0
      have hit2 := Lib.hid (Lib.iterAt_heap wr _ s _ (wd s 0) hit)
      have hb2 : Below w.heap.size w (wr.iterAt (w.heap.size + 1) s (wd s 0)) := Lib.below_iterAt hb (Nat.le_succ _) _ _
      have hk2 := (Lib.iterAt_other wr (w.heap.size + 1) w.heap.size s (wd s 0) (by omega)).trans hblk
      obtain ⟨⟨c0, c1, c2, c3⟩, f0, f1, f2, f3⟩ := four_at hk2
      have HK := Lib.hid hk2
      have HI := Lib.hid hit
      clear hk2 hit hblk
      generalize wr.iterAt (w.heap.size + 1) s (wd s 0) = w3 at *
      go_wp2_with fail
      go_roundw
      case rel => exact ⟨wd s 0, q1, hit2.out, hb2, HK.out, .inr (.inl ⟨rfl, rfl, rfl⟩)⟩
      case measure =>
        have a : wr.iterPos (w.heap.size + 1) = 0 := by simp [World.iterPos, HI.out]
        have b : w3.iterPos (w.heap.size + 1) = wd s 0 := by simp [World.iterPos, hit2.out]
        omega
    · by_cases hl : wd s 0 < s.size
      · have p2 := wd_pos s _ hl
        have q2 := wd_le s _ hl
        have r1 := rn_lo s (wd s 0)
        have r2 := rn_hi s (wd s 0)
        have hnx : ∀ ty, (Instr.next (.pointer (some ⟨w.heap.size + 1, 0, none⟩)) true ty).run Tryd.prog wr = .ok (.tuple #[.bool true, .int .i64 (wd s 0), .int .i32 (rn s (wd s 0))]) (wr.iterAt (w.heap.size + 1) s (wd s 0 + wd s (wd s 0))) := fun ty => by simpa using next_at (P := Tryd.prog) ty hit hl
        have hit2 := Lib.hid (Lib.iterAt_heap wr _ s _ (wd s 0 + wd s (wd s 0)) hit)
        have hb2 : Below w.heap.size w (wr.iterAt (w.heap.size + 1) s (wd s 0 + wd s (wd s 0))) := Lib.below_iterAt hb (Nat.le_succ _) _ _
        have hk2 := (Lib.iterAt_other wr (w.heap.size + 1) w.heap.size s (wd s 0 + wd s (wd s 0)) (by omega)).trans hblk
        obtain ⟨⟨c0, c1, c2, c3⟩, f0, f1, f2, f3⟩ := four_at hk2
        have HK := Lib.hid hk2
        have HI := Lib.hid hit
        clear hk2 hit hblk
        generalize wr.iterAt (w.heap.size + 1) s (wd s 0 + wd s (wd s 0)) = w3 at *
        have hgb := Lib.hid (show badC (rn s (wd s 0)) = false ↔ ¬ (rn s (wd s 0) = 39 ∨ rn s (wd s 0) = 92 ∨ rn s (wd s 0) < 32 ∨ rn s (wd s 0) = 65533) from by unfold badC; rw [decide_eq_false_iff_not])
        by_cases hg : badC (rn s (wd s 0)) = false
        · have hg' := hgb.out.1 hg
          have t1 : (rn s (wd s 0) == 39) = false := by rw [beq_eq_false_iff_ne]; omega
          have t2 : (rn s (wd s 0) == 92) = false := by rw [beq_eq_false_iff_ne]; omega
          have t3 : decide (rn s (wd s 0) < 32) = false := by rw [decide_eq_false_iff_not]; omega
          have t4 : (rn s (wd s 0) == 65533) = false := by rw [beq_eq_false_iff_ne]; omega
          have HG := Lib.hid hg
          clear hg' hg hgb
          go_wp2_with fail
          go_roundw
          case rel => exact ⟨wd s 0 + wd s (wd s 0), q2, hit2.out, hb2, HK.out, .inr (.inr ⟨rfl, rfl, rfl, hl, HG.out⟩)⟩
          case measure =>
            have a : wr.iterPos (w.heap.size + 1) = wd s 0 := by simp [World.iterPos, HI.out]
            have b : w3.iterPos (w.heap.size + 1) = wd s 0 + wd s (wd s 0) := by simp [World.iterPos, hit2.out]
            omega
        · have hP : P = none := by rw [← HP.out]; unfold charP; rw [if_neg (fun k => hg k.2.1)]
          subst hP
          have hor : rn s (wd s 0) = 39 ∨ rn s (wd s 0) = 92 ∨ rn s (wd s 0) < 32 ∨ rn s (wd s 0) = 65533 := by
            rcases Decidable.em (rn s (wd s 0) = 39 ∨ rn s (wd s 0) = 92 ∨ rn s (wd s 0) < 32 ∨ rn s (wd s 0) = 65533) with k | k
            · exact k
            · exact absurd (hgb.out.2 k) hg
          clear hg hgb
          generalize rn s (wd s 0) = r at *
          have hd : ((r == 39) = true) ∨ ((r == 39) = false ∧ (r == 92) = true) ∨ ((r == 39) = false ∧ (r == 92) = false ∧ decide (r < 32) = true) ∨ ((r == 39) = false ∧ (r == 92) = false ∧ decide (r < 32) = false ∧ (r == 65533) = true) := by
            simp only [beq_iff_eq, beq_eq_false_iff_ne, decide_eq_true_iff, decide_eq_false_iff_not]; omega
          clear hor
          rcases hd with t1 | ⟨t1, t2⟩ | ⟨t1, t2, t3⟩ | ⟨t1, t2, t3, t4⟩
          all_goals
            go_wp2_with fail
            exact bodyPost_ret (v := .tuple #[.int .i64 0, .agg #[.int .i64 0, .string ⟨#[]⟩, .int .i64 0, .int .i64 0], .bool false]) (by simp [results, Tryd.results26, go_sem, c0, c1, c2, c3]) rfl
              ⟨says_none _ _ _ _, by repeat (first | exact hb2 | exact hb | (refine ext_set ?_ (Nat.le_refl _) _))⟩
      · have hP : P = none := by rw [← HP.out]; unfold charP; rw [if_neg (fun k => hl k.1)]
        subst hP
        have hnx : ∀ ty, (Instr.next (.pointer (some ⟨w.heap.size + 1, 0, none⟩)) true ty).run Tryd.prog wr = .ok (.tuple #[.bool false]) wr := fun ty => next_end (P := Tryd.prog) ty hit hl
        obtain ⟨⟨c0, c1, c2, c3⟩, f0, f1, f2, f3⟩ := four_at hblk
        clear hit hblk
        go_wp2_with fail
        exact bodyPost_ret (v := .tuple #[.int .i64 0, .agg #[.int .i64 0, .string ⟨#[]⟩, .int .i64 0, .int .i64 0], .bool false]) (by simp [results, Tryd.results26, go_sem, c0, c1, c2, c3]) rfl
          ⟨says_none _ _ _ _, by repeat (first | exact hb2 | exact hb | (refine ext_set ?_ (Nat.le_refl _) _))⟩
    · by_cases hl : wd s 0 + wd s (wd s 0) < s.size
      · have p3 := wd_pos s _ hl
        have q3 := wd_le s _ hl
        have hnx : ∀ ty, (Instr.next (.pointer (some ⟨w.heap.size + 1, 0, none⟩)) true ty).run Tryd.prog wr = .ok (.tuple #[.bool true, .int .i64 ((wd s 0 : Int) + (wd s (wd s 0) : Int)), .int .i32 (rn s (wd s 0 + wd s (wd s 0)))]) (wr.iterAt (w.heap.size + 1) s (wd s 0 + wd s (wd s 0) + wd s (wd s 0 + wd s (wd s 0)))) := fun ty => by simpa using next_at (P := Tryd.prog) ty hit hl
        have hit2 := Lib.hid (Lib.iterAt_heap wr _ s _ (wd s 0 + wd s (wd s 0) + wd s (wd s 0 + wd s (wd s 0))) hit)
        have hb2 : Below w.heap.size w (wr.iterAt (w.heap.size + 1) s (wd s 0 + wd s (wd s 0) + wd s (wd s 0 + wd s (wd s 0)))) := Lib.below_iterAt hb (Nat.le_succ _) _ _
        have hk2 := (Lib.iterAt_other wr (w.heap.size + 1) w.heap.size s (wd s 0 + wd s (wd s 0) + wd s (wd s 0 + wd s (wd s 0))) (by omega)).trans hblk
        obtain ⟨⟨c0, c1, c2, c3⟩, f0, f1, f2, f3⟩ := four_at hk2
        have HK := Lib.hid hk2
        have HI := Lib.hid hit
        clear hk2 hit hblk
        generalize wr.iterAt (w.heap.size + 1) s (wd s 0 + wd s (wd s 0) + wd s (wd s 0 + wd s (wd s 0))) = w3 at *
        have r3 := rn_lo s (wd s 0)
        have r4 := rn_hi s (wd s 0)
        generalize hp2 : wd s 0 + wd s (wd s 0) = p2 at *
        have e2 : ((wd s 0 : Int) + (wd s (wd s 0) : Int)) = (p2 : Int) := by omega
        rw [e2] at hnx
        clear e2
        have HP2 := Lib.hid hp2
        clear hp2
        have hl' : (p2 : Int) + 1 ≤ s.size := by omega
        cases hq : (rn s p2 == 39)
        all_goals
          clear q3 p3
          go_wp2_with fail
          have s1 : IntKind.i64.wrap ((p2 : Int) + 1) = (p2 : Int) + 1 := IntWalk.i64_in _ (by omega)
          have s2 : (0 : Int) ≤ (p2 : Int) + 1 := by omega
          have s3 : ((p2 : Int) + 1).toNat = p2 + 1 := by omega
          go_region_held3 (fun _ => True) (exact trivial) ((fail))
          clear s1 s2 s3
          go_wp2_with fail
        · have hP : P = none := by rw [← HP.out]; unfold charP; rw [if_neg (fun k => by rw [HP2.out] at k; rw [k.2.2.2] at hq; cases hq)]
          subst hP
          exact bodyPost_ret (v := .tuple #[.int .i64 (p2 + 1), .agg #[.int .i64 3, .string (s.extract 0 (p2 + 1)), .int .i64 (rn s (wd s 0)), .int .i64 0], .bool false]) (by simp [results, Tryd.results26, go_sem, c0, c1, c2, c3]; exact IntWalk.i64_in _ (by omega)) rfl
              ⟨says_none _ _ _ _, by repeat (first | exact hb2 | (refine ext_drew ?_) | (refine ext_set ?_ (Nat.le_refl _) _))⟩
        · have hP : P = some ⟨p2 + 1, 3, s.extract 0 (p2 + 1), rn s (wd s 0)⟩ := by
            rw [← HP.out]; unfold charP; rw [HP2.out, if_pos ⟨hl1, hb1, hl, by simpa using hq⟩]
          subst hP
          exact bodyPost_ret (v := .tuple #[.int .i64 (p2 + 1), .agg #[.int .i64 3, .string (s.extract 0 (p2 + 1)), .int .i64 (rn s (wd s 0)), .int .i64 0], .bool true]) (by simp [results, Tryd.results26, go_sem, c0, c1, c2, c3]; exact IntWalk.i64_in _ (by omega)) rfl
              ⟨says_some (by simp) rfl rfl rfl, by repeat (first | exact hb2 | (refine ext_drew ?_) | (refine ext_set ?_ (Nat.le_refl _) _))⟩
      · have hP : P = none := by rw [← HP.out]; unfold charP; rw [if_neg (fun k => hl k.2.2.1)]
        subst hP
        have hnx : ∀ ty, (Instr.next (.pointer (some ⟨w.heap.size + 1, 0, none⟩)) true ty).run Tryd.prog wr = .ok (.tuple #[.bool false]) wr := fun ty => next_end (P := Tryd.prog) ty hit hl
        obtain ⟨⟨c0, c1, c2, c3⟩, f0, f1, f2, f3⟩ := four_at hblk
        clear hit hblk
        go_wp2_with fail
        exact bodyPost_ret (v := .tuple #[.int .i64 0, .agg #[.int .i64 0, .string ⟨#[]⟩, .int .i64 0, .int .i64 0], .bool false]) (by simp [results, Tryd.results26, go_sem, c0, c1, c2, c3]) rfl
          ⟨says_none _ _ _ _, by repeat (first | exact hb2 | exact hb | (refine ext_set ?_ (Nat.le_refl _) _))⟩
end Go.Proofs.YtpoomcejmdlmiaaDoor
