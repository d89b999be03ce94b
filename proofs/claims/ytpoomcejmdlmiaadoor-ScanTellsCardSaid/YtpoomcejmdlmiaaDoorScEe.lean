/- The document's own answer: a character between quotes. -/
import Derived.Test.YtpoomcejmdlmiaaDoorRows
import Derived.WalkKit
import Derived.ProofKit
import Derived.OpenShut
import Derived.WalkLawsBesides
import Derived.WalkSpells
import Derived.Outline
import Derived.Handy
import Derived.Lib.Hide
import Derived.Lib.OthersKept
import Derived.KernelRfl
import Derived.Test.YtpoomcejmdlmiaaDoorScEd
namespace Go.Proofs.YtpoomcejmdlmiaaDoor
open Go.ChangeShapes Go.WideShapes Go.ChangeAt Go.RowKit
set_option linter.unusedVariables false
/-- The number and the length of what stands between quotes behind the first one; 0, 0: none. -/
def quotV (u : ByteArray) : Int × Int :=
  if 0 < u.size ∧ badC (rn u 0) = false ∧ wd u 0 < u.size ∧ rn u (wd u 0) = 39 then (rn u 0, (wd u 0 : Nat) + 2) else (0, 0)
theorem quot_char (l : List UInt8) : quotV (mk l) = match charP (mk (39 :: l)) with | some p => (p.n, (p.len : Int)) | none => (0, 0) := by
  have w0 : wd (mk (39 :: l)) 0 = 1 := (ascL (39 :: l) 0 (by simp) (by simp)).2
  have r1 : rn (mk (39 :: l)) 1 = rn (mk l) 0 := by rw [rn_drop, mk_list]; rfl
  have w1 : wd (mk (39 :: l)) 1 = wd (mk l) 0 := by rw [wd_drop, mk_list]; rfl
  have r2 : rn (mk (39 :: l)) (1 + wd (mk l) 0) = rn (mk l) (wd (mk l) 0) := by
    rw [rn_drop, rn_drop (mk l), mk_list, mk_list, Nat.add_comm 1, List.drop_succ_cons]
  unfold quotV charP
  rw [w0, w1, r1, r2, mk_size, mk_size, List.length_cons]
  by_cases h : 0 < l.length ∧ badC (rn (mk l) 0) = false ∧ wd (mk l) 0 < l.length ∧ rn (mk l) (wd (mk l) 0) = 39
  · rw [if_pos h, if_pos ⟨by omega, h.2.1, by omega, h.2.2.2⟩]
    simp only [Prod.mk.injEq, true_and]
    omega
  · rw [if_neg h, if_neg (fun k => h ⟨by omega, k.2.1, by omega, k.2.2.2⟩)]
set_option maxRecDepth 100000 in
theorem rquoted_any (l : List UInt8) (w : World) (hl : l.length ≤ 20000) : Calls Tryd.prog 29 #[.string (mk (39 :: l))] w fun e w' => e = .returned (.tuple #[.int .i64 (quotV (mk l)).1, .int .i64 (quotV (mk l)).2]) ∧ Below w.heap.size w w' := by
  have hsz : (mk (39 :: l)).size = l.length + 1 := rfl
  have hcut : (mk (39 :: l)).extract 1 (l.length + 1) = mk l := by
    have := drop_mk (mk (39 :: l)) 1
    rw [hsz] at this
    exact this
  have hsl : (mk l).size = l.length := rfl
  obtain ⟨q, hq⟩ : ∃ q, quotV (mk l) = q := ⟨_, rfl⟩
  rw [hq]
  have HQ := Lib.hid hq; clear hq
  have hR := rn_hi (mk l) 0
  go_enter Tryd.func29, Tryd.ntmps29
  go_wp2_with fail
  clear hcut
  go_loopw [4] (fun n wr => ∃ pos : Nat, pos ≤ (mk l).size ∧ wr.heap[w.heap.size]? = some (.stringIter (mk l) pos) ∧ Below w.heap.size w wr ∧
    ((n = .int .i64 0 ∧ pos = 0) ∨ (n = .int .i64 (rn (mk l) 0) ∧ pos = wd (mk l) 0 ∧ 0 < (mk l).size ∧ badC (rn (mk l) 0) = false))) (fun n wr => (mk l).size - wr.iterPos w.heap.size)
  case atStart => exact ⟨0, Nat.zero_le _, World.iter_heap _ _ _, (Below.refl _ _).alloc (Nat.le_refl _) _, .inl ⟨rfl, rfl⟩⟩
  case round =>
    obtain ⟨pos, hp, hit, hb, hc⟩ := hrel
    have HI := Lib.hid hit
    by_cases hlt : pos < (mk l).size
    · have hw1 := wd_pos (mk l) pos hlt
      have hw2 := wd_le (mk l) pos hlt
      have hnx := fun ty => next_at (P := Tryd.prog) ty hit hlt
      have hit2 := Lib.hid (Lib.iterAt_heap wr _ (mk l) pos (pos + wd (mk l) pos) hit)
      have hb2 := Lib.below_iterAt hb (Nat.le_refl _) (mk l) (pos + wd (mk l) pos)
      clear hit
      rcases hc with ⟨rfl, rfl⟩ | ⟨rfl, hpe, hz, hbad⟩
      · rw [Nat.zero_add] at hit2 hb2 hw2
        cases hbad : badC (rn (mk l) 0)
        · have hq' : quotV (mk l) = q := HQ.out
          have hb4 := of_decide_eq_false (show decide _ = false from hbad)
          have e1 : (rn (mk l) 0 == 39) = false := by rw [beq_eq_false_iff_ne]; omega
          have e2 : (rn (mk l) 0 == 92) = false := by rw [beq_eq_false_iff_ne]; omega
          have e3 : 32 ≤ rn (mk l) 0 := by omega
          have e4 : (rn (mk l) 0 == 65533) = false := by rw [beq_eq_false_iff_ne]; omega
          have HBAD := Lib.hid hbad
          clear hb4 hbad hq'
          go_wp2_with fail
          go_roundw
          case rel => exact ⟨wd (mk l) 0, hw2, hit2.out, hb2, .inr ⟨rfl, by omega, by omega, by first | exact HBAD.out | trivial⟩⟩
          case measure =>
            have a : wr.iterPos w.heap.size = 0 := by simp [World.iterPos, HI.out]
            have b : (wr.iterAt w.heap.size (mk l) (wd (mk l) 0)).iterPos w.heap.size = wd (mk l) 0 := by simp [World.iterPos, hit2.out]
            omega
        · have hq' : q = (0, 0) := by rw [← HQ.out]; unfold quotV; rw [hbad, if_neg (by simp)]
          subst hq'
          have hb4 := of_decide_eq_true (show decide _ = true from hbad)
          clear hbad
          rcases hb4 with e | e | e | e
          all_goals
            go_wp2_with fail
            go_ret2
            exact ⟨rfl, hb2⟩
      · have hb4 := of_decide_eq_false (show decide _ = false from hbad)
        have e0 : (rn (mk l) 0 == 0) = false := by rw [beq_eq_false_iff_ne]; omega
        cases h39 : (rn (mk l) pos == 39)
        · have hq' : q = (0, 0) := by
            rw [← HQ.out]; unfold quotV
            rw [if_neg]
            intro k
            rw [← hpe] at k
            rw [k.2.2.2] at h39; cases h39
          subst hq'
          clear hb4 hbad hpe
          go_wp2_with fail
          go_ret2
          exact ⟨rfl, hb2⟩
        · have hq' : q = (rn (mk l) 0, (pos : Int) + 2) := by
            rw [← HQ.out]; unfold quotV
            rw [if_pos ⟨hz, hbad, by omega, by rw [← hpe]; exact eq_of_beq h39⟩, ← hpe]
          subst hq'
          clear hb4 hbad hpe
          go_wp2_with fail
          go_ret2
          exact ⟨rfl, hb2⟩
    · have hnx := fun ty => next_end (P := Tryd.prog) ty hit hlt
      have hq' : q = (0, 0) := by
        rw [← HQ.out]; unfold quotV
        rw [if_neg]
        intro k
        rcases hc with ⟨_, rfl⟩ | ⟨_, hpe, _, _⟩
        · omega
        · omega
      subst hq'
      clear hit
      rcases hc with ⟨rfl, hpe⟩ | ⟨rfl, hpe, hz, hbad⟩
      all_goals
        go_wp2_with fail
        go_ret2
        exact ⟨rfl, hb⟩
end Go.Proofs.YtpoomcejmdlmiaaDoor
