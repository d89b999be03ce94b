/- Scan: the walk of its loop. -/
import Derived.Test.YtpoomcejmdlmiaaDoorRows
import Derived.WalkKit
import Derived.ProofKit
import Derived.OpenShut
import Derived.WalkLawsBesides
import Derived.WalkSpells
import Derived.Outline
import Derived.Handy
import Derived.Lib.Hide
import Derived.Lib.OthersKept
import Derived.Test.YtpoomcejmdlmiaaDoorSc0
import Derived.RegionTactic
import Derived.BigRegion
import Derived.OwnWalk
import Derived.Laws.AppendOwn
import Derived.Test.YtpoomcejmdlmiaaDoorScG
namespace Go.Proofs.YtpoomcejmdlmiaaDoor
open Go.ChangeShapes Go.WideShapes Go.ChangeAt Go.RowKit
set_option linter.unusedVariables false
theorem Tryd.infoTk : (Tryd.prog.info? 30).map (fun i => (i.zero, i.size, i.bytes)) = some (some (.agg #[.int .i64 0, .string ⟨#[]⟩, .int .i64 0, .int .i64 0]), 4, 40) := by kernel_rfl
def ScanRes (R : List Tk × Bool × Nat) (B : Nat) (e : Ending) (w' : World) : Prop :=
  if R.2.1 = true then ∃ v, e = .returned (.tuple #[v, .int .i64 0, .int .i64 0]) ∧ w'.ownsRow B 30 4 v R.1.length (R.1.flatMap Tk.cells)
  else e = .returned (.tuple #[.slice none 0 0, .int .i64 20, .int .i64 R.2.2])
theorem new_row (w : World) (cs : Array Value) (t : TypeId) (b : Nat) (hb : b = w.heap.size) (j : Nat) (u : Value) (h : cs.toList[j]? = some u) : (w.alloc (.cells cs t)).cell? (Addr.add ⟨b, 0, none⟩ j) = some u := by
  subst hb
  have e := cell_row (heap_new w (.cells cs t)) j
  have a : Addr.add ⟨w.heap.size, 0, none⟩ j = ⟨w.heap.size, j, none⟩ := by simp [Addr.add]; intro k; exact k.symm
  rw [a, e]
  simpa using h
theorem iter_same {w w' : World} {k : Nat} (h : w'.heap[k]? = w.heap[k]?) : w'.iterPos k = w.iterPos k := by simp [World.iterPos, h]
theorem scan_long (s : ByteArray) (w : World) (hs : 20000 < s.size) :
    Calls Tryd.prog 5 #[.string s] w fun e w' => e = .returned (.tuple #[.slice none 0 0, .int .i64 1, .int .i64 0]) ∧ Below w.heap.size w w' := by
  go_enter Tryd.func5, Tryd.ntmps5
  go_wp2_with fail
  go_ret3
  exact ⟨rfl, Below.refl _ _⟩
set_option maxRecDepth 100000 in
set_option maxHeartbeats 4000000 in
theorem scan_walk (s : ByteArray) (w : World) (hs : s.size ≤ 20000) (hv : ErrVars w) (R : List Tk × Bool × Nat) (hR : scanL s = R) :
    Calls Tryd.prog 5 #[.string s] w fun e w' => ScanRes R w.heap.size e w' ∧ Below w.heap.size w w' := by
  have HV := Lib.hid hv; clear hv
  have HR := Lib.hid hR; clear hR
  have hs' : ¬ 20000 < s.size := by omega
  obtain ⟨i0, hi, iz0, iz1, iz2⟩ := info_parts Tryd.infoTk
  go_enter Tryd.func5, Tryd.ntmps5
  go_wp2_with fail
  go_loopw [5, 6, 7] (fun v l b wr => ∃ (pos line behind : Nat) (acc : List Tk), pos ≤ s.size ∧ wr.heap[w.heap.size]? = some (.stringIter s pos) ∧ Below w.heap.size w wr ∧ w.heap.size < wr.heap.size ∧
      wr.ownsRow (w.heap.size + 1) 30 4 v acc.length (acc.flatMap Tk.cells) ∧ l = .int .i64 line ∧ b = .int .i64 behind ∧ line ≤ pos + 1 ∧ behind ≤ 40000 ∧ acc.length ≤ pos ∧ Hid (R = scanR s s.size pos line behind acc)) (fun _ _ _ wr => s.size - wr.iterPos w.heap.size)
  case atStart => exact ⟨0, 1, 0, [], Nat.zero_le _, World.iter_heap _ _ _, (Below.refl _ _).alloc (Nat.le_refl _) _, by simp [World.iter], ⟨rfl, .inl ⟨rfl, rfl⟩⟩, rfl, rfl, by omega, by omega, Nat.le_refl _, HR.out.symm⟩
  case round =>
    obtain ⟨pos, line, behind, acc, hp, hit, hb, hz, hown, rfl, rfl, hl, hbe, hac, hsp⟩ := hrel
    by_cases hlt : pos < s.size
    · have hst := Lib.hid (scanR_step s pos line behind acc hlt)
      have p1 := wd_pos s pos hlt
      have q1 := wd_le s pos hlt
      have r1 := rn_lo s pos
      have r2 := rn_hi s pos
      have hnx := fun ty => next_at (P := Tryd.prog) ty hit hlt
      have hit2 := Lib.hid (Lib.iterAt_heap wr _ s pos (pos + wd s pos) hit)
      have hb2 : Below w.heap.size w (wr.iterAt w.heap.size s (pos + wd s pos)) := Lib.below_iterAt hb (Nat.le_refl _) _ _
      have own2 := Lib.hid (own_iter hown (Nat.lt_succ_self _) s (pos + wd s pos))
      have hz2 : w.heap.size < (wr.iterAt w.heap.size s (pos + wd s pos)).heap.size := by rw [Lib.iterAt_size]; exact hz
      have HI := Lib.hid hit
      clear hit hown hb
      generalize wr.iterAt w.heap.size s (pos + wd s pos) = w3 at *
      have meas : s.size - w3.iterPos w.heap.size < s.size - wr.iterPos w.heap.size := by
        have a : wr.iterPos w.heap.size = pos := by simp [World.iterPos, HI.out]
        have b : w3.iterPos w.heap.size = pos + wd s pos := by simp [World.iterPos, hit2.out]
        omega
      have HM := Lib.hid meas; clear meas
      by_cases hbh : pos < behind
      · go_wp2_with fail
        go_roundw
        case rel => exact ⟨pos + wd s pos, line, behind, acc, q1, hit2.out, hb2, hz2, own2.out, rfl, rfl, by omega, hbe, by omega, by have := hst.out; rw [if_pos hbh] at this; exact hsp.out.trans this⟩
        case measure => exact HM.out
      · have hst2 := hst.out
        rw [if_neg hbh] at hst2
        obtain ⟨L, hL, hLl⟩ : ∃ L : Nat, (if (rn s pos == 10) = true then line + 1 else line) = L ∧ L ≤ line + 1 := ⟨_, rfl, by split <;> omega⟩
        rw [hL] at hst2
        cases hbk : blankR (rn s pos)
        case true =>
          rw [hbk, if_pos rfl] at hst2
          have HS := Lib.hid (hsp.out.trans hst2)
          clear hst hst2
          cases hn : (rn s pos == 10)
          all_goals
            rw [hn] at hL
            have HL := Lib.hid hL
            clear hL
            go_wp2_with (go_at_call 12; refine (blank_any _ _).mono ?_; rintro e w' ⟨rfl, rfl⟩)
            go_roundw
            case rel => exact ⟨pos + wd s pos, L, behind, acc, q1, hit2.out, hb2, hz2, own2.out, by rw [← HL.out]; rfl, rfl, by omega, hbe, by omega, HS.out⟩
            case measure => exact HM.out
        case false =>
          rw [hbk, if_neg (by simp)] at hst2
          clear hst
          have hsz : (s.extract pos s.size).size = s.size - pos := by rw [ByteArray.size_extract]; omega
          have h0 : 0 < (s.extract pos s.size).size := by omega
          have hpc := Lib.hid (fun w hv => piece_calls (s.extract pos s.size) (rn s pos) w (by omega) h0 hv)
          have hQ : pieceP (s.extract pos s.size) (rn s pos) h0 = pieceQ (s.extract pos s.size) (rn s pos) := by unfold pieceQ; rw [dif_pos h0]
          rw [hQ] at hpc
          have hlen : ∀ p, pieceQ (s.extract pos s.size) (rn s pos) = some p → p.len ≤ 20000 := fun p h => by have := piece_len _ _ _ h; omega
          have HV3 := Lib.hid (HV.out.ext hb2)
          clear hQ h0 hsz
          generalize pieceQ (s.extract pos s.size) (rn s pos) = Q at *
          have HS2 := Lib.hid hst2
          clear hst2
          cases hn : (rn s pos == 10)
          case false =>
            rw [hn] at hL
            obtain rfl : line = L := by simpa using hL
            clear hL
            cases Q with
            | none =>
              have HS := Lib.hid (hsp.out.trans HS2.out)
              clear HS2
              go_wp2_with (first | (go_at_call 12; refine (blank_any _ _).mono ?_; rintro e w' ⟨rfl, rfl⟩) | (go_at_call 13; refine (hpc.out _ HV3.out).mono ?_; rintro e w4 ⟨⟨n, k, m, t, b, rfl, k1, k2⟩, g4⟩; obtain rfl := k1 rfl; clear k1 k2))
              go_ret3
              exact ⟨by rw [HS.out]; rfl, ((hb2.trans (g4.mono (by omega))).alloc (by have := g4.size; omega) _)⟩
            | some p =>
              have HS := Lib.hid (hsp.out.trans HS2.out)
              clear HS2
              have hpl := hlen p rfl
              clear hlen
              cases hk : (p.kind != 0)
              · go_wp2_with (first | (go_at_call 12; refine (blank_any _ _).mono ?_; rintro e w' ⟨rfl, rfl⟩) | (go_at_call 13; refine (hpc.out _ HV3.out).mono ?_; rintro e w4 ⟨⟨n, k, m, t, b, rfl, k1, k2⟩, g4⟩; obtain ⟨rfl, rfl, rfl, rfl, rfl⟩ := k2 p rfl; clear k1 k2))
                have hb4 : Below w.heap.size w w4 := hb2.trans (g4.mono (by omega))
                have own4 := Lib.hid (own_ext own2.out g4)
                have hz4 : w.heap.size < w4.heap.size := by have := g4.size; omega
                have hit4 := Lib.hid ((g4.block w.heap.size hz2).trans hit2.out)
                go_roundw
                case rel => exact ⟨pos + wd s pos, line, pos + p.len, acc, q1, by rw [Below.heap_alloc _ _ _ hz4]; exact hit4.out, hb4.alloc (by omega) _, by simp; omega, own4.out.alloc _, rfl, rfl, by omega, by omega, by omega, by rw [hk] at HS; exact HS.out⟩
                case measure =>
                  have e4 : (w4.alloc (.cells #[.int .i64 p.kind, .string p.text, .int .i64 p.n, .int .i64 0] 30)).iterPos w.heap.size = w3.iterPos w.heap.size := iter_same ((Below.heap_alloc _ _ _ hz4).trans (hit4.out.trans hit2.out.symm))
                  rw [e4]; exact HM.out
              · go_wp2_with (first | (go_at_call 12; refine (blank_any _ _).mono ?_; rintro e w' ⟨rfl, rfl⟩) | (go_at_call 13; refine (hpc.out _ HV3.out).mono ?_; rintro e w4 ⟨⟨n, k, m, t, b, rfl, k1, k2⟩, g4⟩; obtain ⟨rfl, rfl, rfl, rfl, rfl⟩ := k2 p rfl; clear k1 k2; have hb4 : Below w.heap.size w w4 := hb2.trans (g4.mono (by omega)); have own4 := Lib.hid (own_ext own2.out g4); have hz4 : w.heap.size < w4.heap.size := Nat.lt_of_lt_of_le hz2 g4.size) | (at_builtin; go_must (refine wpList_append_own _ rfl (.tmp 51) (.tmp 53) 23 rfl (w.heap.size + 1) 30 i0 (.agg #[.int .i64 0, .string ⟨#[]⟩, .int .i64 0, .int .i64 0]) 4 40 Tryd.underlying23 hi iz0 iz1 iz2 rfl (by decide) _ acc.length (acc.flatMap Tk.cells) rfl ((own4.out.alloc _).alloc _) ⟨w4.heap.size + 1, 0, none⟩ 1 1 [.int .i64 p.kind, .string p.text, .int .i64 p.n, .int .i64 (line : Int)] rfl rfl ?a1 ?a2 ?a3 ?a4 ?a5 ?_)))
                case a1 => exact fun j u h => new_row _ _ _ _ (by simp) j u h
                case a2 =>
                  intro u hu
                  simp only [List.mem_cons, List.not_mem_nil, or_false] at hu
                  rcases hu with rfl | rfl | rfl | rfl
                  all_goals rfl
                case a3 => unfold maxLen; omega
                case a4 => omega
                case a5 => simp; omega
                intro v' w5 hown5 hgrow5 _
                have hit4 := (g4.block w.heap.size hz2).trans hit2.out
                have hX : Below w.heap.size w ((w4.alloc (.cells #[.int .i64 p.kind, .string p.text, .int .i64 p.n, .int .i64 (line : Int)] 30)).alloc (.cells #[.int .i64 p.kind, .string p.text, .int .i64 p.n, .int .i64 (line : Int)] 30)) := (hb4.alloc (by omega) _).alloc (by simp; omega) _
                have hownX := (own4.out.alloc (.cells #[.int .i64 p.kind, .string p.text, .int .i64 p.n, .int .i64 (line : Int)] 30)).alloc (.cells #[.int .i64 p.kind, .string p.text, .int .i64 p.n, .int .i64 (line : Int)] 30)
                have hit5 := Lib.hid (block_grown hownX hgrow5 (Nat.lt_succ_self _) ((Below.heap_alloc _ _ _ (by simp; omega)).trans ((Below.heap_alloc _ _ _ hz4).trans hit4)))
                have hb5 := below_grown hX (by simp; omega) hownX (Nat.le_succ _) hgrow5
                have hz5 : w.heap.size < w5.heap.size := by have := hgrow5.size; simp at this; omega
                have own5 := Lib.hid hown5
                clear hX hownX hgrow5 hown5 hit4
                go_wp2_with fail
                go_roundw
                case rel => exact ⟨pos + wd s pos, line, pos + p.len, acc ++ [⟨p.kind, p.text, p.n, (line : Nat)⟩], q1, hit5.out, hb5, hz5, by rw [List.length_append, List.flatMap_append]; exact own5.out, rfl, rfl, by omega, by omega, by simp; omega, by rw [hk] at HS; exact HS.out⟩
                case measure =>
                  have e5 : w5.iterPos w.heap.size = w3.iterPos w.heap.size := iter_same (hit5.out.trans hit2.out.symm)
                  rw [e5]; exact HM.out
          case true =>
            rw [hn] at hL
            obtain rfl : line + 1 = L := by simpa using hL
            clear hL
            cases Q with
            | none =>
              have HS := Lib.hid (hsp.out.trans HS2.out)
              clear HS2
              go_wp2_with (first | (go_at_call 12; refine (blank_any _ _).mono ?_; rintro e w' ⟨rfl, rfl⟩) | (go_at_call 13; refine (hpc.out _ HV3.out).mono ?_; rintro e w4 ⟨⟨n, k, m, t, b, rfl, k1, k2⟩, g4⟩; obtain rfl := k1 rfl; clear k1 k2))
              go_ret3
              exact ⟨by rw [HS.out]; rfl, ((hb2.trans (g4.mono (by omega))).alloc (by have := g4.size; omega) _)⟩
            | some p =>
              have HS := Lib.hid (hsp.out.trans HS2.out)
              clear HS2
              have hpl := hlen p rfl
              clear hlen
              cases hk : (p.kind != 0)
              · go_wp2_with (first | (go_at_call 12; refine (blank_any _ _).mono ?_; rintro e w' ⟨rfl, rfl⟩) | (go_at_call 13; refine (hpc.out _ HV3.out).mono ?_; rintro e w4 ⟨⟨n, k, m, t, b, rfl, k1, k2⟩, g4⟩; obtain ⟨rfl, rfl, rfl, rfl, rfl⟩ := k2 p rfl; clear k1 k2))
                have hb4 : Below w.heap.size w w4 := hb2.trans (g4.mono (by omega))
                have own4 := Lib.hid (own_ext own2.out g4)
                have hz4 : w.heap.size < w4.heap.size := by have := g4.size; omega
                have hit4 := Lib.hid ((g4.block w.heap.size hz2).trans hit2.out)
                go_roundw
                case rel => exact ⟨pos + wd s pos, line + 1, pos + p.len, acc, q1, by rw [Below.heap_alloc _ _ _ hz4]; exact hit4.out, hb4.alloc (by omega) _, by simp; omega, own4.out.alloc _, rfl, rfl, by omega, by omega, by omega, by rw [hk] at HS; exact HS.out⟩
                case measure =>
                  have e4 : (w4.alloc (.cells #[.int .i64 p.kind, .string p.text, .int .i64 p.n, .int .i64 0] 30)).iterPos w.heap.size = w3.iterPos w.heap.size := iter_same ((Below.heap_alloc _ _ _ hz4).trans (hit4.out.trans hit2.out.symm))
                  rw [e4]; exact HM.out
              · go_wp2_with (first | (go_at_call 12; refine (blank_any _ _).mono ?_; rintro e w' ⟨rfl, rfl⟩) | (go_at_call 13; refine (hpc.out _ HV3.out).mono ?_; rintro e w4 ⟨⟨n, k, m, t, b, rfl, k1, k2⟩, g4⟩; obtain ⟨rfl, rfl, rfl, rfl, rfl⟩ := k2 p rfl; clear k1 k2; have hb4 : Below w.heap.size w w4 := hb2.trans (g4.mono (by omega)); have own4 := Lib.hid (own_ext own2.out g4); have hz4 : w.heap.size < w4.heap.size := Nat.lt_of_lt_of_le hz2 g4.size) | (at_builtin; go_must (refine wpList_append_own _ rfl (.tmp 51) (.tmp 53) 23 rfl (w.heap.size + 1) 30 i0 (.agg #[.int .i64 0, .string ⟨#[]⟩, .int .i64 0, .int .i64 0]) 4 40 Tryd.underlying23 hi iz0 iz1 iz2 rfl (by decide) _ acc.length (acc.flatMap Tk.cells) rfl ((own4.out.alloc _).alloc _) ⟨w4.heap.size + 1, 0, none⟩ 1 1 [.int .i64 p.kind, .string p.text, .int .i64 p.n, .int .i64 ((line : Int) + 1)] rfl rfl ?b1 ?b2 ?b3 ?b4 ?b5 ?_)))
                case b1 => exact fun j u h => new_row _ _ _ _ (by simp) j u h
                case b2 =>
                  intro u hu
                  simp only [List.mem_cons, List.not_mem_nil, or_false] at hu
                  rcases hu with rfl | rfl | rfl | rfl
                  all_goals rfl
                case b3 => unfold maxLen; omega
                case b4 => omega
                case b5 => simp; omega
                intro v' w5 hown5 hgrow5 _
                have hit4 := (g4.block w.heap.size hz2).trans hit2.out
                have hX : Below w.heap.size w ((w4.alloc (.cells #[.int .i64 p.kind, .string p.text, .int .i64 p.n, .int .i64 ((line : Int) + 1)] 30)).alloc (.cells #[.int .i64 p.kind, .string p.text, .int .i64 p.n, .int .i64 ((line : Int) + 1)] 30)) := (hb4.alloc (by omega) _).alloc (by simp; omega) _
                have hownX := (own4.out.alloc (.cells #[.int .i64 p.kind, .string p.text, .int .i64 p.n, .int .i64 ((line : Int) + 1)] 30)).alloc (.cells #[.int .i64 p.kind, .string p.text, .int .i64 p.n, .int .i64 ((line : Int) + 1)] 30)
                have hit5 := Lib.hid (block_grown hownX hgrow5 (Nat.lt_succ_self _) ((Below.heap_alloc _ _ _ (by simp; omega)).trans ((Below.heap_alloc _ _ _ hz4).trans hit4)))
                have hb5 := below_grown hX (by simp; omega) hownX (Nat.le_succ _) hgrow5
                have hz5 : w.heap.size < w5.heap.size := by have := hgrow5.size; simp at this; omega
                have own5 := Lib.hid hown5
                clear hX hownX hgrow5 hown5 hit4
                go_wp2_with fail
                go_roundw
                case rel => exact ⟨pos + wd s pos, line + 1, pos + p.len, acc ++ [⟨p.kind, p.text, p.n, (line + 1 : Nat)⟩], q1, hit5.out, hb5, hz5, by rw [List.length_append, List.flatMap_append]; exact own5.out, rfl, rfl, by omega, by omega, by simp; omega, by rw [hk] at HS; exact HS.out⟩
                case measure =>
                  have e5 : w5.iterPos w.heap.size = w3.iterPos w.heap.size := iter_same (hit5.out.trans hit2.out.symm)
                  rw [e5]; exact HM.out
    · have hpe : pos = s.size := by omega
      have HE := Lib.hid (scanR_end s s.size pos line behind acc hlt)
      have HI := Lib.hid hit
      have hnx := fun ty => next_end (P := Tryd.prog) ty hit hlt
      have own1 := Lib.hid hown
      clear hit hown hpe
      go_wp2_with (first | (at_builtin; go_must (refine wpList_append_own _ rfl (.tmp 55) (.tmp 58) 23 rfl (w.heap.size + 1) 30 i0 (.agg #[.int .i64 0, .string ⟨#[]⟩, .int .i64 0, .int .i64 0]) 4 40 Tryd.underlying23 hi iz0 iz1 iz2 rfl (by decide) _ acc.length (acc.flatMap Tk.cells) rfl (own1.out.alloc _) ⟨wr.heap.size, 0, none⟩ 1 1 [.int .i64 5, .string ⟨#[]⟩, .int .i64 0, .int .i64 line] rfl rfl ?c1 ?c2 ?c3 ?c4 ?c5 ?_)))
      case c1 => exact fun j u h => new_row _ _ _ _ rfl j u h
      case c2 =>
        intro u hu
        simp only [List.mem_cons, List.not_mem_nil, or_false] at hu
        rcases hu with rfl | rfl | rfl | rfl
        all_goals rfl
      case c3 => unfold maxLen; omega
      case c4 => omega
      case c5 => simp; omega
      intro v' w5 hown5 hgrow5 _
      have hX : Below w.heap.size w (wr.alloc (.cells #[.int .i64 5, .string ⟨#[]⟩, .int .i64 0, .int .i64 line] 30)) := hb.alloc (by omega) _
      have hb5 := below_grown hX (by simp; omega) (own1.out.alloc (.cells #[.int .i64 5, .string ⟨#[]⟩, .int .i64 0, .int .i64 line] 30)) (Nat.le_succ _) hgrow5
      have own5 := Lib.hid hown5
      clear hX hgrow5 hown5
      go_wp2_with fail
      go_ret3
      refine ⟨?_, hb5⟩
      have hRR := hsp.out.trans HE.out
      subst hRR
      exact ⟨_, rfl, by
        have k := own5.out
        show World.ownsRow w5 w.heap.size 30 4 _ (acc ++ [(⟨5, ⟨#[]⟩, 0, line⟩ : Tk)]).length ((acc ++ [(⟨5, ⟨#[]⟩, 0, line⟩ : Tk)]).flatMap Tk.cells)
        rw [List.length_append, List.flatMap_append]
        exact own_base k (Nat.le_succ _)⟩
theorem scan_calls (s : ByteArray) (w : World) (hs : s.size ≤ 20000) (hv : ErrVars w) :
    Calls Tryd.prog 5 #[.string s] w fun e w' => ScanRes (scanL s) w.heap.size e w' ∧ Below w.heap.size w w' := scan_walk s w hs hv _ rfl
end Go.Proofs.YtpoomcejmdlmiaaDoor
