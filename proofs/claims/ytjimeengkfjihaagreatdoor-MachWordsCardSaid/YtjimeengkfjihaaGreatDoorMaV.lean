/- Where arrays begin, how many words there are. -/
import Derived.Test.YtjimeengkfjihaaGreatDoorRows
import Derived.WalkKit
import Derived.ProofKit
import Derived.OpenShut
import Derived.WalkLawsBesides
import Derived.WalkSpells
import Derived.Outline
import Derived.Handy
import Derived.Lib.Hide
import Derived.Lib.OthersKept
import Derived.KernelRfl
import Derived.Carry
import Derived.IntWalk
import Derived.Test.YtjimeengkfjihaaGreatDoorMaQ
import Derived.Test.YtjimeengkfjihaaGreatDoorAsB
import Derived.RegionTactic
import Derived.BigRegion
import Derived.BigQuiet
import Derived.Deep.QuietTactic
namespace Go.Proofs.YtjimeengkfjihaaGreatDoor
open Go.ChangeShapes Go.WideShapes Go.ChangeAt Go.RowKit
set_option linter.unusedVariables false
def BegRes (B : Nat) (c : Cd) (e : Ending) (w : World) : Prop := ∃ b, e = .returned (.map (some b)) ∧ IMap w b c.arrays.length (begL c) ∧ B ≤ b
theorem ok_size {c : Cd} (hok : (faultL c).1 = 0) : ∀ a ∈ c.arrays, 1 ≤ a.size ∧ a.size ≤ 1048576 := by
  intro a ha
  have h := (ok_all hok).2.1
  have h2 := List.any_eq_false.1 h a ha
  unfold badArr at h2
  simp at h2
  omega
theorem begs_step (L : List Ar) (j : Nat) (h : j < L.length) (p : Int) (F : List UInt8 → Option Int) : beginsL (L.drop j) p F = beginsL (L.drop (j + 1)) (p + 8 * (L[j]'h).size) (putF F (L[j]'h).name p) := by
  rw [List.drop_eq_getElem_cons h]; rfl
theorem words_step (L : List Ar) (j : Nat) (h : j < L.length) : wordsL (L.take (j + 1)) = wordsL (L.take j) + (L[j]'h).size := by
  unfold wordsL
  rw [List.take_succ_eq_append_getElem h, List.map_append, List.sum_append]
  simp
theorem words_bd (L : List Ar) (hs : ∀ a ∈ L, 1 ≤ a.size ∧ a.size ≤ 1048576) : 0 ≤ wordsL L ∧ wordsL L ≤ 1048576 * (L.length : Int) := by
  induction L with
  | nil => exact ⟨by decide, by decide⟩
  | cons a r ih =>
    have h1 := hs a (by simp)
    have h2 := ih (fun b hb => hs b (List.mem_cons_of_mem _ hb))
    have e : wordsL (a :: r) = a.size + wordsL r := by unfold wordsL; simp
    rw [e, List.length_cons]
    omega
set_option maxHeartbeats 1000000 in
set_option maxRecDepth 100000 in
theorem begins_any (v : Value) (c : Cd) (w : World) (h : CdAt w v c) (hf : CdFit c) (hok : (faultL c).1 = 0) (hal : c.arrays.length ≤ 1000) : Calls Tryz.prog 28 #[v] w fun e w' => BegRes w.heap.size c e w' ∧ Below w.heap.size w w' := by
  obtain ⟨va, vl, rfl, ⟨hn, p, cap, rfl, hc⟩, ⟨_, pl, capl, rfl, _⟩, _, hlen⟩ := h
  have HC := Lib.hid hc
  have HF := Lib.hid hf.2
  have HSZ := Lib.hid (ok_size hok)
  have hmm := @run_makeMap Tryz.prog
  have HB0 : Hid (beginsL c.arrays 65536 (fun _ => none) = begL c) := Lib.hid rfl
  clear hc hf hok
  have HRES : Hid (∀ b w', IMap w' b c.arrays.length (begL c) → w.heap.size ≤ b → BegRes w.heap.size c (.returned (.map (some b))) w') := Lib.hid (fun b w' h1 h2 => ⟨b, rfl, h1, h2⟩)
  generalize begL c = G at *
  generalize c.arrays = L at *
  go_enter Tryz.func28, Tryz.ntmps28
  go_wp2_with fail
  go_loopw [4, 11] (fun pv iv wr => ∃ (j : Nat) (q : Int) (F : List UInt8 → Option Int), iv = .int .i64 j ∧ pv = .int .i64 q ∧ j ≤ L.length ∧ 0 ≤ q ∧ q ≤ 65536 + 8388608 * (j : Int) ∧ Below w.heap.size w wr ∧ IMap wr (w.heap.size + 1) j F ∧ beginsL (L.drop j) q F = G) (fun _ iv wr => L.length - slotN iv)
  case atStart =>
    refine ⟨0, 65536, fun _ => none, rfl, rfl, Nat.zero_le _, by omega, by omega, ext_alloc (ext_alloc (Below.refl _ _) _) _, ?_, HB0.out⟩
    have := imap_made (w.alloc (.cells #[.slice p L.length cap, .slice pl c.lines.length capl] 27))
    simpa using this
  case round =>
    obtain ⟨j, q, F, rfl, rfl, hj, hq0, hq1, hbl, hm, hG⟩ := hrel
    by_cases h : j < L.length
    · obtain ⟨a, rfl, k⟩ := HC.out j h
      obtain ⟨k0, k1⟩ := ar_at (k.ext hbl)
      have HM := Lib.hid hm
      have HB := Lib.hid hbl
      have hs2 : w.heap.size + 1 < wr.heap.size := hm.lt
      have hlb : (L[j]'h).name.length ≤ maxLen := by have := HF.out _ (List.getElem_mem h); unfold maxLen; omega
      obtain ⟨hz1, hz2⟩ := HSZ.out _ (List.getElem_mem h)
      have HG : Hid (beginsL (L.drop (j + 1)) (q + 8 * (L[j]'h).size) (putF F (L[j]'h).name q) = G) := Lib.hid ((begs_step L j h q F).symm.trans hG)
      clear k hm hbl hG
      generalize L[j]'h = x at *
      obtain ⟨name, size⟩ := x
      simp only at k0 k1 hlb hz1 hz2 HG
      have hji : (j : Int) ≤ 1000 := by omega
      go_wp2_with (at_mapUpdate; refine wp_put (w.heap.size + 1) j F (HM.out.ext (ext_alloc (Below.refl _ _) _)) (by omega) name hlb q (by unfold I64; omega) rfl _ _ _ rfl rfl rfl rfl ?_
                   intro w1 hown1 hgrow1
                   have HO := Lib.hid hown1
                   have HG1 := Lib.hid ((ext_alloc HB.out (.cells #[.string (mk name), .int .i64 size] 37)).grown hgrow1 (by simp; omega) (fun k hk => by have := Option.some.inj hk; omega))
                   have hbx := (hgrow1.block wr.heap.size (by simp) (fun e => by have := Option.some.inj e; omega)).trans (heap_new wr _)
                   obtain ⟨x0, x1⟩ := two_cells hbx
                   have z1 : wr.heap.size < w1.heap.size := (Array.getElem?_eq_some_iff.1 hbx).1
                   clear hown1 hgrow1 hbx)
      go_roundw
      case rel => exact ⟨j + 1, q + 8 * size, _, by go_num, rfl, by omega, by omega, by omega, HG1.out, HO.out, HG.out⟩
      case measure => simp [slotN]; omega
    · obtain rfl : j = L.length := by omega
      have e : L.drop L.length = [] := List.drop_length
      rw [e] at hG
      have HM : Hid (IMap wr (w.heap.size + 1) L.length G) := Lib.hid (hm.to (fun k => by rw [← hG]; rfl))
      have HR := Lib.hid (HRES.out _ _ HM.out (by omega))
      clear hm hG e
      go_wp2_with fail
      go_ret
      exact ⟨HR.out, hbl⟩
end Go.Proofs.YtjimeengkfjihaaGreatDoor
/- How many words there are; Addr, Where; runs compared. -/
namespace Go.Proofs.YtjimeengkfjihaaGreatDoor
open Go.ChangeShapes Go.WideShapes Go.ChangeAt Go.RowKit
set_option linter.unusedVariables false
set_option maxHeartbeats 1000000 in
set_option maxRecDepth 100000 in
theorem words_any (v : Value) (c : Cd) (w : World) (h : CdAt w v c) (hok : (faultL c).1 = 0) (hal : c.arrays.length ≤ 1000) : Calls Tryz.prog 29 #[v] w fun e w' => e = .returned (.int .i64 (wordsL c.arrays)) ∧ Below w.heap.size w w' := by
  obtain ⟨va, vl, rfl, ⟨hn, p, cap, rfl, hc⟩, ⟨_, pl, capl, rfl, _⟩, _, hlen⟩ := h
  have HC := Lib.hid hc
  have HSZ := Lib.hid (ok_size hok)
  clear hc hok
  generalize c.arrays = L at *
  go_enter Tryz.func29, Tryz.ntmps29
  go_wp2_with fail
  go_loopw [3, 9] (fun nv iv wr => ∃ (j : Nat), iv = .int .i64 j ∧ nv = .int .i64 (wordsL (L.take j)) ∧ j ≤ L.length ∧ Below w.heap.size w wr) (fun _ iv wr => L.length - slotN iv)
  case atStart => exact ⟨0, rfl, rfl, Nat.zero_le _, ext_alloc (Below.refl _ _) _⟩
  case round =>
    obtain ⟨j, rfl, rfl, hj, hbl⟩ := hrel
    by_cases h : j < L.length
    · obtain ⟨a, rfl, k⟩ := HC.out j h
      obtain ⟨k0, k1⟩ := ar_at (k.ext hbl)
      have HB := Lib.hid hbl
      obtain ⟨hz1, hz2⟩ := HSZ.out _ (List.getElem_mem h)
      have HW := Lib.hid (words_step L j h)
      obtain ⟨hw1, hw2⟩ := words_bd (L.take j) (fun x hx => HSZ.out x (List.mem_of_mem_take hx))
      have hlt : (L.take j).length ≤ 1000 := by rw [List.length_take]; omega
      have hw3 : wordsL (L.take j) ≤ 1048576000 := by omega
      clear k hbl hw2 hlt
      generalize L[j]'h = x at *
      generalize wordsL (L.take j) = q at *
      obtain ⟨name, size⟩ := x
      simp only at k0 k1 hz1 hz2 HW
      have hji : (j : Int) ≤ 1000 := by omega
      go_wp2_with fail
      go_roundw
      case rel => exact ⟨j + 1, by go_num, by rw [HW.out], by omega, ext_alloc HB.out _⟩
      case measure => simp [slotN]; omega
    · have e : L.take j = L := List.take_of_length_le (by omega)
      rw [e]
      clear e
      go_wp2_with fail
      go_ret
      exact ⟨rfl, hbl⟩
def addrL (c : Cd) (n : List UInt8) : Int := if (faultL c).1 ≠ 0 then -1 else match begL c n with | some v => v | none => -1
def whereL (c : Cd) (p : Int) : Int := if (faultL c).1 ≠ 0 then -1 else wordN (wordsL c.arrays) p
set_option maxHeartbeats 1000000 in
set_option maxRecDepth 100000 in
theorem where_any (v : Value) (c : Cd) (w : World) (h : CdAt w v c) (hf : CdFit c) (hal : c.arrays.length ≤ 1000) (p : Int) (hp : I64 p) : Calls Tryz.prog 20 #[v, .int .i64 p] w fun e w' => e = .returned (.int .i64 (whereL c p)) ∧ Below w.heap.size w w' := by
  have HCK := Lib.hid (fun w' (g : Below w.heap.size w w') => acheck_any v c w' (h.ext g) hf)
  have HW := Lib.hid (fun (hok : (faultL c).1 = 0) w' (g : Below w.heap.size w w') => words_any v c w' (h.ext g) hok hal)
  have HN := Lib.hid (fun (hok : (faultL c).1 = 0) w' => number_m (wordsL c.arrays) p w' (words_bd _ (ok_size hok)).1 (by have := (words_bd _ (ok_size hok)).2; omega) hp)
  obtain ⟨va, vl, rfl, _, _, _, _⟩ := h
  by_cases h0 : (faultL c).1 = 0
  · have E : Hid (whereL c p = wordN (wordsL c.arrays) p) := Lib.hid (by unfold whereL; rw [if_neg (by simp [h0])])
    have HW2 := Lib.hid (HW.out h0)
    have HN2 := Lib.hid (HN.out h0)
    rw [h0] at HCK
    clear HW HN h0 hf
    generalize (faultL c).2 = e2 at *
    generalize wordsL c.arrays = W at *
    go_enter Tryz.func20, Tryz.ntmps20
    go_wp2_with fail
    refine (HCK.out _ (ext_alloc (Below.refl _ _) _)).mono ?_; rintro e w1 ⟨rfl, g1⟩
    obtain ⟨c0, c1⟩ := two_cells ((g1.block w.heap.size (by simp)).trans (heap_new w _))
    have G1 := Lib.hid (ext_trans (ext_alloc (Below.refl w.heap.size w) (.cells #[va, vl] 27)) g1)
    have z1 : w.heap.size < w1.heap.size := by have := g1.size; simp at this; omega
    clear g1
    go_wp2_with (first | (go_at_call 29; refine (HW2.out _ G1.out).mono ?_; rintro e w2 ⟨rfl, g2⟩) | (go_at_call 38; refine (HN2.out _).mono ?_; rintro e w2 ⟨rfl, rfl⟩))
    go_ret
    exact ⟨by rw [E.out]; rfl, ext_trans G1.out g2⟩
  · have E : Hid (whereL c p = -1) := Lib.hid (by unfold whereL; rw [if_pos h0])
    have hb : ((faultL c).1 == 0) = false := beq_eq_false_iff_ne.2 h0
    have hb2 : ((faultL c).1 != 0) = true := bne_iff_ne.2 h0
    clear HW HN h0 hf
    generalize (faultL c).2 = e2 at *
    generalize (faultL c).1 = e1 at *
    go_enter Tryz.func20, Tryz.ntmps20
    go_wp2_with fail
    refine (HCK.out _ (ext_alloc (Below.refl _ _) _)).mono ?_; rintro e w1 ⟨rfl, g1⟩
    have G1 := Lib.hid (ext_trans (ext_alloc (Below.refl w.heap.size w) (.cells #[va, vl] 27)) g1)
    clear g1
    go_wp2_with fail
    go_ret
    exact ⟨by rw [E.out]; rfl, G1.out⟩
set_option maxHeartbeats 1000000 in
set_option maxRecDepth 100000 in
theorem addr_any (v : Value) (c : Cd) (w : World) (h : CdAt w v c) (hf : CdFit c) (hal : c.arrays.length ≤ 1000) (n : List UInt8) (hn : n.length ≤ maxLen) : Calls Tryz.prog 19 #[v, .string (mk n)] w fun e w' => e = .returned (.int .i64 (addrL c n)) ∧ Below w.heap.size w w' := by
  have HCK := Lib.hid (fun w' (g : Below w.heap.size w w') => acheck_any v c w' (h.ext g) hf)
  have HW := Lib.hid (fun (hok : (faultL c).1 = 0) w' (g : Below w.heap.size w w') => begins_any v c w' (h.ext g) hf hok hal)
  obtain ⟨va, vl, rfl, _, _, _, _⟩ := h
  by_cases h0 : (faultL c).1 = 0
  · have E : Hid (addrL c n = match begL c n with | some v => v | none => -1) := Lib.hid (by unfold addrL; rw [if_neg (by simp [h0])])
    have HW2 := Lib.hid (HW.out h0)
    rw [h0] at HCK
    have tn : (mk n).toList = n := mk_tl _
    clear HW h0 hf
    generalize (faultL c).2 = e2 at *
    cases hk : begL c n with
    | none =>
      have E2 : Hid (addrL c n = -1) := Lib.hid (by rw [E.out, hk])
      have HK := Lib.hid hk
      clear hk E
      go_enter Tryz.func19, Tryz.ntmps19
      go_wp2_with fail
      refine (HCK.out _ (ext_alloc (Below.refl _ _) _)).mono ?_; rintro e w1 ⟨rfl, g1⟩
      obtain ⟨c0, c1⟩ := two_cells ((g1.block w.heap.size (by simp)).trans (heap_new w _))
      have G1 := Lib.hid (ext_trans (ext_alloc (Below.refl w.heap.size w) (.cells #[va, vl] 27)) g1)
      have z1 : w.heap.size < w1.heap.size := by have := g1.size; simp at this; omega
      clear g1
      go_wp2_with (first | (go_at_call 28; refine (HW2.out _ G1.out).mono ?_; rintro e w2 ⟨⟨b, rfl, hm, _⟩, g2⟩; have HM := Lib.hid hm; clear hm) | (at_lookup; refine wp_look_ok b c.arrays.length (begL c) HM.out n hn rfl _ _ rfl rfl rfl ?_; rw [HK.out]))
      go_ret
      exact ⟨by rw [E2.out]; rfl, ext_trans G1.out g2⟩
    | some q =>
      have E2 : Hid (addrL c n = q) := Lib.hid (by rw [E.out, hk])
      have HK := Lib.hid hk
      clear hk E
      go_enter Tryz.func19, Tryz.ntmps19
      go_wp2_with fail
      refine (HCK.out _ (ext_alloc (Below.refl _ _) _)).mono ?_; rintro e w1 ⟨rfl, g1⟩
      obtain ⟨c0, c1⟩ := two_cells ((g1.block w.heap.size (by simp)).trans (heap_new w _))
      have G1 := Lib.hid (ext_trans (ext_alloc (Below.refl w.heap.size w) (.cells #[va, vl] 27)) g1)
      have z1 : w.heap.size < w1.heap.size := by have := g1.size; simp at this; omega
      clear g1
      go_wp2_with (first | (go_at_call 28; refine (HW2.out _ G1.out).mono ?_; rintro e w2 ⟨⟨b, rfl, hm, _⟩, g2⟩; have HM := Lib.hid hm; clear hm) | (at_lookup; refine wp_look_ok b c.arrays.length (begL c) HM.out n hn rfl _ _ rfl rfl rfl ?_; rw [HK.out]))
      go_ret
      exact ⟨by rw [E2.out]; rfl, ext_trans G1.out g2⟩
  · have E : Hid (addrL c n = -1) := Lib.hid (by unfold addrL; rw [if_pos h0])
    have hb : ((faultL c).1 == 0) = false := beq_eq_false_iff_ne.2 h0
    have hb2 : ((faultL c).1 != 0) = true := bne_iff_ne.2 h0
    clear HW h0 hf
    generalize (faultL c).2 = e2 at *
    generalize (faultL c).1 = e1 at *
    go_enter Tryz.func19, Tryz.ntmps19
    go_wp2_with fail
    refine (HCK.out _ (ext_alloc (Below.refl _ _) _)).mono ?_; rintro e w1 ⟨rfl, g1⟩
    have G1 := Lib.hid (ext_trans (ext_alloc (Below.refl w.heap.size w) (.cells #[va, vl] 27)) g1)
    clear g1
    go_wp2_with fail
    go_ret
    exact ⟨by rw [E.out]; rfl, G1.out⟩
end Go.Proofs.YtjimeengkfjihaaGreatDoor
