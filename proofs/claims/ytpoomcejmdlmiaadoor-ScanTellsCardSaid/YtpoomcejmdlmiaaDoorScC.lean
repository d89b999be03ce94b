/- Numbers. -/
import Derived.Test.YtpoomcejmdlmiaaDoorRows
import Derived.WalkKit
import Derived.ProofKit
import Derived.OpenShut
import Derived.WalkLawsBesides
import Derived.WalkSpells
import Derived.Outline
import Derived.Handy
import Derived.Lib.Hide
import Derived.Lib.OthersKept
import Derived.Test.YtpoomcejmdlmiaaDoorSc0
import Derived.RegionTactic
import Derived.BigRegion
import Derived.Deep.RegionHeld3
import Derived.Test.YtpoomcejmdlmiaaDoorShelf
import Derived.Test.YtpoomcejmdlmiaaDoorScB
namespace Go.Proofs.YtpoomcejmdlmiaaDoor
open Go.ChangeShapes Go.WideShapes Go.ChangeAt Go.RowKit
set_option linter.unusedVariables false
/-- The number at a text's beginning. -/
def numberP (s : ByteArray) : Option Piece :=
  match Lib.atoiAll (s.extract 0 (spanL digitR s)).data.toList with
  | .ok v => if (s.data.toList.getD 0 0 != 48 || spanL digitR s == 1) then some ⟨spanL digitR s, 3, s.extract 0 (spanL digitR s), v⟩ else none
  | _ => none
theorem atoi_bad (t : ByteArray) (hz : t.size ≤ 281474976710656) (hno : ∀ v, Lib.atoiAll t.data.toList ≠ .ok v) (w : World) (hv : ErrVars w) :
    Calls Tryd.prog 31 #[.string t] w fun e w' => (∃ x tp q, e = .returned (.tuple #[.int .i64 x, .iface tp q])) ∧ Below w.heap.size w w' := by
  obtain ⟨_, ⟨a, ha, ia⟩, ⟨c, hc, ic⟩⟩ := hv
  cases h : Lib.atoiAll t.data.toList
  · exact absurd h (hno _)
  · exact (Tryd.strconv_Atoi_syntax t hz h a w ha ia).mono fun e w' ⟨N, he, _, _, hb⟩ => ⟨⟨_, _, _, he⟩, hb⟩
  · exact (Tryd.strconv_Atoi_range t hz h c w hc ic).mono fun e w' ⟨N, he, _, _, hb⟩ => ⟨⟨_, _, _, he⟩, hb⟩
theorem atoi_good (t : ByteArray) (hz : t.size ≤ 20000) (v : Int) (h : Lib.atoiAll t.data.toList = .ok v) (w : World) :
    Calls Tryd.prog 31 #[.string t] w fun e w' => e = .returned (.tuple #[.int .i64 v, .nilIface]) ∧ Below w.heap.size w w' := by
  refine (Tryd.strconv_Atoi_ok t (by omega) v h w).mono ?_
  rintro e w' ⟨he, hw | ⟨q, hw⟩⟩
  · exact ⟨he, by rw [hw]; exact Below.refl _ _⟩
  · exact ⟨he, by rw [hw]; exact Lib.bytesWorld_below _ _ _⟩
theorem first_byte (s : ByteArray) (h : 0 < s.size) : s.data.toList.getD 0 0 = s[0]'h := by
  have h' : 0 < s.data.toList.length := by simpa using h
  rw [List.getD_eq_getElem?_getD, List.getElem?_eq_getElem h']
  simp; rfl
set_option maxRecDepth 100000 in
set_option maxHeartbeats 8000000 in
theorem number_walk (s : ByteArray) (w : World) (n : Nat) (v : Int) (hn : n ≤ s.size) (h0 : 0 < s.size)
    (hc : Hid (∀ w, Calls Tryd.prog 17 #[.string s, .func (.func 24) #[] #[]] w fun e w' => e = .returned (.int .i64 n) ∧ Below w.heap.size w w'))
    (hat : Hid (∀ w, Calls Tryd.prog 31 #[.string (s.extract 0 n)] w fun e w' => e = .returned (.tuple #[.int .i64 v, .nilIface]) ∧ Below w.heap.size w w')) (b : Bool) (hb : (((s[0]'h0).toNat : Int) != 48) = b) (d : Bool) (hd : ((n : Int) == 1) = d) :
    Calls Tryd.prog 25 #[.string s] w fun e w' => e = .returned (.tuple #[.int .i64 n, .agg #[.int .i64 3, .string (s.extract 0 n), .int .i64 v, .int .i64 0], .bool (b || d)]) ∧ Below w.heap.size w w' := by
  go_enter Tryd.func25, Tryd.ntmps25
  go_wp2_with fail
  refine (hc.out _).mono ?_; rintro e w1 ⟨rfl, g1⟩
  go_wp2_with fail
  refine (hat.out _).mono ?_; rintro e w2 ⟨rfl, g2⟩
  go_wp2_with fail
  have g3 := ext_trans g1 g2
  have hblk := (g3.block w.heap.size (by simp)).trans (heap_new _ _)
  obtain ⟨⟨c0, c1, c2, c3⟩, f0, f1, f2, f3⟩ := four_at hblk
  clear hblk
  have G : Below w.heap.size w w2 := ext_trans (ext_alloc (Below.refl _ _) _) g3
  have h0' : (0 : Int) < s.size := by omega
  clear g3 g1 g2 hc hat
  cases b
  · cases d
    all_goals
      go_region_held3 (fun _ => True) (exact trivial) ((fail))
      go_wp2_with fail
    · exact bodyPost_ret (v := .tuple #[.int .i64 n, .agg #[.int .i64 3, .string (s.extract 0 n), .int .i64 v, .int .i64 0], .bool false]) (by simp [results, Tryd.results25, go_sem, c0, c1, c2, c3]) rfl
          ⟨rfl, by repeat (first | exact G | (refine ext_drew ?_) | (refine ext_set ?_ (Nat.le_refl _) _))⟩
    · exact bodyPost_ret (v := .tuple #[.int .i64 n, .agg #[.int .i64 3, .string (s.extract 0 n), .int .i64 v, .int .i64 0], .bool true]) (by simp [results, Tryd.results25, go_sem, c0, c1, c2, c3]) rfl
          ⟨rfl, by repeat (first | exact G | (refine ext_drew ?_) | (refine ext_set ?_ (Nat.le_refl _) _))⟩
  · go_region
    go_wp2_with fail
    exact bodyPost_ret (v := .tuple #[.int .i64 n, .agg #[.int .i64 3, .string (s.extract 0 n), .int .i64 v, .int .i64 0], .bool true]) (by simp [results, Tryd.results25, go_sem, c0, c1, c2, c3]) rfl
          ⟨rfl, by repeat (first | exact G | (refine ext_drew ?_) | (refine ext_set ?_ (Nat.le_refl _) _))⟩
set_option maxRecDepth 100000 in
set_option maxHeartbeats 8000000 in
theorem number_none (s : ByteArray) (w : World) (n : Nat) (hn : n ≤ s.size) (h0 : 0 < s.size) (hv : ErrVars w)
    (hc : Hid (∀ w, Calls Tryd.prog 17 #[.string s, .func (.func 24) #[] #[]] w fun e w' => e = .returned (.int .i64 n) ∧ Below w.heap.size w w'))
    (hat : Hid (∀ w, ErrVars w → Calls Tryd.prog 31 #[.string (s.extract 0 n)] w fun e w' => (∃ x tp q, e = .returned (.tuple #[.int .i64 x, .iface tp q])) ∧ Below w.heap.size w w')) :
    Calls Tryd.prog 25 #[.string s] w fun e w' => Says none e ∧ Below w.heap.size w w' := by
  go_enter Tryd.func25, Tryd.ntmps25
  go_wp2_with fail
  refine (hc.out _).mono ?_; rintro e w1 ⟨rfl, g1⟩
  have hv1 := hv.ext (ext_trans (ext_alloc (Below.refl _ _) _) g1)
  go_wp2_with fail
  refine (hat.out _ hv1).mono ?_; rintro e w2 ⟨⟨x, tp, q, rfl⟩, g2⟩
  clear hv hv1
  go_wp2_with fail
  have g3 := ext_trans g1 g2
  have hblk := (g3.block w.heap.size (by simp)).trans (heap_new _ _)
  obtain ⟨⟨c0, c1, c2, c3⟩, f0, f1, f2, f3⟩ := four_at hblk
  clear hblk
  have G : Below w.heap.size w w2 := ext_trans (ext_alloc (Below.refl _ _) _) g3
  clear g3 g1 g2 hc hat
  go_region
  go_wp2_with fail
  exact bodyPost_ret (v := .tuple #[.int .i64 n, .agg #[.int .i64 3, .string (s.extract 0 n), .int .i64 x, .int .i64 0], .bool false]) (by simp [results, Tryd.results25, go_sem, c0, c1, c2, c3]) rfl
    ⟨says_none _ _ _ _, by repeat (first | exact G | (refine ext_drew ?_) | (refine ext_set ?_ (Nat.le_refl _) _))⟩
theorem number_calls (s : ByteArray) (w : World) (hs : s.size ≤ 20000) (h0 : 0 < s.size) (hv : ErrVars w) : Calls Tryd.prog 25 #[.string s] w fun e w' => Says (numberP s) e ∧ Below w.heap.size w w' := by
  have hn := spanL_le digitR s
  have hc := Lib.hid (fun w => spanD_any s w)
  have hz : (s.extract 0 (spanL digitR s)).size ≤ 20000 := by rw [ByteArray.size_extract]; omega
  unfold numberP
  generalize spanL digitR s = n at *
  rw [first_byte s h0]
  by_cases hg : ∃ v, Lib.atoiAll (s.extract 0 n).data.toList = .ok v
  · obtain ⟨v, he⟩ := hg
    rw [he]
    have hat := Lib.hid (fun w => atoi_good (s.extract 0 n) hz v he w)
    refine (number_walk s w n v hn h0 hc hat _ rfl _ rfl).mono fun e w' h => ⟨?_, h.2⟩
    rw [h.1]
    have e1 : (((s[0]'h0).toNat : Int) != 48) = (s[0]'h0 != 48) := by
      rw [Bool.eq_iff_iff]; simp only [bne_iff_ne, ne_eq]
      constructor
      · intro k k'; rw [k'] at k; exact k rfl
      · intro k k'; exact k (UInt8.toNat_inj.1 (by have : ((s[0]'h0).toNat : Int) = 48 := k'; show (s[0]'h0).toNat = 48; omega))
    have e2 : ((n : Int) == 1) = (n == 1) := by rw [Bool.eq_iff_iff]; simp only [beq_iff_eq]; omega
    rw [e1, e2]
    show Says (if (s[0]'h0 != 48 || n == 1) = true then some ⟨n, 3, s.extract 0 n, v⟩ else none) _
    cases hx : (s[0]'h0 != 48 || n == 1)
    · rw [if_neg (by simp)]; exact says_none _ _ _ _
    · rw [if_pos rfl]; exact says_some rfl rfl rfl rfl
  · have hat := Lib.hid (fun w (hv : ErrVars w) => atoi_bad (s.extract 0 n) (by omega) (fun v h => hg ⟨v, h⟩) w hv)
    have hnone : (match Lib.atoiAll (s.extract 0 n).data.toList with | .ok v => if ((s[0]'h0) != 48 || n == 1) = true then some ⟨n, 3, s.extract 0 n, v⟩ else none | _ => none) = (none : Option Piece) := by
      split
      · rename_i v h; exact absurd ⟨v, h⟩ hg
      · rfl
    rw [hnone]
    clear hnone hg
    exact number_none s w n hn h0 hv hc hat
end Go.Proofs.YtpoomcejmdlmiaaDoor
