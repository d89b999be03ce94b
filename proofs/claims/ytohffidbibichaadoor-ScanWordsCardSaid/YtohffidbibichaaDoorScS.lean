/- The walk of ScanLong: the call answers true and leaves what was there as it was. -/
import Derived.Test.YtohffidbibichaaDoorRows
import Derived.WalkKit
import Derived.ProofKit
import Derived.OpenShut
import Derived.WalkLawsBesides
import Derived.WalkSpells
import Derived.Outline
import Derived.Handy
import Derived.Lib.Hide
import Derived.Lib.OthersKept
import Derived.KernelRfl
import Derived.RegionTactic
import Derived.BigRegion
import Derived.Deep.RegionHeld3
import Derived.OwnWalk
import Derived.Laws.AppendOwn
import Derived.Laws.IdiomStrings
import Derived.Test.YtohffidbibichaaDoorScQ
namespace Go.Proofs.YtohffidbibichaaDoor
open Go.ChangeShapes Go.WideShapes Go.ChangeAt Go.RowKit
set_option linter.unusedVariables false
theorem q_not_word (xs : List UInt8) : wordB (mk (81 :: xs)) = false := by
  unfold wordB
  rw [mk_tl]
  simp
def Low (xs : List UInt8) : Prop := ∀ c ∈ xs, 97 ≤ c.toNat ∧ c.toNat ≤ 122
theorem low_plain {xs : List UInt8} (h : Low xs) : Plain inNameR (81 :: xs) := by
  intro c hc
  rcases List.mem_cons.1 hc with rfl | hc
  · decide
  · have := h c hc
    refine ⟨by omega, ?_⟩
    unfold inNameR letterR
    rw [decide_eq_true (by omega)]; rfl
theorem q_name {xs : List UInt8} (h : Low xs) (hl : (81 :: xs).length ≤ 20) : scanL (mk (10 :: 81 :: xs)) = ([⟨1, mk (81 :: xs), 0, 2⟩, endT 2], true, 0) := by
  have ht := (tok_letter 81 xs (by decide) (low_plain h)).2 (q_not_word xs) hl
  have := scanA_tok ht sep_nil 2 []
  rw [List.append_nil] at this
  rw [scanL_A, mk_list, scanA_feed, this]; rfl
theorem q_long {xs : List UInt8} (h : Low xs) (hl : 20 < (81 :: xs).length) : scanL (mk (10 :: 81 :: xs)) = ([], false, 2) := by
  obtain ⟨h1, h2⟩ := piece_letter 81 xs (by decide)
  have h3 := wordP_run (81 :: xs) [] (low_plain h) sep_nil
  rw [q_not_word, if_neg (by simp), if_neg (by omega), List.append_nil] at h3
  rw [h3] at h2
  rw [scanL_A, mk_list, scanA_feed, scanA_step _ _ _ (by simp), h1, h2]; rfl
theorem q_nameB {xs : List UInt8} (h : Low xs) : nameB (mk (81 :: xs)) = decide ((81 :: xs).length ≤ 20) := by
  have hs := span_run inNameR (81 :: xs) [] (low_plain h) (.inl rfl)
  rw [List.append_nil] at hs
  unfold nameB
  rw [q_not_word, hs, mk_list, mk_size]
  simp
  intro _
  decide
theorem feeds_scan : ∀ (n line : Nat) (acc : List Tk), scanA line (List.replicate n 10) acc = (acc ++ [endT (line + n)], true, 0)
  | 0, line, acc => rfl
  | n + 1, line, acc => by
    rw [List.replicate_succ, scanA_feed, feeds_scan n (line + 1) acc]
    have : line + 1 + n = line + (n + 1) := by omega
    rw [this]
theorem scan_feeds (n : Nat) : scanL (mk (List.replicate n 10)) = ([endT (1 + n)], true, 0) := by rw [scanL_A, mk_list, feeds_scan]; rfl
theorem Tryd.infoU8 : (Tryd.prog.info? 5).map (fun i => (i.zero, i.size, i.bytes)) = some (some (.int .u8 0), 1, 1) := by kernel_rfl
theorem cell_new (w : World) (u : Value) (t : TypeId) : (w.alloc (.cells #[u] t)).cell? ⟨w.heap.size, 0, none⟩ = some u := cell_row (heap_new w _) 0
/-- One byte more behind a row of one's own. -/
theorem app_u8 {ops : Array Oper} {rest : List Oper} {o : Oper} {a : Act} {Q : Exit → Act → World → Prop} {w : World} (hgd : o.guard = none) (s x : Operand)
    (ho : o.op = .call { callee := .builtin .append, args := #[s, x], argTypes := #[46, 46] })
    (base : Nat) (v : Value) (n : Nat) (xs : List Value) (hs : a.eval s = v) (hown : w.ownsRow base 5 1 v n xs)
    (b cap : Nat) (u : Value) (hx : a.eval x = .slice (some ⟨b, 0, none⟩) 1 cap) (hu : w.cell? ⟨b, 0, none⟩ = some u) (h1 : u.oneCell' = true) (hn : n ≤ 100000) (hbase : base ≤ w.heap.size)
    (h : ∀ v' w', w'.ownsRow base 5 1 v' (n + 1) (xs ++ [u]) → w.grownBy w' v.ownBlock → wpList Tryd.prog ops Q rest (a.put o.dst v') w') : wpList Tryd.prog ops Q (o :: rest) a w := by
  obtain ⟨i0, hi, iz0, iz1, iz2⟩ := info_parts Tryd.infoU8
  refine wpList_append_own _ hgd s x 46 ho base 5 i0 (.int .u8 0) 1 1 Tryd.underlying46 hi iz0 iz1 iz2 rfl (by decide) v n xs hs hown ⟨b, 0, none⟩ 1 cap [u] hx rfl ?_ ?_ ?_ ?_ hbase fun v' w' k1 k2 _ => h v' w' k1 k2
  · intro j u' hj
    cases j with
    | zero =>
      obtain rfl : u = u' := by simpa using hj
      simpa [Addr.add] using hu
    | succ j => simp at hj
  · intro u' hu'
    obtain rfl : u' = u := by simpa using hu'
    exact h1
  · unfold maxLen; omega
  · omega
theorem wrap_bounds (x : Int) : -9223372036854775808 ≤ wrap64 x ∧ wrap64 x ≤ 9223372036854775807 := by unfold wrap64; omega
def bytesV (xs : List UInt8) : List Value := xs.map fun c => .int .u8 (c.toNat : Int)
theorem bytesV_at (l : List UInt8) (j : Nat) (h : j < l.length) : (bytesV l)[j]? = some (.int .u8 ((l[j]'h).toNat : Int)) := by
  unfold bytesV
  rw [List.getElem?_map, List.getElem?_eq_getElem h]; rfl
/-- A row of bytes as a string. -/
theorem row_string {w : World} {g : Nat} {cur : Array Value} {n cap : Nat} {l : List UInt8} (hg : w.heap[g]? = some (.cells cur 5 (0, 0))) (hn : l.length = n) (ht : cur.toList.take n = bytesV l) :
    (convert 46 9 (.slice (some ⟨g, 0, none⟩) n cap)).run Tryd.prog w = .ok (.string (mk l)) w := by
  subst hn
  refine run_convert_bytes_back w _ _ 5 ⟨g, 0, none⟩ cap l (by kernel_rfl) (by kernel_rfl) (by kernel_rfl) ?_
  intro j hj
  have a : Addr.add ⟨g, 0, none⟩ j = ⟨g, j, none⟩ := by simp [Addr.add]; intro k; exact k.symm
  rw [a, cell_row hg, ← Array.getElem?_toList, ← bytesV_at l j hj, ← ht, List.getElem?_take_of_lt hj]
theorem own_row {w : World} {base : Nat} {e : TypeId} {v : Value} {n : Nat} {xs : List Value} (h : w.ownsRow base e 1 v n xs) (hn : 0 < n) :
    ∃ g cap cur, v = .slice (some ⟨g, 0, none⟩) n cap ∧ base ≤ g ∧ w.heap[g]? = some (.cells cur e (0, 0)) ∧ cur.toList.take n = xs := by
  obtain ⟨_, ⟨_, h⟩ | ⟨g, cap, cur, h1, h2, h3, _, _, _, h4⟩⟩ := h
  · omega
  · exact ⟨g, cap, cur, h1, h2, h3, by rw [Nat.mul_one] at h4; exact h4⟩
theorem set_first (cur : Array Value) (n : Nat) (x : UInt8) (xt : List UInt8) (u : UInt8) (ht : cur.toList.take n = bytesV (x :: xt)) : (cur.setIfInBounds 0 (.int .u8 (u.toNat : Int))).toList.take n = bytesV (u :: xt) := by
  rw [Array.toList_setIfInBounds, List.take_set, ht]; rfl
set_option maxRecDepth 100000 in
set_option maxHeartbeats 4000000 in
theorem long_walk (n c : Int) (w : World) (hn1 : -9223372036854775808 ≤ n) (hn2 : n ≤ 9223372036854775807) (hc1 : -9223372036854775808 ≤ c) (hc2 : c ≤ 9223372036854775807) (hv : ErrVars w) :
    Calls Tryd.prog 10 #[.int .i64 n, .int .i64 c] w fun e w' => e = .returned (.bool true) ∧ Below w.heap.size w w' := by
  obtain ⟨q, hq, hq2⟩ := pickN_nat n 40 (by decide)
  have p1 := Lib.hid (fun w => pick_any n 40 w hn1 hn2 (by decide))
  have hq' : pickN n 40 = (q : Int) := hq
  rw [hq'] at p1
  clear hq hq'
  have HV := Lib.hid hv; clear hv
  obtain ⟨k, hk, hk1, hk2⟩ : ∃ k : Int, 1 + (q : Int) = k ∧ 1 ≤ k ∧ k ≤ 40 := ⟨_, rfl, by omega, by omega⟩
  go_enter Tryd.func10, Tryd.ntmps10
  go_wp2_with fail
  refine (awake_any _ HV.out).mono ?_; rintro e w1 ⟨rfl, g1⟩
  have HV1 := Lib.hid (HV.out.ext g1)
  have G1 := Lib.hid g1
  clear HV g1
  go_wp2_with fail
  refine (p1.out _).mono ?_; rintro e w1' ⟨rfl, rfl⟩
  go_wp2_with fail
  go_loopw [7, 8] (fun v i wr => ∃ (j : Nat) (xs : List UInt8), i = .int .i64 j ∧ (j : Int) ≤ k ∧ xs.length = j ∧ Low xs ∧ Below w1.heap.size w1 wr ∧ wr.ownsRow w1.heap.size 5 1 v j (bytesV xs)) (fun v i wr => k.toNat - (match i with | .int _ x => x.toNat | _ => 0))
  case atStart => exact ⟨0, [], rfl, by omega, rfl, (fun c hc => by cases hc), Below.refl _ _, World.ownsRow_nil _ _ _ _⟩
  case round =>
    obtain ⟨j, xs, rfl, hj, hxs, hlow, hb, hown⟩ := hrel
    have HO := Lib.hid hown; clear hown
    have HL := Lib.hid hlow; clear hlow
    by_cases hjk : (j : Int) < k
    · obtain ⟨d, hd, hd2⟩ := pickN_nat (wrap64 (c + (j : Int))) 26 (by decide)
      have pd : Hid (∀ w, Calls Tryd.prog 22 #[.int .i64 (wrap64 (c + (j : Int))), .int .i64 26] w fun e w' => e = .returned (.int .i64 (d : Int)) ∧ w = w') :=
        Lib.hid (fun w => (pick_any (wrap64 (c + (j : Int))) 26 w (wrap_bounds _).1 (wrap_bounds _).2 (by decide)).mono fun e w' h => ⟨by rw [← hd]; exact h.1, h.2⟩)
      clear hd
      obtain ⟨b, hb1, hb2⟩ : ∃ b : UInt8, 97 + (d : Int) = (b.toNat : Int) ∧ 97 ≤ b.toNat ∧ b.toNat ≤ 122 := ⟨UInt8.ofNat (97 + d), by rw [of_nat _ (by omega)]; omega, by rw [of_nat _ (by omega)]; omega, by rw [of_nat _ (by omega)]; omega⟩
      go_wp2_with fail
      refine (pd.out _).mono ?_; rintro e w2 ⟨rfl, rfl⟩
      go_wp2_with (at_builtin; go_must (refine app_u8 rfl (.tmp 27) (.tmp 34) rfl w1.heap.size _ j (bytesV xs) rfl (own_ext HO.out (ext_alloc (Below.refl _ _) _)) wr.heap.size 1 (.int .u8 (b.toNat : Int)) rfl (cell_new wr _ _) rfl (by omega) (by have := hb.size; simp; omega) ?_))
      intro v' w5 hown5 hgrow5
      have hb5 := below_grown (ext_alloc hb (.cells #[.int .u8 (b.toNat : Int)] 5)) (by have := hb.size; simp; omega) (own_ext HO.out (ext_alloc (Below.refl _ _) _)) (Nat.le_refl _) hgrow5
      have own5 := Lib.hid hown5
      clear hown5 hgrow5
      go_wp2_with fail
      go_roundw
      case rel => exact ⟨j + 1, xs ++ [b], rfl, by omega, by simp [hxs], (fun c hc => by
        rcases List.mem_append.1 hc with h | h
        · exact HL.out c h
        · rw [List.mem_singleton.1 h]; exact hb2), hb5, by
            have := own5.out
            rw [show bytesV (xs ++ [b]) = bytesV xs ++ [.int .u8 (b.toNat : Int)] by simp [bytesV]]
            exact this⟩
      case measure => simp; omega
    · obtain rfl : (j : Int) = k := by omega
      obtain ⟨g, cap, cur, rfl, hg1, hg2, hg3⟩ := own_row HO.out (by omega)
      obtain ⟨x, xt, rfl⟩ : ∃ x xt, xs = x :: xt := by
        cases xs with
        | nil => simp at hxs; omega
        | cons x xt => exact ⟨x, xt, rfl⟩
      have hlow : Low xt := fun c hc => HL.out c (List.mem_cons_of_mem _ hc)
      have hlen : (81 :: xt).length = j := by simpa using hxs
      have c0 : wr.cell? ⟨g, 0, none⟩ = some (.int .u8 (x.toNat : Int)) := by
        rw [cell_row hg2, ← Array.getElem?_toList, ← List.getElem?_take_of_lt (show 0 < j by omega), hg3]; rfl
      have f0 : wr.frozen? ⟨g, 0, none⟩ = false := by simp [World.frozen?, hg2]
      have hg4 : (wr.setCell ⟨g, 0, none⟩ (.int .u8 81)).heap[g]? = some (.cells (cur.setIfInBounds 0 (.int .u8 81)) 5 (0, 0)) := heap_setCell_same wr g 0 cur 5 _ hg2
      have hcv := row_string (cap := cap) hg4 hlen (set_first cur j x xt 81 hg3)
      have hbS : Below w1.heap.size w1 (wr.setCell ⟨g, 0, none⟩ (.int .u8 81)) := hb.setCell hg1 _
      clear HO HL hg2 hg3 hg4 hxs hb
      have HLO := Lib.hid hlow; clear hlow
      have HB := Lib.hid hbS; clear hbS
      have hsz : (mk (81 :: xt)).size = j := hlen
      have h10s : (⟨#[10]⟩ : ByteArray).size = 1 := rfl
      have h10 : (⟨#[10]⟩ : ByteArray) ++ mk (81 :: xt) = mk (10 :: 81 :: xt) := mk_app [10] (81 :: xt)
      have hsz2 : (mk (10 :: 81 :: xt)).size = j + 1 := by rw [← hsz]; rfl
      have HV2 := Lib.hid (HV1.out.ext HB.out)
      have G2 := Lib.hid (ext_trans G1.out HB.out)
      clear HB HV1 G1
      have hna : Hid (∀ w, Calls Tryd.prog 15 #[.string (mk (81 :: xt))] w fun e w' => e = .returned (.bool (decide (j ≤ 20))) ∧ Below w.heap.size w w') := Lib.hid (fun w => by
        have := name_calls (mk (81 :: xt)) w (by omega)
        rw [q_nameB HLO.out, hlen] at this
        exact this)
      by_cases h20 : j ≤ 20
      · rw [decide_eq_true h20] at hna
        have s1 := Lib.hid (fun w hv => scan_good (mk (10 :: 81 :: xt)) _ w (by omega) hv (q_name HLO.out (by omega)))
        clear HLO
        go_wp2_with fail
        refine (s1.out _ HV2.out).mono ?_; rintro e w2 ⟨⟨va, rfl, ra⟩, g2⟩
        have RA := Lib.hid ra; clear ra
        have HV3 := Lib.hid (HV2.out.ext g2)
        have G3 := Lib.hid (ext_trans G2.out g2)
        clear g2 HV2 G2 s1 hcv c0 f0 h10s h10 hsz2
        obtain ⟨L, hL, hL2⟩ : ∃ L : Nat, 19960 + (j : Int) * 2 = (L : Int) ∧ L = 19960 + j * 2 := ⟨19960 + j * 2, by omega, rfl⟩
        have HL2 := Lib.hid hL2
        have hL3 : L ≤ 20040 := by omega
        have hL4 : 1 ≤ L := by omega
        clear hL2
        go_wp2_with fail
        go_loopw [13, 14] (fun v i wr => ∃ m : Nat, i = .int .i64 m ∧ m ≤ L ∧ Below w2.heap.size w2 wr ∧ wr.ownsRow w2.heap.size 5 1 v m (bytesV (List.replicate m 10))) (fun v i wr => L - (match i with | .int _ x => x.toNat | _ => 0))
        case atStart => exact ⟨0, rfl, Nat.zero_le _, Below.refl _ _, World.ownsRow_nil _ _ _ _⟩
        case round =>
          obtain ⟨m, rfl, hm, hb, hown⟩ := hrel
          have HO := Lib.hid hown; clear hown
          by_cases hmL : m < L
          · go_wp2_with (at_builtin; go_must (refine app_u8 rfl (.tmp 54) (.tmp 55) rfl w2.heap.size _ m (bytesV (List.replicate m 10)) rfl (own_ext HO.out (ext_alloc (Below.refl _ _) _)) wr.heap.size 1 (.int .u8 10) rfl (cell_new wr _ _) rfl (by omega) (by have := hb.size; simp; omega) ?_))
            intro v' w5 hown5 hgrow5
            have hb5 := below_grown (ext_alloc hb (.cells #[.int .u8 10] 5)) (by have := hb.size; simp; omega) (own_ext HO.out (ext_alloc (Below.refl _ _) _)) (Nat.le_refl _) hgrow5
            have own5 := Lib.hid hown5
            clear hown5 hgrow5
            go_wp2_with fail
            go_roundw
            case rel => exact ⟨m + 1, rfl, by omega, hb5, by
              have := own5.out
              rw [List.replicate_succ', show bytesV (List.replicate m 10 ++ [10]) = bytesV (List.replicate m 10) ++ [.int .u8 10] by simp [bytesV]]
              exact this⟩
            case measure => simp; omega
          · obtain rfl : m = L := by omega
            obtain ⟨g', cap', cur', rfl, hg1', hg2', hg3'⟩ := own_row HO.out (by omega)
            have hcv := row_string (cap := cap') hg2' List.length_replicate hg3'
            clear HO hg2' hg3'
            have HV4 := Lib.hid (HV3.out.ext hb)
            have G4 := Lib.hid (ext_trans G3.out hb)
            have RA4 := Lib.hid (RA.out.ext hb)
            clear HV3 G3 RA hb
            have s2 := Lib.hid (fun w hv => scan_good (mk (List.replicate m 10)) _ w (by have := HL2.out; rw [mk_size, List.length_replicate]; omega) hv (scan_feeds m))
            generalize mk (List.replicate m 10) = T at *
            go_wp2_with fail
            refine (s2.out _ HV4.out).mono ?_; rintro e w3 ⟨⟨vb, rfl, rb⟩, g3⟩
            have hline : (endT (1 + m)).line = 19961 + 2 * (j : Int) := by unfold endT; have := HL2.out; show ((1 + m : Nat) : Int) = _; omega
            obtain ⟨ba, ca, rfl, _, a0, a1, a2, a3⟩ := (RA4.out.ext g3).first
            obtain ⟨bb, cb, rfl, _, b0, b1, b2, b3⟩ := rb.first
            rw [hline] at b3
            have G5 := Lib.hid (ext_trans G4.out g3)
            clear rb g3 G4 RA4 HV4 s2 hline b0 b1 b2 a2 a3
            dsimp only [endT, List.length] at *
            generalize mk (81 :: xt) = S at *
            go_wp2_with fail
            refine (hna.out _).mono ?_; rintro e w6 ⟨rfl, g6⟩
            go_wp2_with fail
            go_ret
            exact ⟨rfl, ext_trans G5.out g6⟩
      · rw [decide_eq_false h20] at hna
        have s1 := Lib.hid (fun w hv => scan_bad (mk (10 :: 81 :: xt)) 2 w (by omega) hv (q_long HLO.out (by omega)))
        clear HLO
        go_wp2_with fail
        refine (s1.out _ HV2.out).mono ?_; rintro e w2 ⟨rfl, g2⟩
        have HV3 := Lib.hid (HV2.out.ext g2)
        have G3 := Lib.hid (ext_trans G2.out g2)
        clear g2 HV2 G2 s1 hcv c0 f0 h10s h10 hsz2
        obtain ⟨L, hL, hL2⟩ : ∃ L : Nat, 19960 + (j : Int) * 2 = (L : Int) ∧ L = 19960 + j * 2 := ⟨19960 + j * 2, by omega, rfl⟩
        have HL2 := Lib.hid hL2
        have hL3 : L ≤ 20040 := by omega
        have hL4 : 1 ≤ L := by omega
        clear hL2
        go_wp2_with fail
        go_loopw [13, 14] (fun v i wr => ∃ m : Nat, i = .int .i64 m ∧ m ≤ L ∧ Below w2.heap.size w2 wr ∧ wr.ownsRow w2.heap.size 5 1 v m (bytesV (List.replicate m 10))) (fun v i wr => L - (match i with | .int _ x => x.toNat | _ => 0))
        case atStart => exact ⟨0, rfl, Nat.zero_le _, Below.refl _ _, World.ownsRow_nil _ _ _ _⟩
        case round =>
          obtain ⟨m, rfl, hm, hb, hown⟩ := hrel
          have HO := Lib.hid hown; clear hown
          by_cases hmL : m < L
          · go_wp2_with (at_builtin; go_must (refine app_u8 rfl (.tmp 54) (.tmp 55) rfl w2.heap.size _ m (bytesV (List.replicate m 10)) rfl (own_ext HO.out (ext_alloc (Below.refl _ _) _)) wr.heap.size 1 (.int .u8 10) rfl (cell_new wr _ _) rfl (by omega) (by have := hb.size; simp; omega) ?_))
            intro v' w5 hown5 hgrow5
            have hb5 := below_grown (ext_alloc hb (.cells #[.int .u8 10] 5)) (by have := hb.size; simp; omega) (own_ext HO.out (ext_alloc (Below.refl _ _) _)) (Nat.le_refl _) hgrow5
            have own5 := Lib.hid hown5
            clear hown5 hgrow5
            go_wp2_with fail
            go_roundw
            case rel => exact ⟨m + 1, rfl, by omega, hb5, by
              have := own5.out
              rw [List.replicate_succ', show bytesV (List.replicate m 10 ++ [10]) = bytesV (List.replicate m 10) ++ [.int .u8 10] by simp [bytesV]]
              exact this⟩
            case measure => simp; omega
          · obtain rfl : m = L := by omega
            obtain ⟨g', cap', cur', rfl, hg1', hg2', hg3'⟩ := own_row HO.out (by omega)
            have hcv := row_string (cap := cap') hg2' List.length_replicate hg3'
            clear HO hg2' hg3'
            have HV4 := Lib.hid (HV3.out.ext hb)
            have G4 := Lib.hid (ext_trans G3.out hb)
            clear HV3 G3 hb
            have s2 := Lib.hid (fun w => scan_long (mk (List.replicate m 10)) w (by have := HL2.out; rw [mk_size, List.length_replicate]; omega))
            generalize mk (List.replicate m 10) = T at *
            go_wp2_with fail
            refine (s2.out _).mono ?_; rintro e w3 ⟨rfl, g3⟩
            have G5 := Lib.hid (ext_trans G4.out g3)
            clear g3 G4 HV4 s2
            generalize mk (81 :: xt) = S at *
            go_wp2_with fail
            refine (hna.out _).mono ?_; rintro e w6 ⟨rfl, g6⟩
            go_wp2_with fail
            go_ret
            exact ⟨rfl, ext_trans G5.out g6⟩
end Go.Proofs.YtohffidbibichaaDoor
