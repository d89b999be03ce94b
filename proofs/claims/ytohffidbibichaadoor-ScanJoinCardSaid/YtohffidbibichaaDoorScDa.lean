/- The walk of ScanJoin: the call answers true and leaves what was there as it was. -/
import Derived.Test.YtohffidbibichaaDoorRows
import Derived.WalkKit
import Derived.ProofKit
import Derived.OpenShut
import Derived.WalkLawsBesides
import Derived.WalkSpells
import Derived.Outline
import Derived.Handy
import Derived.Lib.Hide
import Derived.Lib.OthersKept
import Derived.KernelRfl
import Derived.RegionTactic
import Derived.BigRegion
import Derived.Deep.RegionHeld3
import Derived.Deep.Cut
import Derived.Deep.CutBlock
import Derived.Deep.RegionWith
import Derived.Laws.Runes
import Derived.Test.YtohffidbibichaaDoorScS
import Derived.Test.YtohffidbibichaaDoorScCa
namespace Go.Proofs.YtohffidbibichaaDoor
open Go.ChangeShapes Go.WideShapes Go.ChangeAt Go.RowKit
set_option linter.unusedVariables false
theorem count_join : ∀ (ts : List Item) (line : Nat), AllI ts → endI line ts = line + (joinI ts).count 10
  | [], line, _ => rfl
  | t :: ts, line, h => by
    have e : joinI (t :: ts) = t.text ++ (t.gap ++ joinI ts) := by unfold joinI; simp
    have h0 : t.text.count 10 = 0 := List.count_eq_zero.2 (h t (List.mem_cons_self ..)).1.feed
    rw [endI, count_join ts _ (fun x hx => h x (List.mem_cons_of_mem _ hx)), e, List.count_append, List.count_append, h0]
    omega
/-- Tokens some lines later. -/
def shiftT (d : Nat) (t : Tk) : Tk := { t with line := t.line + d }
theorem shift_toks (d : Nat) : ∀ (ts : List Item) (line : Nat), toksI (line + d) ts = (toksI line ts).map (shiftT d)
  | [], _ => rfl
  | t :: ts, line => by
    have ih := shift_toks d ts (line + t.gap.count 10)
    rw [toksI, toksI, List.map_cons, ← ih]
    have e : line + d + t.gap.count 10 = line + t.gap.count 10 + d := by omega
    rw [e]
    unfold shiftT; simp
theorem shift_end (d : Nat) : ∀ (ts : List Item) (line : Nat), endI (line + d) ts = endI line ts + d
  | [], _ => rfl
  | t :: ts, line => by
    have ih := shift_end d ts (line + t.gap.count 10)
    rw [endI, endI, ← ih]
    have e : line + d + t.gap.count 10 = line + t.gap.count 10 + d := by omega
    rw [e]
theorem both_scan (A B : List Item) (hA : AllI A) (hB : AllI B) : scanL (mk (joinI A ++ 10 :: joinI B)) = (toksI 1 A ++ (toksI 1 B ++ [endT (endI 1 B)]).map (shiftT (endI 1 A)), true, 0) := by
  rw [scanL_A, mk_list, joinI_scan A 1 _ [] hA, scanA_feed]
  have := joinI_scan B (endI 1 A + 1) [] ([] ++ toksI 1 A) hB
  rw [List.append_nil] at this
  rw [this, scanA_nil, List.nil_append, Nat.add_comm (endI 1 A) 1, shift_toks, shift_end, List.map_append, List.append_assoc]
  have e : endT (endI 1 B + endI 1 A) = shiftT (endI 1 A) (endT (endI 1 B)) := by unfold endT shiftT; simp
  rw [e]; rfl
theorem toksI_line : ∀ (ts : List Item) (line : Nat), AllI ts → ∀ t ∈ toksI line ts, 0 ≤ t.line ∧ t.line ≤ (line + ts.length * 11 : Nat)
  | [], _, _, t, ht => by cases ht
  | x :: ts, line, h, t, ht => by
    have h1 := (h x (List.mem_cons_self ..)).2.len
    have h2 : x.gap.count 10 ≤ x.gap.length := List.count_le_length
    rw [toksI] at ht
    rcases List.mem_cons.1 ht with rfl | ht
    · rw [List.length_cons]; dsimp only; omega
    · have := toksI_line ts _ (fun y hy => h y (List.mem_cons_of_mem _ hy)) t ht
      rw [List.length_cons]; omega
theorem same_refl : ∀ (l : List Tk), sameB true l l = true
  | [] => rfl
  | t :: l => by
    rw [sameB, same_refl l, Bool.and_true]
    unfold eqT; simp
theorem scan_capped (s : ByteArray) (L : List Tk) (w : World) (hs : s.size ≤ 20000) (hv : ErrVars w) (h : scanL s = (L, true, 0)) :
    Calls Tryd.prog 12 #[.string s] w fun e w' => (∃ v, e = .returned (.tuple #[v, .int .i64 0, .int .i64 0]) ∧ RowAt w' v L ∧ ∀ p n c, v = .slice p n c → n ≤ c) ∧ Below w.heap.size w w' := by
  refine (scan_calls s w hs hv).mono fun e w' ⟨k, g⟩ => ⟨?_, g⟩
  rw [h] at k
  obtain ⟨v, e1, e2⟩ := k
  refine ⟨v, e1, row_of_own e2, ?_⟩
  obtain ⟨_, ⟨rfl, _⟩ | ⟨g', cap, cur, rfl, _, _, hc, _⟩⟩ := e2
  · intro p n c hh; cases hh; exact Nat.le_refl _
  · intro p n c hh; cases hh; exact hc
theorem cells_four (a c d : Int) (b : ByteArray) : ∀ u ∈ [Value.int .i64 a, .string b, .int .i64 c, .int .i64 d], u.oneCell' = true := by
  intro u hu
  simp only [List.mem_cons, List.not_mem_nil, or_false] at hu
  rcases hu with rfl | rfl | rfl | rfl
  all_goals rfl
theorem cells_len : ∀ (l : List Tk), (l.flatMap Tk.cells).length = l.length * 4
  | [] => rfl
  | t :: l => by rw [List.flatMap_cons, List.length_append, cells_len l, Tk.cells_length, List.length_cons]; omega
theorem row_cells {w : World} {b : Nat} {L : List Tk} (h : ∀ i (h : i < L.length), w.cell? ⟨b, i * 4, none⟩ = some (.int .i64 (L[i]'h).kind) ∧ w.cell? ⟨b, i * 4 + 1, none⟩ = some (.string (L[i]'h).text) ∧ w.cell? ⟨b, i * 4 + 2, none⟩ = some (.int .i64 (L[i]'h).n) ∧ w.cell? ⟨b, i * 4 + 3, none⟩ = some (.int .i64 (L[i]'h).line))
    (j : Nat) (u : Value) (hj : (L.flatMap Tk.cells)[j]? = some u) : w.cell? ⟨b, j, none⟩ = some u := by
  have hlt := (List.getElem?_eq_some_iff.1 hj).1
  rw [cells_len] at hlt
  obtain ⟨i, k, hik, hk⟩ : ∃ i k, j = i * 4 + k ∧ k < 4 := ⟨j / 4, j % 4, by omega, by omega⟩
  subst hik
  have hi : i < L.length := by omega
  rw [cells_at L i k hi hk] at hj
  obtain ⟨c0, c1, c2, c3⟩ := h i hi
  match k, hk, hj with
  | 0, _, hj => cases hj; exact c0
  | 1, _, hj => cases hj; exact c1
  | 2, _, hj => cases hj; exact c2
  | 3, _, hj => cases hj; exact c3
theorem cells_one (l : List Tk) : ∀ u ∈ l.flatMap Tk.cells, u.oneCell' = true := by
  intro u hu
  obtain ⟨t, _, ht⟩ := List.mem_flatMap.1 hu
  unfold Tk.cells at ht
  simp only [List.mem_cons, List.not_mem_nil, or_false] at ht
  rcases ht with rfl | rfl | rfl | rfl
  all_goals rfl
set_option maxRecDepth 100000 in
set_option maxHeartbeats 4000000 in
theorem join_walk (v v2 u : Value) (L L2 : List (Int × Int)) (M : List Int) (w : World) (hp : PairsAt w v L) (hp2 : PairsAt w v2 L2) (hq : IntsAt w u M) (hv : ErrVars w) :
    Calls Tryd.prog 8 #[v, v2, u] w fun e w' => e = .returned (.bool true) ∧ Below w.heap.size w w' := by
  have HV := Lib.hid hv; clear hv
  have HP := Lib.hid hp
  have HR := Lib.hid hp2
  have HQ := Lib.hid hq; clear hq
  obtain ⟨_, hlen, p, cap, rfl, _⟩ := hp
  obtain ⟨_, hlen2, p2, cap2, rfl, _⟩ := hp2
  go_enter Tryd.func8, Tryd.ntmps8
  go_wp2_with fail
  refine (awake_any _ HV.out).mono ?_; rintro e w1 ⟨rfl, g1⟩
  have HV1 := Lib.hid (HV.out.ext g1)
  have HP1 := Lib.hid (HP.out.ext g1)
  have HR1 := Lib.hid (HR.out.ext g1)
  have HQ1 := Lib.hid (HQ.out.ext g1)
  have G1 := Lib.hid g1
  clear HV g1 HP HQ HR
  go_upto_block 0 with (fail)
  go_cut [8] from 29 (fun s wr => ∃ ts : List Item, ts.length ≤ 20 ∧ s = .string (mk (joinI ts)) ∧ AllI ts ∧ Below w1.heap.size w1 wr)
  case first =>
    go_wp2_with fail
    go_loopw [8, 9] (fun s i wr => ∃ ts : List Item, i = .int .i64 ts.length ∧ ts.length ≤ 20 ∧ s = .string (mk (joinI ts)) ∧ AllI ts ∧ Below w1.heap.size w1 wr)
      (fun s i wr => 20 - (match i with | .int _ x => x.toNat | _ => 0))
    case atStart => exact ⟨[], rfl, by simp, rfl, (fun t h => by cases h), Below.refl _ _⟩
    case round =>
      obtain ⟨ts, rfl, h20, rfl, hall, hb⟩ := hrel
      have HA := Lib.hid hall; clear hall
      obtain ⟨hj1, _⟩ := joinI_len ts HA.out
      by_cases hlt : ts.length < L.length ∧ ts.length < 20
      · obtain ⟨hlt1, hlt2⟩ := hlt
        obtain ⟨hin, _, p', cap', ev, hcells⟩ := HP1.out.ext hb
        cases ev
        obtain ⟨a, rfl, c0, c1⟩ := hcells ts.length hlt1
        obtain ⟨i0, i1⟩ := hin _ (List.getElem_mem hlt1)
        clear hin hcells
        generalize (L[ts.length]'hlt1).1 = x at *
        generalize (L[ts.length]'hlt1).2 = y at *
        have hw := Lib.hid (fun w => word_law x y w i0.1 i0.2 i1.1 i1.2)
        clear i0 i1
        have hsz : (mk (joinI ts)).size ≤ 700 := by rw [mk_size]; omega
        have HJ := Lib.hid (joinI_snoc ts)
        generalize joinI ts = J at *
        have c1' : wr.cell? ⟨(a.add (ts.length * 2)).block, (a.add (ts.length * 2)).off + 1, none⟩ = some (.int .i64 y) := c1
        go_wp2_with fail
        go_region_held3 (fun w' => w'.cell? (a.add (ts.length * 2)) = some (.int .i64 x) ∧ w'.cell? ⟨(a.add (ts.length * 2)).block, (a.add (ts.length * 2)).off + 1, none⟩ = some (.int .i64 y)) (first | exact ⟨c0, c1'⟩ | exact ⟨(g3.cell (cell_lt c0)).trans c0, (g3.cell (cell_lt c1')).trans c1'⟩) ((go_at_call 19; refine (hw.out _).mono ?_; rintro e w3 ⟨⟨t, k, n, rfl, ht⟩, g3⟩))
        clear c0 c1 c1'
        rename_i hh; clear hh
        have htl : (mk t).size ≤ 20 := ht.len
        have HTW := Lib.hid ht; clear ht
        have hb2 : Below w1.heap.size w1 w3 := hb.drew.trans (g3.mono hb.size)
        clear g3 hj1 hb hw
        have hu : Hid (∀ w, Below w1.heap.size w1 w → Calls Tryd.prog 20 #[u, .int .i64 (ts.length : Int)] w fun e w' => (∃ b, e = .returned (.string (mk b)) ∧ BlankT b) ∧ Below w.heap.size w w') := Lib.hid (fun w hbw => by
          exact blank_law u M ts.length w (HQ1.out.ext hbw) (by omega))
        go_wp2_with fail
        refine (hu.out _ hb2).mono ?_; rintro e w4 ⟨⟨b, rfl, hbt⟩, g4⟩
        have hb4 : Below w1.heap.size w1 w4 := hb2.trans (g4.mono hb2.size)
        have HBT := Lib.hid hbt; clear hbt g4 hb2
        have hbs : (mk b).size ≤ 11 := HBT.out.len
        obtain ⟨J2, hJ2⟩ : ∃ J2, J ++ t = J2 := ⟨_, rfl⟩
        obtain ⟨J3, hJ3⟩ : ∃ J3, J2 ++ b = J3 := ⟨_, rfl⟩
        have hcat1 : mk J ++ mk t = mk J2 := by rw [← hJ2]; exact mk_app J t
        have hcat2 : mk J2 ++ mk b = mk J3 := by rw [← hJ3]; exact mk_app J2 b
        have hs2 : (mk J2).size ≤ 720 := by rw [← hcat1, ByteArray.size_append]; omega
        have HJ3 := Lib.hid (show J3 = J ++ t ++ b by rw [← hJ3, ← hJ2])
        clear hJ2 hJ3
        go_wp2_with fail
        go_roundw
        case rel => exact ⟨ts ++ [⟨t, k, n, b⟩], by simp, by simp; omega, by rw [HJ.out, HJ3.out], (fun u hu => by
            rcases List.mem_append.1 hu with h | h
            · exact HA.out u h
            · rw [List.mem_singleton.1 h]; exact ⟨HTW.out, HBT.out⟩), hb4⟩
        case measure => simp; omega
      · obtain hL | hL : ts.length < L.length ∨ ¬ ts.length < L.length := by omega
        · have h20' : 20 ≤ ts.length := by omega
          go_wp2_with fail
          go_meet
          case rel => exact ⟨ts, h20, rfl, HA.out, hb⟩
        · go_wp2_with fail
          go_meet
          case rel => exact ⟨ts, h20, rfl, HA.out, hb⟩
  case rest =>
    obtain ⟨A, hA20, rfl, hA, hb⟩ := hcut
    generalize wc = w2 at *
    have HV2 := Lib.hid (HV1.out.ext hb)
    have HR2 := Lib.hid (HR1.out.ext hb)
    have HQ2 := Lib.hid (HQ1.out.ext hb)
    have G2 := Lib.hid (ext_trans G1.out hb)
    have HAA := Lib.hid hA
    clear HV1 HP1 HR1 HQ1 G1 hb hA
    go_upto_block 2 with (fail)
    go_cut [12] from 60 (fun s wr => ∃ ts : List Item, ts.length ≤ 20 ∧ s = .string (mk (joinI ts)) ∧ AllI ts ∧ Below w2.heap.size w2 wr)
    case first =>
      go_wp2_with fail
      go_loopw [12, 13] (fun s i wr => ∃ ts : List Item, i = .int .i64 ts.length ∧ ts.length ≤ 20 ∧ s = .string (mk (joinI ts)) ∧ AllI ts ∧ Below w2.heap.size w2 wr)
        (fun s i wr => 20 - (match i with | .int _ x => x.toNat | _ => 0))
      case atStart => exact ⟨[], rfl, by simp, rfl, (fun t h => by cases h), Below.refl _ _⟩
      case round =>
        obtain ⟨ts, rfl, h20, rfl, hall, hb⟩ := hrel
        have HA := Lib.hid hall; clear hall
        obtain ⟨hj1, _⟩ := joinI_len ts HA.out
        by_cases hlt : ts.length < L2.length ∧ ts.length < 20
        · obtain ⟨hlt1, hlt2⟩ := hlt
          obtain ⟨hin, _, p', cap', ev, hcells⟩ := HR2.out.ext hb
          cases ev
          obtain ⟨a, rfl, c0, c1⟩ := hcells ts.length hlt1
          obtain ⟨i0, i1⟩ := hin _ (List.getElem_mem hlt1)
          clear hin hcells
          generalize (L2[ts.length]'hlt1).1 = x at *
          generalize (L2[ts.length]'hlt1).2 = y at *
          have hw := Lib.hid (fun w => word_law x y w i0.1 i0.2 i1.1 i1.2)
          clear i0 i1
          have hsz : (mk (joinI ts)).size ≤ 700 := by rw [mk_size]; omega
          have HJ := Lib.hid (joinI_snoc ts)
          generalize joinI ts = J at *
          have c1' : wr.cell? ⟨(a.add (ts.length * 2)).block, (a.add (ts.length * 2)).off + 1, none⟩ = some (.int .i64 y) := c1
          go_wp2_with fail
          go_region_held3 (fun w' => w'.cell? (a.add (ts.length * 2)) = some (.int .i64 x) ∧ w'.cell? ⟨(a.add (ts.length * 2)).block, (a.add (ts.length * 2)).off + 1, none⟩ = some (.int .i64 y)) (first | exact ⟨c0, c1'⟩ | exact ⟨(g3.cell (cell_lt c0)).trans c0, (g3.cell (cell_lt c1')).trans c1'⟩) ((go_at_call 19; refine (hw.out _).mono ?_; rintro e w3 ⟨⟨t, k, n, rfl, ht⟩, g3⟩))
          clear c0 c1 c1'
          rename_i hh; clear hh
          have htl : (mk t).size ≤ 20 := ht.len
          have HTW := Lib.hid ht; clear ht
          have hb2 : Below w2.heap.size w2 w3 := hb.drew.trans (g3.mono hb.size)
          clear g3 hj1 hb hw
          have hu : Hid (∀ w, Below w2.heap.size w2 w → Calls Tryd.prog 20 #[u, .int .i64 ((ts.length : Int) + 1)] w fun e w' => (∃ b, e = .returned (.string (mk b)) ∧ BlankT b) ∧ Below w.heap.size w w') := Lib.hid (fun w hbw => by
            have := blank_law u M (ts.length + 1) w (HQ2.out.ext hbw) (by omega)
            rw [show ((ts.length + 1 : Nat) : Int) = (ts.length : Int) + 1 by omega] at this
            exact this)
          go_wp2_with fail
          refine (hu.out _ hb2).mono ?_; rintro e w4 ⟨⟨b, rfl, hbt⟩, g4⟩
          have hb4 : Below w2.heap.size w2 w4 := hb2.trans (g4.mono hb2.size)
          have HBT := Lib.hid hbt; clear hbt g4 hb2
          have hbs : (mk b).size ≤ 11 := HBT.out.len
          obtain ⟨J2, hJ2⟩ : ∃ J2, J ++ t = J2 := ⟨_, rfl⟩
          obtain ⟨J3, hJ3⟩ : ∃ J3, J2 ++ b = J3 := ⟨_, rfl⟩
          have hcat1 : mk J ++ mk t = mk J2 := by rw [← hJ2]; exact mk_app J t
          have hcat2 : mk J2 ++ mk b = mk J3 := by rw [← hJ3]; exact mk_app J2 b
          have hs2 : (mk J2).size ≤ 720 := by rw [← hcat1, ByteArray.size_append]; omega
          have HJ3 := Lib.hid (show J3 = J ++ t ++ b by rw [← hJ3, ← hJ2])
          clear hJ2 hJ3
          go_wp2_with fail
          go_roundw
          case rel => exact ⟨ts ++ [⟨t, k, n, b⟩], by simp, by simp; omega, by rw [HJ.out, HJ3.out], (fun u hu => by
              rcases List.mem_append.1 hu with h | h
              · exact HA.out u h
              · rw [List.mem_singleton.1 h]; exact ⟨HTW.out, HBT.out⟩), hb4⟩
          case measure => simp; omega
        · obtain hL | hL : ts.length < L2.length ∨ ¬ ts.length < L2.length := by omega
          · have h20' : 20 ≤ ts.length := by omega
            go_wp2_with fail
            go_meet
            case rel => exact ⟨ts, h20, rfl, HA.out, hb⟩
          · go_wp2_with fail
            go_meet
            case rel => exact ⟨ts, h20, rfl, HA.out, hb⟩
    case rest =>
      obtain ⟨B, hB20, rfl, hB, hb⟩ := hcut
      generalize wc = w3 at *
      have hA := HAA.out
      obtain ⟨hj1, _⟩ := joinI_len A hA
      obtain ⟨hj2, _⟩ := joinI_len B hB
      have hla := items_scan A hA
      have hlb := items_scan B hB
      have hlc := both_scan A B hA hB
      have hcn := count_join A 1 hA
      have hel := endI_le A 1 hA
      have hA1 : (toksI 1 A).length = A.length := toksI_length A 1
      have hB1 : (toksI 1 B ++ [endT (endI 1 B)]).length = B.length + 1 := by rw [List.length_append, toksI_length]; rfl
      have hbdl : ∀ t ∈ toksI 1 B ++ [endT (endI 1 B)], 0 ≤ t.line ∧ t.line ≤ 1000 := fun t ht => by
        rcases List.mem_append.1 ht with h | h
        · have := toksI_line B 1 hB t h
          omega
        · rw [List.mem_singleton.1 h]
          have := endI_le B 1 hB
          unfold endT; dsimp only; omega
      have HBDL := Lib.hid hbdl; clear hbdl
      have HSA := Lib.hid (fun w hv => scan_capped (mk (joinI A)) _ w (by rw [mk_size]; omega) hv hla)
      have HSB := Lib.hid (fun w hv => scan_good (mk (joinI B)) _ w (by rw [mk_size]; omega) hv hlb)
      have HSC := Lib.hid (fun w hv => scan_good (mk (joinI A ++ 10 :: joinI B)) _ w (by rw [mk_size, List.length_append, List.length_cons]; omega) hv hlc)
      have fa := Lib.hid (fun w => feeds_any (joinI A) w (by omega))
      have HV3 := Lib.hid (HV2.out.ext hb)
      have G3 := Lib.hid (ext_trans G2.out hb)
      obtain ⟨d, hd⟩ : ∃ d, (joinI A).count 10 = d := ⟨_, rfl⟩
      obtain ⟨E, hE⟩ : ∃ E, endI 1 A = E := ⟨_, rfl⟩
      rw [hd] at fa hcn
      rw [hE] at HSC HSA hel hcn
      clear hla hlb hlc hA hB hb HV2 HR2 HQ2 G2 HAA hd hE
      obtain ⟨J2, hJ2⟩ : ∃ J2, joinI A ++ [10] = J2 := ⟨_, rfl⟩
      obtain ⟨J3, hJ3⟩ : ∃ J3, joinI A ++ 10 :: joinI B = J3 := ⟨_, rfl⟩
      rw [hJ3] at HSC
      have hcat1 : mk (joinI A) ++ ⟨#[10]⟩ = mk J2 := by rw [← hJ2]; exact mk_app (joinI A) [10]
      have hcat2 : mk J2 ++ mk (joinI B) = mk J3 := by rw [← hJ3, ← hJ2, mk_app]; simp
      have hs1 : (mk (joinI A)).size ≤ 700 := by rw [mk_size]; omega
      have hs2 : (mk (joinI B)).size ≤ 700 := by rw [mk_size]; omega
      have h10 : (⟨#[10]⟩ : ByteArray).size = 1 := rfl
      have hs3 : (mk J2).size ≤ 800 := by rw [← hcat1, ByteArray.size_append]; omega
      clear hJ2 hJ3 hj1 hj2
      generalize toksI 1 A = LA at *
      generalize toksI 1 B ++ [endT (endI 1 B)] = LB at *
      generalize joinI A = JA at *
      generalize joinI B = JB at *
      go_wp2_with fail
      refine (HSA.out _ HV3.out).mono ?_; rintro e w4 ⟨⟨va, rfl, ra, hcap⟩, g4⟩
      have HCAP := Lib.hid hcap; clear hcap
      have HV4 := Lib.hid (HV3.out.ext g4)
      have RA := Lib.hid ra
      have G4 := Lib.hid (ext_trans G3.out g4)
      clear ra g4 HV3 G3 HSA
      go_wp2_with fail
      refine (HSB.out _ HV4.out).mono ?_; rintro e w5 ⟨⟨vb, rfl, rb⟩, g5⟩
      have HV5 := Lib.hid (HV4.out.ext g5)
      have RA5 := Lib.hid (RA.out.ext g5)
      have RB5 := Lib.hid rb
      have G5 := Lib.hid (ext_trans G4.out g5)
      clear rb g5 HV4 G4 RA HSB
      go_wp2_with fail
      refine (HSC.out _ HV5.out).mono ?_; rintro e w6 ⟨⟨vc, rfl, rc⟩, g6⟩
      have ra6 := RA5.out.ext g6
      have rb6 := RB5.out.ext g6
      have RC6 := Lib.hid rc
      have G6 := Lib.hid (ext_trans G5.out g6)
      clear rc g6 HV5 G5 RA5 RB5 HSC
      obtain ⟨ba, ca, rfl, hca⟩ := ra6.form (by simp)
      obtain ⟨bb, cb, rfl, hcb⟩ := rb6.form (by intro e; rw [e] at hB1; cases hB1)
      have hl1 : (LA ++ [endT E]).length = A.length + 1 := by rw [List.length_append, hA1]; rfl
      have HCA := Lib.hid hca; have HCB := Lib.hid hcb
      clear hca hcb
      have hcapA := HCAP.out _ _ _ rfl
      rw [hl1] at hcapA
      clear HCAP
      rw [hl1, hB1]
      obtain ⟨i0, hi, iz0, iz1, iz2⟩ := info_parts Tryd.infoTk
      have HNEW : Hid (∀ j u, (LA.flatMap Tk.cells)[j]? = some u → w6.cell? (Addr.add ⟨ba, 0, none⟩ j) = some u) := Lib.hid (fun j u hj => by
        have e : Addr.add ⟨ba, 0, none⟩ j = ⟨ba, j, none⟩ := by simp [Addr.add]; intro k; exact k.symm
        rw [e]
        refine row_cells HCA.out j u ?_
        rw [List.flatMap_append, List.getElem?_append_left (List.getElem?_eq_some_iff.1 hj).1]; exact hj)
      go_wp2_with (at_builtin; go_must (refine wpList_append_own _ rfl (.const (.slice none 0 0)) (.tmp 136) 23 rfl w6.heap.size 36 i0 (.agg #[.int .i64 0, .string ⟨#[]⟩, .int .i64 0, .int .i64 0]) 4 40 Tryd.underlying23 hi iz0 iz1 iz2 rfl (by decide) _ 0 [] rfl (World.ownsRow_nil _ _ _ _) ⟨ba, 0, none⟩ A.length _ (LA.flatMap Tk.cells) rfl (by rw [cells_len, hA1]) HNEW.out (cells_one LA) (by unfold maxLen; omega) (by omega) (Nat.le_refl _) ?_))
      intro v7 w7 hown7 hgrow7 _
      have hb7 : Below w6.heap.size w6 w7 := below_grown (Below.refl _ _) (Nat.le_refl _) (World.ownsRow_nil w6 w6.heap.size 36 4) (Nat.le_refl _) hgrow7
      have HO7 := Lib.hid hown7
      clear hown7 hgrow7 HNEW
      go_wp2_with fail
      have H0 : Hid (LB.take 0 = []) := Lib.hid rfl
      have HEND : Hid (LB.take (B.length + 1) = LB) := Lib.hid (by rw [← hB1]; exact List.take_length)
      have HCN : Hid (E = 1 + d) := Lib.hid hcn
      clear hcn
      go_loopw [25, 26] (fun wv i wr => ∃ j : Nat, i = .int .i64 j ∧ j ≤ B.length + 1 ∧ Below w6.heap.size w6 wr ∧ wr.ownsRow w6.heap.size 36 4 wv (A.length + j) ((LA ++ (LB.take j).map (shiftT E)).flatMap Tk.cells)) (fun wv i wr => B.length + 1 - (match i with | .int _ x => x.toNat | _ => 0))
      case atStart => exact ⟨0, rfl, Nat.zero_le _, hb7, by rw [H0.out, List.map_nil, List.append_nil]; exact HO7.out⟩
      case round =>
        obtain ⟨j, rfl, hj, hb, hown⟩ := hrel
        have HO := Lib.hid hown; clear hown
        by_cases hlt : j < B.length + 1
        · have hlB : j < LB.length := by omega
          obtain ⟨a0, a1, a2, a3⟩ := HCB.out j hlB
          have hbd := HBDL.out _ (List.getElem_mem hlB)
          have htk : LB.take (j + 1) = LB.take j ++ [LB[j]'hlB] := by rw [List.take_add_one, List.getElem?_eq_getElem hlB]; rfl
          have d0 := (hb.cell (cell_lt a0)).trans a0
          have d1 := (hb.cell (cell_lt a1)).trans a1
          have d2 := (hb.cell (cell_lt a2)).trans a2
          have d3 := (hb.cell (cell_lt a3)).trans a3
          clear a0 a1 a2 a3
          generalize LB[j]'hlB = tk at *
          obtain ⟨tk0, tk1, tk2, tk3⟩ := tk
          dsimp only at *
          have HTK : Hid ((LA ++ (LB.take (j + 1)).map (shiftT E)).flatMap Tk.cells = (LA ++ (LB.take j).map (shiftT E)).flatMap Tk.cells ++ [.int .i64 tk0, .string tk1, .int .i64 tk2, .int .i64 (tk3 + E)]) := Lib.hid (by
            rw [htk, List.map_append, ← List.append_assoc, List.flatMap_append]; rfl)
          obtain ⟨ln, hln, hln2⟩ : ∃ ln : Int, tk3 + (d : Int) + 1 = ln ∧ tk3 + (E : Int) = ln := ⟨_, rfl, by have := HCN.out; omega⟩
          rw [hln2] at HTK
          have hE2 : E ≤ 300 := by omega
          have hd2 : d ≤ 300 := by have := HCN.out; omega
          have hwr : IntKind.i64.wrap (IntKind.i64.wrap (tk3 + (d : Int)) + 1) = ln := by
            have hw1 : IntKind.i64.wrap (tk3 + (d : Int)) = tk3 + (d : Int) := wrap_small _ (by omega) (by omega)
            rw [hw1, wrap_small _ (by omega) (by omega)]; exact hln
          clear htk hln2 hel
          have hlt' : (j : Int) < (B.length : Int) + 1 := by omega
          have hX : Below w6.heap.size w6 ((wr.alloc (.cells #[.int .i64 tk0, .string tk1, .int .i64 tk2, .int .i64 ln] 36)).drew.alloc (.cells #[.int .i64 tk0, .string tk1, .int .i64 tk2, .int .i64 ln] 36)) := (hb.alloc hb.size _).drew.alloc (by have := hb.size; simp; omega) _
          have hOX := own_ext HO.out (ext_alloc (ext_drew (ext_alloc (Below.refl wr.heap.size wr) (.cells #[.int .i64 tk0, .string tk1, .int .i64 tk2, .int .i64 ln] 36))) (.cells #[.int .i64 tk0, .string tk1, .int .i64 tk2, .int .i64 ln] 36))
          have HX := Lib.hid hX; have HOX := Lib.hid hOX
          clear hX hOX
          go_wp2_with fail
          go_region_with (go_at_call 21; refine (fa.out _).mono ?_; rintro e w8 ⟨rfl, rfl⟩)
          all_goals
            go_wp2_with (at_builtin; go_must (refine wpList_append_own _ rfl (.tmp 155) (.tmp 157) 23 rfl w6.heap.size 36 i0 (.agg #[.int .i64 0, .string ⟨#[]⟩, .int .i64 0, .int .i64 0]) 4 40 Tryd.underlying23 hi iz0 iz1 iz2 rfl (by decide) _ (A.length + j) ((LA ++ (LB.take j).map (shiftT E)).flatMap Tk.cells) rfl HOX.out ⟨wr.heap.size + 1, 0, none⟩ 1 1 [.int .i64 tk0, .string tk1, .int .i64 tk2, .int .i64 ln] rfl rfl (fun j u h => new_row _ _ _ _ (by simp) j u h) (cells_four tk0 tk2 ln tk1) (by unfold maxLen; omega) (by omega) (by have := hb.size; simp; omega) ?_))
            intro v9 w9 hown9 hgrow9 _
            have hb9 := below_grown HX.out (by have := hb.size; simp; omega) HOX.out (Nat.le_refl _) hgrow9
            have HO9 := Lib.hid hown9
            clear hown9 hgrow9 HX HOX
            go_wp2_with fail
            go_roundw
            case rel => exact ⟨j + 1, rfl, by omega, hb9, by rw [HTK.out]; have := HO9.out; simpa [Nat.add_assoc] using this⟩
            case measure => simp; omega
        · obtain rfl : j = B.length + 1 := by omega
          have hrow := HO.out
          rw [HEND.out] at hrow
          have hXl : (LA ++ LB.map (shiftT E)).length = A.length + (B.length + 1) := by rw [List.length_append, List.length_map, hA1, hB1]
          rw [← hXl] at hrow
          have rw1 := row_of_own hrow
          have rc1 := RC6.out.ext hb
          have SM : Hid (Calls Tryd.prog 14 #[vc, u25, .bool true] wr fun e w' => e = .returned (.bool true) ∧ Below wr.heap.size wr w') := Lib.hid (by
            have := same_calls vc u25 _ _ true wr rc1 rw1 (by omega) (by omega)
            rw [same_refl] at this; exact this)
          clear rw1 rc1 hrow HO
          go_wp2_with fail
          refine SM.out.mono ?_; rintro e w9 ⟨rfl, g9⟩
          go_wp2_with fail
          go_ret
          exact ⟨rfl, ext_trans (ext_trans G6.out hb) g9⟩
end Go.Proofs.YtohffidbibichaaDoor
