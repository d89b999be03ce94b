/- The walk of ScanBlanks: the call answers true and leaves what was there as it was. -/
import Derived.Test.YtohffidbibichaaDoorRows
import Derived.WalkKit
import Derived.ProofKit
import Derived.OpenShut
import Derived.WalkLawsBesides
import Derived.WalkSpells
import Derived.Outline
import Derived.Handy
import Derived.Lib.Hide
import Derived.Lib.OthersKept
import Derived.KernelRfl
import Derived.RegionTactic
import Derived.BigRegion
import Derived.Deep.RegionHeld3
import Derived.Deep.Cut
import Derived.Deep.CutBlock
import Derived.Test.YtohffidbibichaaDoorScS
import Derived.Test.YtohffidbibichaaDoorScZ
namespace Go.Proofs.YtohffidbibichaaDoor
open Go.ChangeShapes Go.WideShapes Go.ChangeAt Go.RowKit
set_option linter.unusedVariables false
theorem endI_snoc : ∀ (ts : List Item) (line : Nat) (t : Item), endI line (ts ++ [t]) = endI line ts + t.gap.count 10
  | [], _, _ => rfl
  | x :: ts, line, t => by rw [List.cons_append, endI, endI, endI_snoc ts]
theorem toksI_snoc : ∀ (ts : List Item) (line : Nat) (t : Item), toksI line (ts ++ [t]) = toksI line ts ++ [⟨t.kind, mk t.text, t.n, (endI line ts : Nat)⟩]
  | [], _, _ => rfl
  | x :: ts, line, t => by rw [List.cons_append, toksI, toksI, endI, toksI_snoc ts, List.cons_append]
theorem endI_le : ∀ (ts : List Item) (line : Nat), AllI ts → endI line ts ≤ line + ts.length * 11
  | [], line, _ => by rw [endI]; omega
  | t :: ts, line, h => by
    have := endI_le ts (line + t.gap.count 10) (fun x hx => h x (List.mem_cons_of_mem _ hx))
    have h1 := (h t (List.mem_cons_self ..)).2.len
    have h2 : t.gap.count 10 ≤ t.gap.length := List.count_le_length
    rw [endI, List.length_cons]; omega
/-- The same words with a blank behind each. -/
def plainI (ts : List Item) : List Item := ts.map fun t => { t with gap := [32] }
theorem plainI_all {ts : List Item} (h : AllI ts) : AllI (plainI ts) := by
  intro t ht
  obtain ⟨u, hu, rfl⟩ := List.mem_map.1 ht
  exact ⟨(h u hu).1, blank_1⟩
theorem plainI_snoc (ts : List Item) (t : Item) : joinI (plainI (ts ++ [t])) = joinI (plainI ts) ++ t.text ++ [32] := by
  unfold plainI
  rw [List.map_append]
  exact joinI_snoc _ _
theorem same_plain : ∀ (ts : List Item) (l1 l2 a b : Nat), sameB false (toksI l1 (plainI ts) ++ [endT a]) (toksI l2 ts ++ [endT b]) = true
  | [], _, _, a, b => by
    show (eqT false (endT a) (endT b) && true) = true
    unfold eqT endT; simp
  | t :: ts, l1, l2, a, b => by
    obtain ⟨l1', e1⟩ : ∃ l1', toksI l1 (plainI (t :: ts)) = ⟨t.kind, mk t.text, t.n, (l1 : Nat)⟩ :: toksI l1' (plainI ts) := ⟨_, rfl⟩
    obtain ⟨l2', e2⟩ : ∃ l2', toksI l2 (t :: ts) = ⟨t.kind, mk t.text, t.n, (l2 : Nat)⟩ :: toksI l2' ts := ⟨_, rfl⟩
    rw [e1, e2, List.cons_append, List.cons_append, sameB, same_plain ts l1' l2' a b, Bool.and_true]
    unfold eqT; simp
theorem lead_scan (g : List UInt8) (hg : BlankT g) (ts : List Item) (h : AllI ts) : scanL (mk (g ++ joinI ts)) = (toksI (1 + g.count 10) ts ++ [endT (endI (1 + g.count 10) ts)], true, 0) := by
  rw [scanL_A, mk_list, hg.scan]
  have := joinI_scan ts (1 + g.count 10) [] [] h
  rw [List.append_nil, List.nil_append] at this
  rw [this]; rfl
def linesV (l : List Tk) : List Value := l.map fun t => .int .i64 t.line
theorem linesV_at (l : List Tk) (i : Nat) (h : i < l.length) (h' : i < (linesV l).length) : (linesV l)[i]'h' = .int .i64 (l[i]'h).line := by
  unfold linesV at h' ⊢
  exact List.getElem_map _
set_option maxRecDepth 100000 in
set_option maxHeartbeats 4000000 in
theorem blanks_walk (v u : Value) (L : List (Int × Int)) (M : List Int) (w : World) (hp : PairsAt w v L) (hq : IntsAt w u M) (hv : ErrVars w) :
    Calls Tryd.prog 5 #[v, u] w fun e w' => e = .returned (.bool true) ∧ Below w.heap.size w w' := by
  have HV := Lib.hid hv; clear hv
  have HP := Lib.hid hp
  have HQ := Lib.hid hq
  obtain ⟨_, hlen, p, cap, rfl, _⟩ := hp
  go_enter Tryd.func5, Tryd.ntmps5
  go_wp2_with fail
  refine (awake_any _ HV.out).mono ?_; rintro e w1 ⟨rfl, g1⟩
  have HV1 := Lib.hid (HV.out.ext g1)
  have HP1 := Lib.hid (HP.out.ext g1)
  have HQ1 := Lib.hid (HQ.out.ext g1)
  have G1 := Lib.hid g1
  clear HV g1 HP HQ
  go_wp2_with fail
  refine (blank_law u M 0 _ HQ1.out (by decide)).mono ?_; rintro e w2 ⟨⟨g, rfl, hg⟩, g2⟩
  have HV2 := Lib.hid (HV1.out.ext g2)
  have HP2 := Lib.hid (HP1.out.ext g2)
  have HQ2 := Lib.hid (HQ1.out.ext g2)
  have G2 := Lib.hid (ext_trans G1.out g2)
  have HG := Lib.hid hg; clear hg
  clear HV1 HP1 HQ1 G1 g2
  have hgl := HG.out.len
  have hgc : g.count 10 ≤ g.length := List.count_le_length
  have fd := Lib.hid (fun w => feeds_any g w (by omega))
  obtain ⟨c, hc⟩ : ∃ c, g.count 10 = c := ⟨_, rfl⟩
  rw [hc] at fd hgc
  have HC := Lib.hid hc; clear hc
  go_wp2_with fail
  refine (fd.out _).mono ?_; rintro e w3 ⟨rfl, rfl⟩
  obtain ⟨c1, hc1, hc2, hc3⟩ : ∃ c1 : Nat, 1 + (c : Int) = (c1 : Int) ∧ c1 = 1 + c ∧ c1 ≤ 12 := ⟨1 + c, by omega, rfl, by omega⟩
  have HC1 := Lib.hid hc2; clear hc2
  have hgs : (mk g).size ≤ 11 := hgl
  go_upto_block 0 with (fail)
  go_cut [6, 7, 8, 9] from 27 (fun s t ln wv wr => ∃ ts : List Item, ts.length ≤ 20 ∧ s = .string (mk (joinI (plainI ts))) ∧ t = .string (mk (g ++ joinI ts)) ∧ ln = .int .i64 (endI c1 ts : Nat) ∧ AllI ts ∧ Below w2.heap.size w2 wr ∧
      wr.ownsRow w2.heap.size 3 1 wv ts.length (linesV (toksI c1 ts)))
  case first =>
    go_wp2_with fail
    go_loopw [6, 7, 8, 9, 10] (fun s t ln wv i wr => ∃ ts : List Item, i = .int .i64 ts.length ∧ ts.length ≤ 20 ∧ s = .string (mk (joinI (plainI ts))) ∧ t = .string (mk (g ++ joinI ts)) ∧ ln = .int .i64 (endI c1 ts : Nat) ∧ AllI ts ∧ Below w2.heap.size w2 wr ∧
        wr.ownsRow w2.heap.size 3 1 wv ts.length (linesV (toksI c1 ts)))
      (fun s t ln wv i wr => 20 - (match i with | .int _ x => x.toNat | _ => 0))
    case atStart => exact ⟨[], rfl, by simp, rfl, by rw [show joinI [] = [] from rfl, List.append_nil], rfl, (fun t h => by cases h), Below.refl _ _, World.ownsRow_nil _ _ _ _⟩
    case round =>
      obtain ⟨ts, rfl, h20, rfl, rfl, rfl, hall, hb, hown⟩ := hrel
      have HA := Lib.hid hall; clear hall
      have HO := Lib.hid hown; clear hown
      obtain ⟨hj1, _⟩ := joinI_len ts HA.out
      obtain ⟨hj2, _⟩ := joinI_len (plainI ts) (plainI_all HA.out)
      have hpl : (plainI ts).length = ts.length := List.length_map _
      have hel := endI_le ts c1 HA.out
      by_cases hlt : ts.length < L.length ∧ ts.length < 20
      · obtain ⟨hlt1, hlt2⟩ := hlt
        obtain ⟨hin, _, p', cap', ev, hcells⟩ := HP2.out.ext hb
        cases ev
        obtain ⟨a, rfl, c0, c1'⟩ := hcells ts.length hlt1
        obtain ⟨i0, i1⟩ := hin _ (List.getElem_mem hlt1)
        clear hin hcells
        generalize (L[ts.length]'hlt1).1 = x at *
        generalize (L[ts.length]'hlt1).2 = y at *
        have hw := Lib.hid (fun w => word_law x y w i0.1 i0.2 i1.1 i1.2)
        clear i0 i1
        have hsz : (mk (g ++ joinI ts)).size ≤ 800 := by rw [mk_size, List.length_append]; omega
        have hsz' : (mk (joinI (plainI ts))).size ≤ 700 := by rw [mk_size]; omega
        have HJ := Lib.hid (joinI_snoc ts)
        have HX := Lib.hid (plainI_snoc ts)
        have HE := Lib.hid (endI_snoc ts c1)
        have HTK := Lib.hid (toksI_snoc ts c1)
        generalize hT : g ++ joinI ts = T at *
        have HT := Lib.hid hT; clear hT
        generalize joinI (plainI ts) = X at *
        generalize hE0 : endI c1 ts = E at *
        clear hE0
        have c1'' : wr.cell? ⟨(a.add (ts.length * 2)).block, (a.add (ts.length * 2)).off + 1, none⟩ = some (.int .i64 y) := c1'
        go_wp2_with fail
        go_region_held3 (fun w' => w'.cell? (a.add (ts.length * 2)) = some (.int .i64 x) ∧ w'.cell? ⟨(a.add (ts.length * 2)).block, (a.add (ts.length * 2)).off + 1, none⟩ = some (.int .i64 y)) (first | exact ⟨c0, c1''⟩ | exact ⟨(g3.cell (cell_lt c0)).trans c0, (g3.cell (cell_lt c1'')).trans c1''⟩) ((go_at_call 19; refine (hw.out _).mono ?_; rintro e w3 ⟨⟨t, k, n, rfl, ht⟩, g3⟩))
        clear c0 c1' c1''
        rename_i hh; clear hh
        have htl : (mk t).size ≤ 20 := ht.len
        have HTW := Lib.hid ht; clear ht
        have hb2 : Below w2.heap.size w2 w3 := hb.drew.trans (g3.mono hb.size)
        have HO2 := Lib.hid (own_ext (w := wr.drew) HO.out g3)
        obtain ⟨X2, hX2⟩ : ∃ X2, X ++ t = X2 := ⟨_, rfl⟩
        obtain ⟨X3, hX3⟩ : ∃ X3, X2 ++ [32] = X3 := ⟨_, rfl⟩
        have hcat1 : mk X ++ mk t = mk X2 := by rw [← hX2]; exact mk_app X t
        have hcat2 : mk X2 ++ ⟨#[32]⟩ = mk X3 := by rw [← hX3]; exact mk_app X2 [32]
        have h32 : (⟨#[32]⟩ : ByteArray).size = 1 := rfl
        have hs2 : (mk X2).size ≤ 720 := by rw [← hcat1, ByteArray.size_append]; omega
        have HX3 := Lib.hid (show X3 = X ++ t ++ [32] by rw [← hX3, ← hX2])
        clear hX2 hX3 g3 hj1 hj2 hb hw HO
        have hu : Hid (∀ w, Below w2.heap.size w2 w → Calls Tryd.prog 20 #[u, .int .i64 ((ts.length : Int) + 1)] w fun e w' => (∃ b, e = .returned (.string (mk b)) ∧ BlankT b) ∧ Below w.heap.size w w') := Lib.hid (fun w hbw => by
          have := blank_law u M (ts.length + 1) w (HQ2.out.ext hbw) (by omega)
          rw [show ((ts.length + 1 : Nat) : Int) = (ts.length : Int) + 1 by omega] at this
          exact this)
        go_wp2_with (at_builtin; go_must (refine app_one Tryd.underlying30 Tryd.infoInt rfl (by decide) rfl (.tmp 55) (.tmp 57) rfl w2.heap.size _ ts.length (linesV (toksI c1 ts)) rfl (own_ext HO2.out (ext_alloc (Below.refl _ _) _)) w3.heap.size 1 (.int .i64 (E : Int)) rfl (cell_new w3 _ _) rfl (by omega) (by have := hb2.size; simp; omega) ?_))
        intro v5 w5 hown5 hgrow5
        have hX : Below w2.heap.size w2 (w3.alloc (.cells #[.int .i64 (E : Int)] 3)) := hb2.alloc hb2.size _
        have hOX := own_ext HO2.out (ext_alloc (Below.refl _ _) (.cells #[.int .i64 (E : Int)] 3))
        have hb5 := below_grown hX (by have := hb2.size; simp; omega) hOX (Nat.le_refl _) hgrow5
        have HO5 := Lib.hid hown5
        clear hX hOX hown5 hgrow5 HO2 hb2
        go_wp2_with fail
        refine (hu.out _ hb5).mono ?_; rintro e w6 ⟨⟨b, rfl, hbt⟩, g6⟩
        have hb6 : Below w2.heap.size w2 w6 := hb5.trans (g6.mono hb5.size)
        have HO6 := Lib.hid (own_ext HO5.out g6)
        have HBT := Lib.hid hbt; clear hbt
        clear HO5 g6 hb5
        have hbl := HBT.out.len
        have hbs : (mk b).size ≤ 11 := hbl
        have hbc : b.count 10 ≤ b.length := List.count_le_length
        have fb := Lib.hid (fun w => feeds_any b w (by omega))
        obtain ⟨cb, hcb⟩ : ∃ cb, b.count 10 = cb := ⟨_, rfl⟩
        rw [hcb] at fb hbc
        obtain ⟨E2, hE2, hE3⟩ : ∃ E2 : Nat, (E : Int) + (cb : Int) = (E2 : Int) ∧ E2 = E + cb := ⟨E + cb, by omega, rfl⟩
        have HE2 : Hid (E2 = E + b.count 10) := Lib.hid (by rw [hE3, hcb])
        clear hcb hE3
        obtain ⟨T2, hT2⟩ : ∃ T2, T ++ t = T2 := ⟨_, rfl⟩
        obtain ⟨T3, hT3⟩ : ∃ T3, T2 ++ b = T3 := ⟨_, rfl⟩
        have hcat3 : mk T ++ mk t = mk T2 := by rw [← hT2]; exact mk_app T t
        have hcat4 : mk T2 ++ mk b = mk T3 := by rw [← hT3]; exact mk_app T2 b
        have hs3 : (mk T2).size ≤ 820 := by rw [← hcat3, ByteArray.size_append]; omega
        have HT3 : Hid (T3 = g ++ (joinI ts ++ t ++ b)) := Lib.hid (by rw [← hT3, ← hT2, ← HT.out]; simp)
        clear hT2 hT3
        go_wp2_with fail
        refine (fb.out _).mono ?_; rintro e w7 ⟨rfl, rfl⟩
        go_wp2_with fail
        go_roundw
        case rel => exact ⟨ts ++ [⟨t, k, n, b⟩], by simp, by simp; omega, by rw [HX.out, HX3.out], by rw [HJ.out, HT3.out], by rw [HE.out, HE2.out], (fun u hu => by
            rcases List.mem_append.1 hu with h | h
            · exact HA.out u h
            · rw [List.mem_singleton.1 h]; exact ⟨HTW.out, HBT.out⟩), hb6, by
            have := HO6.out
            rw [HTK.out, show linesV (toksI c1 ts ++ [⟨k, mk t, n, (E : Nat)⟩]) = linesV (toksI c1 ts) ++ [.int .i64 (E : Int)] by unfold linesV; simp]
            simpa using this⟩
        case measure => simp; omega
      · obtain hL | hL : ts.length < L.length ∨ ¬ ts.length < L.length := by omega
        · have h20' : 20 ≤ ts.length := by omega
          go_wp2_with fail
          go_meet
          case rel => exact ⟨ts, h20, rfl, rfl, rfl, HA.out, hb, HO.out⟩
        · go_wp2_with fail
          go_meet
          case rel => exact ⟨ts, h20, rfl, rfl, rfl, HA.out, hb, HO.out⟩
  case rest =>
    obtain ⟨ts, h20, rfl, rfl, rfl, hall, hb, hown⟩ := hcut
    obtain ⟨hj1, _⟩ := joinI_len ts hall
    obtain ⟨hj2, _⟩ := joinI_len (plainI ts) (plainI_all hall)
    have hpl : (plainI ts).length = ts.length := List.length_map _
    have hel := endI_le ts c1 hall
    have hla := items_scan (plainI ts) (plainI_all hall)
    have hlb := lead_scan g HG.out ts hall
    rw [HC.out, ← HC1.out] at hlb
    have hsm := same_plain ts 1 c1 (endI 1 (plainI ts)) (endI c1 ts)
    have hl1 : (toksI 1 (plainI ts) ++ [endT (endI 1 (plainI ts))]).length = ts.length + 1 := by rw [List.length_append, toksI_length, hpl]; rfl
    have hl2 : (toksI c1 ts ++ [endT (endI c1 ts)]).length = ts.length + 1 := by rw [List.length_append, toksI_length]; rfl
    have HSA := Lib.hid (fun w hv => scan_good (mk (joinI (plainI ts))) _ w (by rw [mk_size]; omega) hv hla)
    have HSB := Lib.hid (fun w hv => scan_good (mk (g ++ joinI ts)) _ w (by rw [mk_size, List.length_append]; omega) hv hlb)
    have HV3 := Lib.hid (HV2.out.ext hb)
    have G3 := Lib.hid (ext_trans G2.out hb)
    have CW := Lib.hid (col_of_own hown)
    have HLN : Hid (∀ i (h : i < ts.length) (h' : i < (linesV (toksI c1 ts)).length) (h'' : i < (toksI c1 ts ++ [endT (endI c1 ts)]).length), (linesV (toksI c1 ts))[i]'h' = .int .i64 ((toksI c1 ts ++ [endT (endI c1 ts)])[i]'h'').line) := Lib.hid (fun i h h' h'' => by
      rw [linesV_at _ i (by rw [toksI_length]; exact h) h', List.getElem_append_left (by rw [toksI_length]; exact h)])
    have HEND : Hid (∀ h'' : ts.length < (toksI c1 ts ++ [endT (endI c1 ts)]).length, ((toksI c1 ts ++ [endT (endI c1 ts)])[ts.length]'h'').line = (endI c1 ts : Nat)) := Lib.hid (fun h'' => by
      rw [List.getElem_append_right (by rw [toksI_length]; exact Nat.le_refl _)]
      simp [toksI_length, endT])
    have hlw : (linesV (toksI c1 ts)).length = ts.length := by unfold linesV; rw [List.length_map, toksI_length]
    clear hla hlb hall hown hb hj1 hj2 HV2 HP2 HQ2 G2 HG fd hgc hgl
    generalize toksI 1 (plainI ts) ++ [endT (endI 1 (plainI ts))] = LA at *
    generalize toksI c1 ts ++ [endT (endI c1 ts)] = LB at *
    generalize linesV (toksI c1 ts) = LV at *
    generalize endI c1 ts = E at *
    generalize mk (joinI (plainI ts)) = S1 at *
    generalize mk (g ++ joinI ts) = S2 at *
    go_wp2_with fail
    refine (HSA.out _ HV3.out).mono ?_; rintro e w3 ⟨⟨va, rfl, ra⟩, g3⟩
    have HV4 := Lib.hid (HV3.out.ext g3)
    have RA := Lib.hid ra
    have CW4 := Lib.hid (CW.out.ext g3)
    have G4 := Lib.hid (ext_trans G3.out g3)
    clear ra g3 HV3 G3 CW HSA
    go_wp2_with fail
    refine (HSB.out _ HV4.out).mono ?_; rintro e w4 ⟨⟨vb, rfl, rb⟩, g4⟩
    have RA5 := Lib.hid (RA.out.ext g4)
    have RB5 := Lib.hid rb
    have CW5 := Lib.hid (CW4.out.ext g4)
    have G5 := Lib.hid (ext_trans G4.out g4)
    have SM : Hid (∀ w, RowAt w va LA → RowAt w vb LB → Calls Tryd.prog 14 #[va, vb, .bool false] w fun e w' => e = .returned (.bool true) ∧ Below w.heap.size w w') := Lib.hid (fun w h1 h2 => by
      have := same_calls va vb LA LB false w h1 h2 (by omega) (by omega)
      rw [hsm] at this; exact this)
    clear rb g4 HV4 G4 CW4 RA HSB hsm
    go_wp2_with fail
    refine (SM.out _ RA5.out RB5.out).mono ?_; rintro e w5 ⟨rfl, g5⟩
    have rb6 := RB5.out.ext g5
    have cw6 := CW5.out.ext g5
    have G6 := Lib.hid (ext_trans G5.out g5)
    clear SM RA5 RB5 CW5 G5 g5
    obtain ⟨bb, cb, rfl, hcs⟩ := rb6.form (by intro e; rw [e] at hl2; cases hl2)
    obtain ⟨pw, cw, rfl, hcw⟩ := cw6
    have HCS := Lib.hid hcs
    have HCW := Lib.hid hcw
    clear hcs hcw
    rw [hlw]
    go_wp2_with fail
    go_loopw [20] (fun v wr => ∃ i : Nat, v = .int .i64 i ∧ i ≤ ts.length ∧ Below w5.heap.size w5 wr) (fun v wr => ts.length - (match v with | .int _ x => x.toNat | _ => 0))
    case atStart => exact ⟨0, rfl, Nat.zero_le _, Below.refl _ _⟩
    case round =>
      obtain ⟨i, rfl, hi, hb⟩ := hrel
      by_cases hlt : i < ts.length
      · obtain ⟨_, _, _, a3⟩ := HCS.out i (by omega)
        obtain ⟨gw, rfl, a4⟩ := HCW.out i (by omega)
        rw [HLN.out i hlt (by omega) (by omega)] at a4
        generalize (LB[i]'(by omega)).line = ln at *
        have d3 := (hb.cell (cell_lt a3)).trans a3
        have d4 := (hb.cell (cell_lt a4)).trans a4
        have hlt' : (i : Int) < (ts.length : Int) + 1 := by omega
        clear a3 a4 HCS HCW HLN HEND
        go_wp2_with fail
        go_region
        go_wp2_with fail
        go_roundw
        case rel => exact ⟨i + 1, rfl, by omega, hb.drew⟩
        case measure => simp; omega
      · obtain rfl : i = ts.length := by omega
        obtain ⟨_, _, _, a3⟩ := HCS.out ts.length (by omega)
        rw [HEND.out (by omega)] at a3
        have d3 := (hb.cell (cell_lt a3)).trans a3
        clear a3 HCS HCW HLN HEND
        go_wp2_with fail
        go_ret
        exact ⟨rfl, ext_trans G6.out hb⟩
end Go.Proofs.YtohffidbibichaaDoor
