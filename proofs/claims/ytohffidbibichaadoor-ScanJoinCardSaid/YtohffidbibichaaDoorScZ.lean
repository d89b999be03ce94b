/- The walk of ScanTexts: the call answers true and leaves what was there as it was. -/
import Derived.Test.YtohffidbibichaaDoorRows
import Derived.WalkKit
import Derived.ProofKit
import Derived.OpenShut
import Derived.WalkLawsBesides
import Derived.WalkSpells
import Derived.Outline
import Derived.Handy
import Derived.Lib.Hide
import Derived.Lib.OthersKept
import Derived.KernelRfl
import Derived.RegionTactic
import Derived.BigRegion
import Derived.Deep.RegionHeld3
import Derived.Deep.Cut
import Derived.Deep.CutBlock
import Derived.Test.YtohffidbibichaaDoorScM
import Derived.Test.YtohffidbibichaaDoorScY
namespace Go.Proofs.YtohffidbibichaaDoor
open Go.ChangeShapes Go.WideShapes Go.ChangeAt Go.RowKit
set_option linter.unusedVariables false
/-- A word, and what stands behind it. -/
structure Item where
  text : List UInt8
  kind : Int
  n : Int
  gap : List UInt8
def AllI (ts : List Item) : Prop := ∀ t ∈ ts, TokW t.text t.kind t.n ∧ BlankT t.gap
def joinI (ts : List Item) : List UInt8 := ts.flatMap fun t => t.text ++ t.gap
def textI (ts : List Item) : List UInt8 := ts.flatMap fun t => t.text
theorem joinI_snoc (ts : List Item) (t : Item) : joinI (ts ++ [t]) = joinI ts ++ t.text ++ t.gap := by unfold joinI; simp
theorem textI_snoc (ts : List Item) (t : Item) : textI (ts ++ [t]) = textI ts ++ t.text := by unfold textI; simp
theorem joinI_len (ts : List Item) (h : AllI ts) : (joinI ts).length ≤ ts.length * 31 ∧ (textI ts).length ≤ ts.length * 20 := by
  induction ts with
  | nil => simp [joinI, textI]
  | cons t ts ih =>
    have := ih (fun x hx => h x (List.mem_cons_of_mem _ hx))
    have h1 := (h t (List.mem_cons_self ..)).1.len
    have h2 := (h t (List.mem_cons_self ..)).2.len
    have e : joinI (t :: ts) = t.text ++ t.gap ++ joinI ts := rfl
    have e' : textI (t :: ts) = t.text ++ textI ts := rfl
    rw [e, e', List.length_append, List.length_append, List.length_append, List.length_cons]
    omega
def toksI : Nat → List Item → List Tk
  | _, [] => []
  | line, t :: ts => ⟨t.kind, mk t.text, t.n, (line : Nat)⟩ :: toksI (line + t.gap.count 10) ts
def endI : Nat → List Item → Nat
  | line, [] => line
  | line, t :: ts => endI (line + t.gap.count 10) ts
theorem toksI_length : ∀ (ts : List Item) (line : Nat), (toksI line ts).length = ts.length
  | [], _ => rfl
  | t :: ts, line => by rw [toksI, List.length_cons, toksI_length ts, List.length_cons]
/-- What stands behind is scanned behind. -/
theorem joinI_scan : ∀ (ts : List Item) (line : Nat) (rest : List UInt8) (acc : List Tk), AllI ts → scanA line (joinI ts ++ rest) acc = scanA (endI line ts) rest (acc ++ toksI line ts)
  | [], line, rest, acc, _ => by rw [toksI, List.append_nil]; rfl
  | t :: ts, line, rest, acc, h => by
    have e : joinI (t :: ts) ++ rest = t.text ++ (t.gap ++ (joinI ts ++ rest)) := by unfold joinI; simp
    obtain ⟨h1, h2⟩ := h t (List.mem_cons_self ..)
    rw [e, scanA_tok h1.tok (h2.sep _), h2.scan, joinI_scan ts _ rest _ (fun x hx => h x (List.mem_cons_of_mem _ hx)), toksI, endI]
    simp
theorem items_scan (ts : List Item) (h : AllI ts) : scanL (mk (joinI ts)) = (toksI 1 ts ++ [endT (endI 1 ts)], true, 0) := by
  have := joinI_scan ts 1 [] [] h
  rw [List.append_nil, List.nil_append] at this
  rw [scanL_A, mk_list, this]; rfl
def textT (l : List Tk) : List UInt8 := l.flatMap fun t => t.text.data.toList
theorem toksI_text : ∀ (ts : List Item) (line : Nat), textT (toksI line ts) = textI ts
  | [], _ => rfl
  | t :: ts, line => by
    have := toksI_text ts (line + t.gap.count 10)
    unfold textT textI at this ⊢
    rw [toksI, List.flatMap_cons, List.flatMap_cons, this]; rfl
theorem toks_text (ts : List Item) : textT (toksI 1 ts ++ [endT (endI 1 ts)]) = textI ts := by
  have := toksI_text ts 1
  unfold textT at this ⊢
  rw [List.flatMap_append, this]
  simp [endT]
theorem textT_snoc (l : List Tk) (i : Nat) (h : i < l.length) : textT (l.take (i + 1)) = textT (l.take i) ++ (l[i]'h).text.data.toList := by
  have e : l.take (i + 1) = l.take i ++ [l[i]'h] := by rw [List.take_add_one, List.getElem?_eq_getElem h]; rfl
  rw [e]
  unfold textT
  rw [List.flatMap_append]
  simp
def gapsT : List (List UInt8) := [[32], [10], [9, 13], [32, 32]]
theorem gap_at : ∀ (k : Nat) (h : k < 4), ∃ t, ([Value.string ⟨#[32]⟩, Value.string ⟨#[10]⟩, Value.string ⟨#[9, 13]⟩, Value.string ⟨#[32, 32]⟩] : List Value)[k]? = some (.string (mk t)) ∧ BlankT t := by
  intro k h
  match k, h with
  | 0, _ => exact ⟨[32], rfl, blank_1⟩
  | 1, _ => exact ⟨[10], rfl, blank_3⟩
  | 2, _ => exact ⟨[9, 13], rfl, blank_9⟩
  | 3, _ => exact ⟨[32, 32], rfl, blank_2⟩
set_option maxRecDepth 100000 in
set_option maxHeartbeats 4000000 in
theorem texts_walk (v u : Value) (L : List (Int × Int)) (M : List Int) (w : World) (hp : PairsAt w v L) (hq : IntsAt w u M) (hv : ErrVars w) :
    Calls Tryd.prog 9 #[v, u] w fun e w' => e = .returned (.bool true) ∧ Below w.heap.size w w' := by
  have HV := Lib.hid hv; clear hv
  have HP := Lib.hid hp
  have HQ := Lib.hid hq
  obtain ⟨_, hlen, p, cap, rfl, _⟩ := hp
  obtain ⟨_, hlen2, p2, cap2, rfl, _⟩ := hq
  go_enter Tryd.func9, Tryd.ntmps9
  go_wp2_with fail
  refine (awake_any _ HV.out).mono ?_; rintro e w1 ⟨rfl, g1⟩
  have HV1 := Lib.hid (HV.out.ext g1)
  have HP1 := Lib.hid (HP.out.ext g1)
  have HQ1 := Lib.hid (HQ.out.ext g1)
  have G1 := Lib.hid g1
  clear HV g1 HP HQ
  go_upto_block 0 with (fail)
  go_cut [6, 7] from 18 (fun s tx wr => ∃ ts : List Item, ts.length ≤ 20 ∧ s = .string (mk (joinI ts)) ∧ tx = .string (mk (textI ts)) ∧ AllI ts ∧ Below w1.heap.size w1 wr)
  case first =>
    go_wp2_with fail
    go_loopw [6, 7, 8] (fun s tx i wr => ∃ ts : List Item, i = .int .i64 ts.length ∧ ts.length ≤ 20 ∧ s = .string (mk (joinI ts)) ∧ tx = .string (mk (textI ts)) ∧ AllI ts ∧ Below w1.heap.size w1 wr)
      (fun s tx i wr => 20 - (match i with | .int _ x => x.toNat | _ => 0))
    case atStart => exact ⟨[], rfl, by simp, rfl, rfl, (fun t h => by cases h), Below.refl _ _⟩
    case round =>
      obtain ⟨ts, rfl, h20, rfl, rfl, hall, hb⟩ := hrel
      have HA := Lib.hid hall; clear hall
      obtain ⟨hj1, hj2⟩ := joinI_len ts HA.out
      by_cases hlt : ts.length < L.length ∧ ts.length < 20
      · obtain ⟨hlt1, hlt2⟩ := hlt
        obtain ⟨hin, _, p', cap', ev, hcells⟩ := HP1.out.ext hb
        cases ev
        obtain ⟨a, rfl, c0, c1⟩ := hcells ts.length hlt1
        obtain ⟨i0, i1⟩ := hin _ (List.getElem_mem hlt1)
        clear hin hcells
        generalize (L[ts.length]'hlt1).1 = x at *
        generalize (L[ts.length]'hlt1).2 = y at *
        have hw := Lib.hid (fun w => word_law x y w i0.1 i0.2 i1.1 i1.2)
        clear i0 i1
        have hsz : (mk (joinI ts)).size ≤ 700 := by rw [mk_size]; omega
        have hsz' : (mk (textI ts)).size ≤ 500 := by rw [mk_size]; omega
        have HJ := Lib.hid (joinI_snoc ts)
        have HX := Lib.hid (textI_snoc ts)
        generalize joinI ts = J at *
        generalize textI ts = X at *
        have c1' : wr.cell? ⟨(a.add (ts.length * 2)).block, (a.add (ts.length * 2)).off + 1, none⟩ = some (.int .i64 y) := c1
        go_wp2_with fail
        go_region_held3 (fun w' => w'.cell? (a.add (ts.length * 2)) = some (.int .i64 x) ∧ w'.cell? ⟨(a.add (ts.length * 2)).block, (a.add (ts.length * 2)).off + 1, none⟩ = some (.int .i64 y)) (first | exact ⟨c0, c1'⟩ | exact ⟨(g2.cell (cell_lt c0)).trans c0, (g2.cell (cell_lt c1')).trans c1'⟩) ((go_at_call 19; refine (hw.out _).mono ?_; rintro e w2 ⟨⟨t, k, n, rfl, ht⟩, g2⟩))
        clear c0 c1 c1'
        rename_i hh; clear hh
        have htl : (mk t).size ≤ 20 := ht.len
        have HTK := Lib.hid ht; clear ht
        have hb2 : Below w1.heap.size w1 w2 := hb.drew.trans (g2.mono hb.size)
        have hcat1 : mk J ++ mk t = mk (J ++ t) := mk_app J t
        have hcat3 : mk X ++ mk t = mk (X ++ t) := mk_app X t
        have hsz2 : (mk (J ++ t)).size ≤ 720 := by rw [← hcat1, ByteArray.size_append]; omega
        clear g2 hj1 hj2 hb hw
        by_cases hbl : ts.length < M.length
        · obtain ⟨hin, _, p', cap', ev, hcells⟩ := HQ1.out.ext hb2
          cases ev
          obtain ⟨a2, rfl, d0⟩ := hcells ts.length hbl
          have hx2 := hin _ (List.getElem_mem hbl)
          clear hin hcells
          generalize M[ts.length]'hbl = z at *
          obtain ⟨q, hq, hq2⟩ := pickN_nat z 4 (by decide)
          have pk : Hid (∀ w, Calls Tryd.prog 22 #[.int .i64 z, .int .i64 4] w fun e w' => e = .returned (.int .i64 (q : Int)) ∧ w = w') :=
            Lib.hid (fun w => (pick_any z 4 w hx2.1 hx2.2 (by decide)).mono fun e w' h => ⟨by rw [← hq]; exact h.1, h.2⟩)
          clear hq hx2
          obtain ⟨bt, hbt1, hbt2⟩ := gap_at q hq2
          have HBT := Lib.hid hbt2; clear hbt2
          have hbv := (List.getElem?_eq_some_iff.1 hbt1).2
          have hbs : (mk bt).size ≤ 11 := HBT.out.len
          have hcat2 : mk (J ++ t) ++ mk bt = mk (J ++ t ++ bt) := mk_app (J ++ t) bt
          go_wp2_with (go_at_call 22; refine (pk.out _).mono ?_; rintro e w3 ⟨rfl, rfl⟩)
          go_roundw
          case rel => exact ⟨ts ++ [⟨t, k, n, bt⟩], by simp, by simp; omega, by rw [HJ.out]; simp, by rw [HX.out], (fun u hu => by
            rcases List.mem_append.1 hu with h | h
            · exact HA.out u h
            · rw [List.mem_singleton.1 h]; exact ⟨HTK.out, HBT.out⟩), ext_alloc hb2 _⟩
          case measure => simp; omega
        · have hcat2 : mk (J ++ t) ++ ⟨#[32]⟩ = mk (J ++ t ++ [32]) := mk_app (J ++ t) [32]
          go_wp2_with fail
          go_roundw
          case rel => exact ⟨ts ++ [⟨t, k, n, [32]⟩], by simp, by simp; omega, by rw [HJ.out]; simp, by rw [HX.out], (fun u hu => by
            rcases List.mem_append.1 hu with h | h
            · exact HA.out u h
            · rw [List.mem_singleton.1 h]; exact ⟨HTK.out, blank_1⟩), ext_alloc hb2 _⟩
          case measure => simp; omega
      · obtain hL | hL : ts.length < L.length ∨ ¬ ts.length < L.length := by omega
        · have h20' : 20 ≤ ts.length := by omega
          go_wp2_with fail
          go_meet
          case rel => exact ⟨ts, h20, rfl, rfl, HA.out, hb⟩
        · go_wp2_with fail
          go_meet
          case rel => exact ⟨ts, h20, rfl, rfl, HA.out, hb⟩
  case rest =>
    obtain ⟨ts, h20, rfl, rfl, hall, hb⟩ := hcut
    obtain ⟨hj1, hj2⟩ := joinI_len ts hall
    have HSC := Lib.hid (fun w hv => scan_good (mk (joinI ts)) _ w (by rw [mk_size]; omega) hv (items_scan ts hall))
    have HV2 := Lib.hid (HV1.out.ext hb)
    have G2 := Lib.hid (ext_trans G1.out hb)
    have hlen1 : (toksI 1 ts ++ [endT (endI 1 ts)]).length = ts.length + 1 := by rw [List.length_append, toksI_length]; rfl
    have htx := toks_text ts
    clear HV1 G1 HP1 HQ1 hb hall
    generalize toksI 1 ts ++ [endT (endI 1 ts)] = LL at *
    have HTX := Lib.hid htx
    have hbd : ∀ i (h : i < LL.length), (textT (LL.take i)).length + (LL[i]'h).text.size ≤ 400 := fun i h => by
      have e := textT_snoc LL i h
      have : (textT (LL.take (i + 1))).length ≤ (textT LL).length := by
        have hp : textT LL = textT (LL.take (i + 1)) ++ textT (LL.drop (i + 1)) := by
          unfold textT
          rw [← List.flatMap_append, List.take_append_drop]
        rw [hp, List.length_append]; omega
      rw [e, List.length_append, htx] at this
      rw [Lib.size_eq]; omega
    have HBD := Lib.hid hbd
    have hJs : (mk (joinI ts)).size ≤ 700 := by rw [mk_size]; omega
    clear htx hbd hj1
    generalize joinI ts = J at *
    go_wp2_with fail
    refine (HSC.out _ HV2.out).mono ?_; rintro e w3 ⟨⟨va, rfl, ra⟩, g3⟩
    obtain ⟨b, cb, rfl, hcs⟩ := ra.form (by intro e; rw [e] at hlen1; cases hlen1)
    have HCS := Lib.hid hcs
    have G3 := Lib.hid (ext_trans G2.out g3)
    clear hcs ra g3 G2 HV2 HSC
    go_wp2_with fail
    have H0 : Hid (LL.take 0 = []) := Lib.hid rfl
    go_loopw [15, 16] (fun g i wr => ∃ j : Nat, i = .int .i64 j ∧ j ≤ LL.length ∧ g = .string (mk (textT (LL.take j))) ∧ w3 = wr) (fun g i wr => LL.length - (match i with | .int _ x => x.toNat | _ => 0))
    case atStart => exact ⟨0, rfl, Nat.zero_le _, by rw [H0.out]; rfl, rfl⟩
    case round =>
      obtain ⟨j, rfl, hj, rfl, rfl⟩ := hrel
      by_cases hlt : j < LL.length
      · obtain ⟨_, d1, _, _⟩ := HCS.out j hlt
        have hbd := HBD.out j hlt
        have HN := Lib.hid (textT_snoc LL j hlt)
        generalize (LL[j]'hlt).text = u at *
        have hg1 : (mk (textT (LL.take j))).size ≤ 400 := by rw [mk_size]; omega
        have hg2 : u.size ≤ 400 := by omega
        generalize textT (LL.take j) = Y at *
        have hcat : mk Y ++ u = mk (Y ++ u.data.toList) := mk_app Y u.data.toList
        clear hbd
        go_wp2_with fail
        go_roundw
        case rel => exact ⟨j + 1, rfl, by omega, by rw [HN.out], trivial⟩
        case measure => simp; omega
      · obtain rfl : j = LL.length := by omega
        have hfin : textT (LL.take LL.length) = textI ts := by rw [List.take_length]; exact HTX.out
        rw [hfin]
        go_wp2_with fail
        go_ret
        exact ⟨rfl, G3.out⟩
end Go.Proofs.YtohffidbibichaaDoor
