/- The walk of ScanWhere: the call answers true and leaves what was there as it was. -/
import Derived.Test.YtohffidbibichaaDoorRows
import Derived.WalkKit
import Derived.ProofKit
import Derived.OpenShut
import Derived.WalkLawsBesides
import Derived.WalkSpells
import Derived.Outline
import Derived.Handy
import Derived.Lib.Hide
import Derived.Lib.OthersKept
import Derived.KernelRfl
import Derived.RegionTactic
import Derived.BigRegion
import Derived.Deep.RegionHeld3
import Derived.Deep.Cut
import Derived.Deep.CutBlock
import Derived.Test.YtohffidbibichaaDoorScBa
namespace Go.Proofs.YtohffidbibichaaDoor
open Go.ChangeShapes Go.WideShapes Go.ChangeAt Go.RowKit
set_option linter.unusedVariables false
theorem bad_at : ∀ (k : Nat) (h : k < 14), ∃ t, ([Value.string ⟨#[63]⟩, Value.string ⟨#[35]⟩, Value.string ⟨#[36]⟩, Value.string ⟨#[64]⟩, Value.string ⟨#[34]⟩, Value.string ⟨#[92]⟩, Value.string ⟨#[0]⟩, Value.string ⟨#[255]⟩, Value.string ⟨#[39, 39]⟩, Value.string ⟨#[39, 97, 98, 39]⟩, Value.string ⟨#[39, 10]⟩, Value.string ⟨#[48, 49]⟩, Value.string ⟨#[96]⟩, Value.string ⟨#[97, 97, 97, 97, 97, 97, 97, 97, 97, 97, 97, 97, 97, 97, 97, 97, 97, 97, 97, 97, 97]⟩] : List Value)[k]? = some (.string (mk t)) ∧ t ∈ badTs := by
  intro k h
  have hl : k < badTs.length := h
  refine ⟨badTs[k]'hl, ?_, List.getElem_mem _⟩
  show (badTs.map fun l => Value.string (mk l))[k]? = _
  rw [List.getElem?_map, List.getElem?_eq_getElem hl]; rfl
set_option maxRecDepth 100000 in
set_option maxHeartbeats 4000000 in
theorem where_walk (v : Value) (bd : Int) (more : ByteArray) (L : List (Int × Int)) (w : World) (hp : PairsAt w v L) (hb1 : -9223372036854775808 ≤ bd) (hb2 : bd ≤ 9223372036854775807) (hz : more.size ≤ 9223372036854775807) (hv : ErrVars w) :
    Calls Tryd.prog 6 #[v, .int .i64 bd, .string more] w fun e w' => e = .returned (.bool true) ∧ Below w.heap.size w w' := by
  have HV := Lib.hid hv; clear hv
  have HP := Lib.hid hp
  obtain ⟨_, hlen, p, cap, rfl, _⟩ := hp
  obtain ⟨q, hq, hq2⟩ := pickN_nat bd 14 (by decide)
  have pk : Hid (∀ w, Calls Tryd.prog 22 #[.int .i64 bd, .int .i64 14] w fun e w' => e = .returned (.int .i64 (q : Int)) ∧ w = w') :=
    Lib.hid (fun w => (pick_any bd 14 w hb1 hb2 (by decide)).mono fun e w' h => ⟨by rw [← hq]; exact h.1, h.2⟩)
  clear hq
  obtain ⟨m, hm1, hm2, hm3⟩ : ∃ m : Nat, m ≤ 20 ∧ m ≤ L.length ∧ (L.length ≤ 20 → m = L.length) ∧ (20 ≤ L.length → m = 20) := by
    by_cases h : L.length ≤ 20
    · exact ⟨L.length, h, Nat.le_refl _, fun _ => rfl, fun k => by omega⟩
    · exact ⟨20, Nat.le_refl _, by omega, fun k => absurd k h, fun _ => rfl⟩
  have hmin : min (L.length : Int) 20 = (m : Int) := by omega
  clear hm3
  go_enter Tryd.func6, Tryd.ntmps6
  go_wp2_with fail
  refine (awake_any _ HV.out).mono ?_; rintro e w1 ⟨rfl, g1⟩
  have HV1 := Lib.hid (HV.out.ext g1)
  have HP1 := Lib.hid (HP.out.ext g1)
  have G1 := Lib.hid g1
  clear HV g1 HP
  go_upto_block 0 with (fail)
  go_cut [8] from 21 (fun s wr => ∃ ts : List Item, ts.length = m ∧ s = .string (mk (joinI ts)) ∧ AllI ts ∧ Fed ts ∧ Below w1.heap.size w1 wr)
  case first =>
    go_wp2_with fail
    go_loopw [8, 10] (fun s i wr => ∃ ts : List Item, i = .int .i64 ts.length ∧ ts.length ≤ m ∧ s = .string (mk (joinI ts)) ∧ AllI ts ∧ Fed ts ∧ Below w1.heap.size w1 wr)
      (fun s i wr => m - (match i with | .int _ x => x.toNat | _ => 0))
    case atStart => exact ⟨[], rfl, by simp, rfl, (fun t h => by cases h), (fun t h => by cases h), Below.refl _ _⟩
    case round =>
      obtain ⟨ts, rfl, h20, rfl, hall, hfed, hb⟩ := hrel
      have HA := Lib.hid hall; clear hall
      have HF := Lib.hid hfed; clear hfed
      obtain ⟨hj1, _⟩ := joinI_len ts HA.out
      by_cases hlt : ts.length < m
      · have hlt1 : ts.length < L.length := by omega
        obtain ⟨hin, _, p', cap', ev, hcells⟩ := HP1.out.ext hb
        cases ev
        obtain ⟨a, rfl, c0, c1⟩ := hcells ts.length hlt1
        obtain ⟨i0, i1⟩ := hin _ (List.getElem_mem hlt1)
        clear hin hcells
        generalize (L[ts.length]'hlt1).1 = x at *
        generalize (L[ts.length]'hlt1).2 = y at *
        have hw := Lib.hid (fun w => word_law x y w i0.1 i0.2 i1.1 i1.2)
        clear i0 i1
        have hsz : (mk (joinI ts)).size ≤ 700 := by rw [mk_size]; omega
        have HJ := Lib.hid (joinI_snoc ts)
        generalize joinI ts = J at *
        have c1' : wr.cell? ⟨(a.add (ts.length * 2)).block, (a.add (ts.length * 2)).off + 1, none⟩ = some (.int .i64 y) := c1
        go_wp2_with fail
        go_region_held3 (fun w' => w'.cell? (a.add (ts.length * 2)) = some (.int .i64 x) ∧ w'.cell? ⟨(a.add (ts.length * 2)).block, (a.add (ts.length * 2)).off + 1, none⟩ = some (.int .i64 y)) (first | exact ⟨c0, c1'⟩ | exact ⟨(g2.cell (cell_lt c0)).trans c0, (g2.cell (cell_lt c1')).trans c1'⟩) ((go_at_call 19; refine (hw.out _).mono ?_; rintro e w2 ⟨⟨t, k, n, rfl, ht⟩, g2⟩))
        clear c0 c1 c1'
        rename_i hh; clear hh
        have htl : (mk t).size ≤ 20 := ht.len
        have HTK := Lib.hid ht; clear ht
        have hb2 : Below w1.heap.size w1 w2 := hb.drew.trans (g2.mono hb.size)
        have hcat1 : mk J ++ mk t = mk (J ++ t) := mk_app J t
        have hcat2 : mk (J ++ t) ++ ⟨#[10]⟩ = mk (J ++ t ++ [10]) := mk_app (J ++ t) [10]
        have hsz2 : (mk (J ++ t)).size ≤ 720 := by rw [← hcat1, ByteArray.size_append]; omega
        clear g2 hj1 hb hw
        go_wp2_with fail
        go_roundw
        case rel => exact ⟨ts ++ [⟨t, k, n, [10]⟩], by simp, by simp; omega, by rw [HJ.out]; simp, (fun u hu => by
            rcases List.mem_append.1 hu with h | h
            · exact HA.out u h
            · rw [List.mem_singleton.1 h]; exact ⟨HTK.out, blank_3⟩), (fun u hu => by
            rcases List.mem_append.1 hu with h | h
            · exact HF.out u h
            · rw [List.mem_singleton.1 h]), hb2⟩
        case measure => simp; omega
      · have hfin : ts.length = m := by omega
        have HFIN := Lib.hid hfin; clear hfin
        go_wp2_with fail
        go_meet
        case rel => exact ⟨ts, HFIN.out, rfl, HA.out, HF.out, hb⟩
  case rest =>
    obtain ⟨ts, hm4, rfl, hall, hfed, hb⟩ := hcut
    obtain ⟨hj1, _⟩ := joinI_len ts hall
    obtain ⟨ct, hct1, hct2⟩ := bad_at q hq2
    have hctl : (mk ct).size ≤ 21 := by
      have : ∀ t ∈ badTs, (mk t).size ≤ 21 := by decide
      exact this ct hct2
    obtain ⟨mo, hmo1, hmo2⟩ : ∃ mo : List UInt8, (more.size ≤ 1000 → mk mo = more) ∧ (1000 < more.size → mo = []) := by
      by_cases h : more.size ≤ 1000
      · exact ⟨more.data.toList, fun _ => mk_data more, fun k => by omega⟩
      · exact ⟨[], fun k => absurd k h, fun _ => rfl⟩
    have hms : (mk mo).size ≤ 1000 := by
      by_cases h : more.size ≤ 1000
      · rw [hmo1 h]; exact h
      · rw [hmo2 (by omega)]; decide
    have hscan := where_scan ts hall hfed hct2 mo
    rw [hm4] at hscan
    have hJs : (mk (joinI ts)).size ≤ 700 := by rw [mk_size]; omega
    have HSC : Hid (∀ w, ErrVars w → Calls Tryd.prog 12 #[.string (mk (joinI ts ++ ct ++ 32 :: mo))] w fun e w' => e = .returned (.tuple #[.slice none 0 0, .int .i64 20, .int .i64 (m + 1)]) ∧ Below w.heap.size w w') := Lib.hid (fun w hv => by
      refine (scan_bad _ _ w ?_ hv hscan).mono fun e w' h => ⟨?_, h.2⟩
      · rw [mk_size] at hms hctl hJs ⊢
        rw [List.length_append, List.length_append, List.length_cons]; omega
      · rw [h.1, show ((1 + m : Nat) : Int) = (m : Int) + 1 by omega])
    have HV2 := Lib.hid (HV1.out.ext hb)
    have G2 := Lib.hid (ext_trans G1.out hb)
    have hctv := (List.getElem?_eq_some_iff.1 hct1).2
    clear HV1 G1 HP1 hb hall hfed hscan hj1 hct2 hm4
    generalize joinI ts = J at *
    obtain ⟨J2, hJ2⟩ : ∃ J2, J ++ ct = J2 := ⟨_, rfl⟩
    obtain ⟨J3, hJ3⟩ : ∃ J3, J2 ++ [32] = J3 := ⟨_, rfl⟩
    obtain ⟨F, hF⟩ : ∃ F, J ++ ct ++ 32 :: mo = F := ⟨_, rfl⟩
    rw [hF] at HSC
    have hF3 : J3 ++ mo = F := by rw [← hF, ← hJ3, ← hJ2]; simp
    have hcat1 : mk J ++ mk ct = mk J2 := by rw [← hJ2]; exact mk_app J ct
    have hcat2 : mk J2 ++ ⟨#[32]⟩ = mk J3 := by rw [← hJ3]; exact mk_app J2 [32]
    have hs1 : (mk J2).size ≤ 800 := by rw [← hcat1, ByteArray.size_append]; omega
    have h32 : (⟨#[32]⟩ : ByteArray).size = 1 := rfl
    have hs2 : (mk J3).size ≤ 900 := by rw [← hcat2, ByteArray.size_append]; omega
    clear hF hJ2 hJ3
    by_cases hmore : more.size ≤ 1000
    · have hcat3 : mk J3 ++ more = mk F := by rw [← hF3, ← mk_app, hmo1 hmore]
      clear hmo1 hmo2 hF3 hms
      go_wp2_with (go_at_call 22; refine (pk.out _).mono ?_; rintro e w3 ⟨rfl, rfl⟩)
      refine (HSC.out _ (HV2.out.ext (ext_alloc (Below.refl _ _) _))).mono ?_; rintro e w4 ⟨rfl, g4⟩
      go_wp2_with fail
      go_ret
      exact ⟨rfl, ext_trans (ext_alloc G2.out _) g4⟩
    · have hcat3 : mk J3 ++ ⟨#[]⟩ = mk F := by rw [← hF3, ← mk_app, hmo2 (by omega)]; rfl
      have h00 : (⟨#[]⟩ : ByteArray).size = 0 := rfl
      clear hmo1 hmo2 hF3 hms
      go_wp2_with (go_at_call 22; refine (pk.out _).mono ?_; rintro e w3 ⟨rfl, rfl⟩)
      refine (HSC.out _ (HV2.out.ext (ext_alloc (Below.refl _ _) _))).mono ?_; rintro e w4 ⟨rfl, g4⟩
      go_wp2_with fail
      go_ret
      exact ⟨rfl, ext_trans (ext_alloc G2.out _) g4⟩
end Go.Proofs.YtohffidbibichaaDoor
