/- ir.Print, of any unit that may be. -/
import Derived.Test.YtafapkljlajflaaDoorRows
import Derived.WalkKit
import Derived.ProofKit
import Derived.OpenShut
import Derived.WalkLawsBesides
import Derived.WalkSpells
import Derived.Outline
import Derived.Handy
import Derived.Lib.Hide
import Derived.Lib.OthersKept
import Derived.KernelRfl
import Derived.Carry
import Derived.RegionTactic
import Derived.BigRegion
import Derived.OwnWalk
import Derived.Deep.Cut
import Derived.IntWalk
import Derived.Deep.QuietTactic
import Derived.BigQuiet
import Derived.Deep.RegionHeld3
import Derived.Test.YtafapkljlajflaaDoorVa
import Derived.Test.YtafapkljlajflaaDoorVh
namespace Go.Proofs.YtafapkljlajflaaDoor
open Go.ChangeShapes Go.WideShapes Go.ChangeAt Go.RowKit
set_option linter.unusedVariables false
structure PrAll (u : Un) : Prop where
  of ::
  ar : ∀ a ∈ u.arrays, I64 a.size ∧ a.name.length ≤ 100
  fl : ∀ f ∈ u.flows, I64 f.params ∧ I64 f.values ∧ f.name.length ≤ 100
  xn : ∀ f ∈ u.flows, ∀ b ∈ f.blocks, (∀ x ∈ b.ins, InsOk x) ∧ TrmOk b.term
  bl : ∀ f ∈ u.flows, f.blocks.length ≤ 1000000
  ln : (unT u).length ≤ 1000000
set_option maxRecDepth 100000 in
set_option maxHeartbeats 16000000 in
theorem print_all (v : Value) (u : Un) (w : World) (h : UnAt (fun k => k < w.heap.size) w v u) (hf : UnFit u) (hb : wrongU u = (0, 0, 0)) (hp : PrAll u) (hv : Env w) :
    Calls Tryd.prog 10 #[v] w fun e w' => e = .returned (.tuple #[.string (mk (unT u)), .int .i64 0]) ∧ Below w.heap.size w w' := by
  have HC := Lib.hid (fun (w' : World) (g : Below w.heap.size w w') => check_any v u w' (by
    obtain ⟨va, vf, e, h1, h2⟩ := h
    exact ⟨va, vf, e, ars_wideU (fun b hb => by have := g.size; omega) (ars_kept h1 (kept_below g)), fls_wide (fun b hb => by have := g.size; omega) (fls_kept h2 (kept_below g))⟩) hf)
  have HV := Lib.hid hv
  have HP := Lib.hid hp
  have hlen := hp.ln
  have HT : Hid ([] ++ ((u.arrays.drop 0).flatMap arrT ++ (u.flows.drop 0).flatMap flT) = unT u) := Lib.hid rfl
  obtain ⟨va, vf, rfl, har, hfl⟩ := h
  obtain ⟨_, pa, ca, hva, hac⟩ := har
  subst hva
  have HAC := Lib.hid hac
  obtain ⟨na, hna⟩ : ∃ m : Nat, u.arrays.length = m := ⟨_, rfl⟩
  have HNA := Lib.hid hna
  obtain ⟨_, pf, cf, hvf, hfc⟩ := hfl
  subst hvf
  have HFC := Lib.hid hfc
  unfold CkRes at HC
  rw [hb] at HC
  rw [hna] at HC ⊢
  clear hac hfc hf hb hv hp hna
  generalize unT u = T at *
  go_enter Tryd.func10, Tryd.ntmps10
  go_wp2_with fail
  refine (HC.out _ (ext_alloc (Below.refl _ _) _)).mono ?_; rintro e w3 ⟨rfl, g3⟩
  have HBX := Lib.hid ((g3.block w.heap.size (by simp)).trans (heap_new w _))
  have G3 := Lib.hid (ext_trans (ext_alloc (Below.refl w.heap.size w) _) g3)
  have hz3 : w.heap.size < w3.heap.size := by have := g3.size; simp at this; omega
  obtain ⟨b0, b1⟩ := two_cells HBX.out
  clear g3 HC
  have HIT := Lib.hid (fun n hn w hv => itoa_any n hn w hv)
  have G4 := G3
  have HV4 := Lib.hid (HV.out.ext G4.out)
  go_wp2_with fail
  go_loopw [25] (fun iv wr => ∃ (i : Nat) (acc : List UInt8), iv = .int .i64 i ∧ i ≤ na ∧ PI w3 wr acc ∧ Hid (acc ++ ((u.arrays.drop i).flatMap arrT ++ (u.flows.drop 0).flatMap flT) = T)) (fun iv wr => na - slotN iv)
  case atStart => exact ⟨0, [], rfl, Nat.zero_le _, PI.start w3, HT⟩
  case round =>
    obtain ⟨i0, a0, rfl, hi0, hI, HACA⟩ := hrel
    have HI := Lib.hid hI
    have hac := len_le HACA.out
    obtain ⟨b0, b1⟩ := two_cells ((hI.bl.block w.heap.size (by omega)).trans HBX.out)
    have hzr : w.heap.size < wr.heap.size := by have := hI.sz; omega
    clear hI
    by_cases hi0l : i0 < na
    focus
      obtain ⟨wo, rfl⟩ : ∃ wo, wo = wr := ⟨_, rfl⟩
      have hil : i0 < u.arrays.length := by rw [HNA.out]; exact hi0l
      obtain ⟨ax, rfl, hxb, kx⟩ := HAC.out i0 hil
      obtain ⟨q0, q1⟩ := ar_kept (A := fun k => k < w.heap.size) kx (by rw [add_block]; exact hxb) (kept_below (G4.out.trans (HI.out.bl.mono (by omega))))
      have hax : (ax.add (i0 * 2)).block < wo.heap.size := cell_lt q0
      obtain ⟨hp1, hp2⟩ := HP.out.ar _ (List.getElem_mem hil)
      have HSTEP : Hid ((u.arrays.drop i0).flatMap arrT = arrT (u.arrays[i0]'hil) ++ (u.arrays.drop (i0 + 1)).flatMap arrT) := Lib.hid (by rw [List.drop_eq_getElem_cons hil, List.flatMap_cons])
      have HFH : Hid (arrT (u.arrays[i0]'hil) = [97, 114, 114, 97, 121, 32] ++ (u.arrays[i0]'hil).name ++ [32] ++ Lib.itoa (u.arrays[i0]'hil).size ++ [10]) := Lib.hid rfl
      generalize arrT (u.arrays[i0]'hil) = t4 at *
      generalize u.arrays[i0]'hil = f at *
      obtain ⟨nm, fz⟩ := f
      simp only at q0 q1 hp1 hp2 HFH
      have l1' := itoa_le hp1
      have HI1 := Lib.hid (fun w hv => HIT.out fz hp1 w hv)
      generalize Lib.itoa fz = ti at *
      obtain ⟨t1, ht1⟩ : ∃ t1, t1 = [97, 114, 114, 97, 121, 32] ++ nm := ⟨_, rfl⟩
      obtain ⟨t2, ht2⟩ : ∃ t2, t2 = t1 ++ [32] := ⟨_, rfl⟩
      obtain ⟨t3, ht3⟩ : ∃ t3, t3 = t2 ++ ti := ⟨_, rfl⟩
      have hT4 : t4 = t3 ++ [10] := by rw [HFH.out, ht3, ht2, ht1]
      have e1 : (⟨#[97, 114, 114, 97, 121, 32]⟩ : ByteArray) ++ mk nm = mk t1 := by rw [ht1]; exact mk_app [97, 114, 114, 97, 121, 32] nm
      have e2 : mk t1 ++ (⟨#[32]⟩ : ByteArray) = mk t2 := by rw [ht2]; exact mk_app t1 [32]
      have e3 : mk t2 ++ mk ti = mk t3 := by rw [ht3]; exact mk_app _ _
      have e4 : mk t3 ++ (⟨#[10]⟩ : ByteArray) = mk t4 := by rw [hT4]; exact mk_app t3 [10]
      have m1 : t1.length ≤ 106 := by rw [ht1, List.length_append]; simp; omega
      have m2 : t2.length ≤ 107 := by rw [ht2, List.length_append]; simp; omega
      have m3 : t3.length ≤ 128 := by rw [ht3, List.length_append]; omega
      have m4 : t4.length ≤ 129 := by rw [hT4, List.length_append]; simp; omega
      clear ht1 ht2 ht3 hT4
      have s6 : (⟨#[97, 114, 114, 97, 121, 32]⟩ : ByteArray).size = 6 := rfl
      have s1 : (⟨#[32]⟩ : ByteArray).size = 1 := rfl
      have s1' : (⟨#[10]⟩ : ByteArray).size = 1 := rfl
      have zn : (mk nm).size = nm.length := rfl
      have z1 : (mk t1).size = t1.length := rfl
      have z2 : (mk t2).size = t2.length := rfl
      have z3 : (mk t3).size = t3.length := rfl
      have zi : (mk ti).size = ti.length := rfl
      have k1 : ¬ 9223372036854775807 < 6 + nm.length := by omega
      have k2 : ¬ 9223372036854775807 < t1.length + 1 := by omega
      have k3 : ¬ 9223372036854775807 < t2.length + ti.length := by omega
      have k4 : ¬ 9223372036854775807 < t3.length + 1 := by omega
      have HA4 : Hid (a0 ++ t4 ++ ((u.arrays.drop (i0 + 1)).flatMap arrT ++ (u.flows.drop 0).flatMap flT) = T) := Lib.hid (by rw [← HACA.out, HSTEP.out]; simp only [List.append_assoc])
      have hnai : (i0 : Int) < na := by omega
      clear kx
      go_wp2_with fail
      have c0 : ((wo.alloc (.cells #[.string (mk nm), .int .i64 fz] 60)).drew).cell? ⟨wo.heap.size, 0, none⟩ = some (.string (mk nm)) := cell_row (heap_new wo _) 0
      have c1 : ((wo.alloc (.cells #[.string (mk nm), .int .i64 fz] 60)).drew).cell? ⟨wo.heap.size, 1, none⟩ = some (.int .i64 fz) := cell_row (heap_new wo _) 1
      have hI := (HI.out.ext (ext_alloc (Below.refl _ _) (.cells #[.string (mk nm), .int .i64 fz] 60))).ext (ext_drew (Below.refl _ _))
      have hwb : w3.heap.size + 1 < wo.heap.size := HI.out.sz
      have hq : ((wo.alloc (.cells #[.string (mk nm), .int .i64 fz] 60)).drew).heap[wo.heap.size]? = some (.cells #[.string (mk nm), .int .i64 fz] 60 (0, 0)) := heap_new wo _
      go_region_held3 (fun w' => w'.cell? ⟨wo.heap.size, 0, none⟩ = some (.string (mk nm)) ∧ w'.cell? ⟨wo.heap.size, 1, none⟩ = some (.int .i64 fz)) (exact ⟨c0, c1⟩) ((first
        | (go_at_call 22; (with_reducible refine (HI1.out _ (HV4.out.ext hI.bl)).mono ?_); rintro e w5 ⟨rfl, g5⟩; have hq := (g5.block _ (cell_lt c0)).trans hq; have c0 := (g5.cell (cell_lt c0)).trans c0; have c1 := (g5.cell (cell_lt c1)).trans c1; have hI := hI.ext g5)
        | (go_at_call 21; refine (write_any (w3.heap.size + 1) (w3.heap.size + 1) a0 t4 _ hI.bd (by omega) (Nat.le_of_lt hI.sz)).mono ?_; rintro e w6 ⟨rfl, hI6, b6, k6⟩; have hq := k6 wo.heap.size _ hq (by simp; omega) (by intro c fz e; cases e); have c0 := cell_row hq 0; have c1 := cell_row hq 1; have hI := hI.wrote hI6 b6)))
      all_goals
        have HI6 := Lib.hid hI
        clear hI hq c0 c1
        go_wp2_with fail
        go_roundw
        case rel => exact ⟨i0 + 1, _, by go_num, by omega, HI6.out, HA4⟩
        case measure => simp [slotN]; omega
    obtain rfl : i0 = na := by omega
    have HT0 : Hid (a0 ++ (u.flows.drop 0).flatMap flT = T) := Lib.hid (by
      have := HACA.out
      rw [List.drop_eq_nil_of_le (by rw [HNA.out]; exact Nat.le_refl _)] at this
      exact this)
    clear hac
    go_wp2_with fail
    go_loopw [43] (fun iv wr => ∃ (i : Nat) (acc : List UInt8), iv = .int .i64 i ∧ i ≤ u.flows.length ∧ PI w3 wr acc ∧ Hid (acc ++ (u.flows.drop i).flatMap flT = T)) (fun iv wr => u.flows.length - slotN iv)
    case atStart => exact ⟨0, a0, rfl, Nat.zero_le _, HI.out, HT0⟩
    case round =>
      obtain ⟨i, acc, rfl, hi, hI, HACC⟩ := hrel
      have HI := Lib.hid hI
      have hac := len_le HACC.out
      clear hI
      by_cases hil : i < u.flows.length
      · obtain ⟨wo, rfl⟩ : ∃ wo, wo = wr := ⟨_, rfl⟩
        obtain ⟨ax, rfl, hxb, kx⟩ := HFC.out i hil
        obtain ⟨vb, q0, q1, q2, q3, hvb⟩ := fl_get (fl_kept (A := fun k => k < w.heap.size) kx (by rw [add_block]; exact hxb) (kept_below (G4.out.trans (HI.out.bl.mono (by omega)))))
        have hvb0 := HFC.out i hil
        obtain ⟨pb, cb, hvb2⟩ := row_slice hvb
        subst hvb2
        have hax : (ax.add (i * 4)).block < wo.heap.size := cell_lt q0
        obtain ⟨hp1, hp2, hp3⟩ := HP.out.fl _ (List.getElem_mem hil)
        have HXN := Lib.hid (HP.out.xn _ (List.getElem_mem hil))
        have HSTEP : Hid ((u.flows.drop i).flatMap flT = flHead (u.flows[i]'hil) ++ (bksT (u.flows[i]'hil).blocks 0 ++ (u.flows.drop (i + 1)).flatMap flT)) := Lib.hid (by rw [List.drop_eq_getElem_cons hil, List.flatMap_cons]; unfold flT; rw [List.append_assoc])
        have HFH : Hid (flHead (u.flows[i]'hil) = [102, 117, 110, 99, 32] ++ (u.flows[i]'hil).name ++ [32] ++ Lib.itoa (u.flows[i]'hil).params ++ [32] ++ Lib.itoa (u.flows[i]'hil).values ++ [10]) := Lib.hid rfl
        have HVB := Lib.hid hvb
        have hnb := HP.out.bl _ (List.getElem_mem hil)
        clear kx hvb hvb0
        have HREST : Hid (∀ a : List UInt8, a ++ (u.flows.drop (i + 1)).flatMap flT = T → Hid (a ++ (u.flows.drop (i + 1)).flatMap flT = T)) := Lib.hid (fun a h => Lib.hid h)
        obtain ⟨REST, hREST⟩ : ∃ R, (u.flows.drop (i + 1)).flatMap flT = R := ⟨_, rfl⟩
        have HRE : Hid (∀ a : List UInt8, a ++ REST = T → Hid (a ++ (u.flows.drop (i + 1)).flatMap flT = T)) := Lib.hid (fun a h => Lib.hid (by rw [hREST]; exact h))
        rw [hREST] at HSTEP
        clear hREST HREST
        generalize flHead (u.flows[i]'hil) = t6 at *
        generalize u.flows[i]'hil = f at *
        obtain ⟨nm, fp, fv, bks⟩ := f
        simp only at q0 q1 q2 q3 hp1 hp2 hp3 HXN HSTEP HFH HVB hnb
        have l1' := itoa_le hp1
        have l2' := itoa_le hp2
        have HI1 := Lib.hid (fun w hv => HIT.out fp hp1 w hv)
        have HI2 := Lib.hid (fun w hv => HIT.out fv hp2 w hv)
        generalize Lib.itoa fp = ti at *
        generalize Lib.itoa fv = tj at *
        obtain ⟨t1, ht1⟩ : ∃ t1, t1 = [102, 117, 110, 99, 32] ++ nm := ⟨_, rfl⟩
        obtain ⟨t2, ht2⟩ : ∃ t2, t2 = t1 ++ [32] := ⟨_, rfl⟩
        obtain ⟨t3, ht3⟩ : ∃ t3, t3 = t2 ++ ti := ⟨_, rfl⟩
        obtain ⟨t4, ht4⟩ : ∃ t4, t4 = t3 ++ [32] := ⟨_, rfl⟩
        obtain ⟨t5, ht5⟩ : ∃ t5, t5 = t4 ++ tj := ⟨_, rfl⟩
        have hT6 : t6 = t5 ++ [10] := by rw [HFH.out, ht5, ht4, ht3, ht2, ht1]
        have e1 : (⟨#[102, 117, 110, 99, 32]⟩ : ByteArray) ++ mk nm = mk t1 := by rw [ht1]; exact mk_app [102, 117, 110, 99, 32] nm
        have e2 : mk t1 ++ (⟨#[32]⟩ : ByteArray) = mk t2 := by rw [ht2]; exact mk_app t1 [32]
        have e3 : mk t2 ++ mk ti = mk t3 := by rw [ht3]; exact mk_app _ _
        have e4 : mk t3 ++ (⟨#[32]⟩ : ByteArray) = mk t4 := by rw [ht4]; exact mk_app t3 [32]
        have e5 : mk t4 ++ mk tj = mk t5 := by rw [ht5]; exact mk_app _ _
        have e6 : mk t5 ++ (⟨#[10]⟩ : ByteArray) = mk t6 := by rw [hT6]; exact mk_app t5 [10]
        have m1 : t1.length ≤ 105 := by rw [ht1, List.length_append]; simp; omega
        have m2 : t2.length ≤ 106 := by rw [ht2, List.length_append]; simp; omega
        have m3 : t3.length ≤ 127 := by rw [ht3, List.length_append]; omega
        have m4 : t4.length ≤ 128 := by rw [ht4, List.length_append]; simp; omega
        have m5 : t5.length ≤ 149 := by rw [ht5, List.length_append]; omega
        have m6 : t6.length ≤ 150 := by rw [hT6, List.length_append]; simp; omega
        clear ht1 ht2 ht3 ht4 ht5 hT6
        have s5 : (⟨#[102, 117, 110, 99, 32]⟩ : ByteArray).size = 5 := rfl
        have s1 : (⟨#[32]⟩ : ByteArray).size = 1 := rfl
        have s1' : (⟨#[10]⟩ : ByteArray).size = 1 := rfl
        have zn : (mk nm).size = nm.length := rfl
        have z1 : (mk t1).size = t1.length := rfl
        have z2 : (mk t2).size = t2.length := rfl
        have z3 : (mk t3).size = t3.length := rfl
        have z4 : (mk t4).size = t4.length := rfl
        have z5 : (mk t5).size = t5.length := rfl
        have zi : (mk ti).size = ti.length := rfl
        have zj : (mk tj).size = tj.length := rfl
        have k1 : ¬ 9223372036854775807 < 5 + nm.length := by omega
        have k2 : ¬ 9223372036854775807 < t1.length + 1 := by omega
        have k3 : ¬ 9223372036854775807 < t2.length + ti.length := by omega
        have k4 : ¬ 9223372036854775807 < t3.length + 1 := by omega
        have k5 : ¬ 9223372036854775807 < t4.length + tj.length := by omega
        have k6 : ¬ 9223372036854775807 < t5.length + 1 := by omega
        obtain ⟨nb, hnbe⟩ : ∃ nb : Nat, bks.length = nb := ⟨_, rfl⟩
        have HNB := Lib.hid hnbe
        rw [hnbe] at q3 HVB hnb
        clear hnbe
        go_wp2_with fail
        have c0 : ((wo.alloc (.cells #[.string (mk nm), .int .i64 fp, .int .i64 fv, .slice pb nb cb] 45)).drew).cell? ⟨wo.heap.size, 0, none⟩ = some (.string (mk nm)) := cell_row (heap_new wo _) 0
        have c1 : ((wo.alloc (.cells #[.string (mk nm), .int .i64 fp, .int .i64 fv, .slice pb nb cb] 45)).drew).cell? ⟨wo.heap.size, 1, none⟩ = some (.int .i64 fp) := cell_row (heap_new wo _) 1
        have c2 : ((wo.alloc (.cells #[.string (mk nm), .int .i64 fp, .int .i64 fv, .slice pb nb cb] 45)).drew).cell? ⟨wo.heap.size, 2, none⟩ = some (.int .i64 fv) := cell_row (heap_new wo _) 2
        have hq : ((wo.alloc (.cells #[.string (mk nm), .int .i64 fp, .int .i64 fv, .slice pb nb cb] 45)).drew).heap[wo.heap.size]? = some (.cells #[.string (mk nm), .int .i64 fp, .int .i64 fv, .slice pb nb cb] 45 (0, 0)) := heap_new wo _
        have hI := (HI.out.ext (ext_alloc (Below.refl _ _) (.cells #[.string (mk nm), .int .i64 fp, .int .i64 fv, .slice pb nb cb] 45))).ext (ext_drew (Below.refl _ _))
        have hwb : w3.heap.size + 1 < wo.heap.size := HI.out.sz
        go_region_held3 (fun w' => w'.cell? ⟨wo.heap.size, 0, none⟩ = some (.string (mk nm)) ∧ w'.cell? ⟨wo.heap.size, 1, none⟩ = some (.int .i64 fp) ∧ w'.cell? ⟨wo.heap.size, 2, none⟩ = some (.int .i64 fv)) (exact ⟨c0, c1, c2⟩) ((first
          | (go_at_call 22; (with_reducible refine (HI1.out _ (HV4.out.ext hI.bl)).mono ?_); rintro e w5 ⟨rfl, g5⟩; have hq := (g5.block _ (cell_lt c0)).trans hq; have c0 := (g5.cell (cell_lt c0)).trans c0; have c1 := (g5.cell (cell_lt c1)).trans c1; have c2 := (g5.cell (cell_lt c2)).trans c2; have hI := hI.ext g5)
          | (go_at_call 22; (with_reducible refine (HI2.out _ (HV4.out.ext hI.bl)).mono ?_); rintro e w5 ⟨rfl, g5⟩; have hq := (g5.block _ (cell_lt c0)).trans hq; have c0 := (g5.cell (cell_lt c0)).trans c0; have c1 := (g5.cell (cell_lt c1)).trans c1; have c2 := (g5.cell (cell_lt c2)).trans c2; have hI := hI.ext g5)
          | (go_at_call 21; refine (write_any (w3.heap.size + 1) (w3.heap.size + 1) acc t6 _ hI.bd (by omega) (Nat.le_of_lt hI.sz)).mono ?_; rintro e w6 ⟨rfl, hI6, b6, k6⟩; have hq := k6 wo.heap.size _ hq (by simp; omega) (by intro c fz e; cases e); have c0 := cell_row hq 0; have c1 := cell_row hq 1; have c2 := cell_row hq 2; have hI := hI.wrote hI6 b6)))
        all_goals
          have HI6 := Lib.hid hI
          have c3 := cell_row hq 3
          have hz6 : wo.heap.size < w6.heap.size := (Array.getElem?_eq_some_iff.1 hq).1
          have HA6 : Hid ((acc ++ t6) ++ (bksT (bks.drop 0) 0 ++ REST) = T) := Lib.hid (by rw [← HACC.out, HSTEP.out, List.append_assoc]; rfl)
          have HKW : Hid (∀ (wr : World) (a : List UInt8), PI w3 wr a → Kept (fun b => b < w.heap.size) wo wr) := Lib.hid (fun wr a h b hb _ => (h.bl.block b (by have : b < w.heap.size := hb; omega)).trans (HI.out.bl.block b (by have : b < w.heap.size := hb; omega)).symm)
          try clear hI
          try clear hq
          try clear c0
          try clear c1
          try clear c2
          try clear e1
          try clear e2
          try clear e3
          try clear e4
          try clear e5
          try clear e6
          try clear m1
          try clear m2
          try clear m3
          try clear m4
          try clear m5
          try clear s5
          try clear s1
          try clear s1'
          try clear zn
          try clear z1
          try clear z2
          try clear z3
          try clear z4
          try clear z5
          try clear zi
          try clear zj
          try clear k1
          try clear k2
          try clear k3
          try clear k4
          try clear k5
          try clear k6
          try clear l1'
          try clear l2'
          try clear HI1
          try clear HI2
          try clear hI6
          try clear b6
          try clear q0
          try clear q1
          try clear q2
          try clear q3
          try clear k6
          go_wp2_with fail
          go_loopw [65] (fun iv wr => ∃ (k : Nat) (a2 : List UInt8), iv = .int .i64 k ∧ k ≤ nb ∧ PI w3 wr a2 ∧ Hid (a2 ++ (bksT (bks.drop k) k ++ REST) = T)) (fun iv wr => nb - slotN iv)
          case atStart => exact ⟨0, _, rfl, Nat.zero_le _, HI6.out, HA6⟩
          case round =>
            obtain ⟨k, a2, rfl, hk, hI, HA2⟩ := hrel
            have HI2 := Lib.hid hI
            have hac2 := len_le HA2.out
            have hzz : w3.heap.size + 1 < wr.heap.size := hI.sz
            clear hI
            by_cases hkl : k < nb
            · obtain ⟨wb, rfl⟩ : ∃ wb, wb = wr := ⟨_, rfl⟩
              have hkb : k < bks.length := by rw [HNB.out]; exact hkl
              obtain ⟨_, _, _, hq, hbc⟩ := bks_kept HVB.out (HKW.out wb a2 HI2.out)
              obtain ⟨ay, hay, hyb, ky⟩ := hbc k hkb
              injection hq with hq1 hq2 hq3
              subst hq1 hq3
              subst hay
              clear hq2
              obtain ⟨vi, p0, p1, p2, p3, p4, hvi⟩ := bk_get ky
              obtain ⟨pi, ci, hvi2⟩ := row_slice hvi
              subst hvi2
              have hay2 : (ay.add (k * 5)).block < wb.heap.size := cell_lt p0
              obtain ⟨hxs, htk⟩ := HXN.out _ (List.getElem_mem hkb)
              have HSB : Hid (bksT (bks.drop k) k = (blkT k ++ [58, 10]) ++ ((bks[k]'hkb).ins.flatMap insLn ++ (([9] ++ trmT (bks[k]'hkb).term ++ [10]) ++ bksT (bks.drop (k + 1)) (k + 1)))) := Lib.hid (by
                rw [List.drop_eq_getElem_cons hkb]
                show bkT k (bks[k]'hkb) ++ _ = _
                unfold bkT
                simp only [List.append_assoc])
              have HKI : Hid (I64 (k : Int)) := Lib.hid (by unfold I64; omega)
              have HVI := Lib.hid hvi
              have HXS := Lib.hid hxs
              have HBN := Lib.hid (fun w hv => bname_any (k : Int) HKI.out w hv)
              have hlb := blkT_le HKI.out
              have HTT := Lib.hid (fun w hv => ttext_any (bks[k]'hkb).term htk w hv)
              clear ky hvi hbc hxs htk
              obtain ⟨RB, hRB⟩ : ∃ R, bksT (bks.drop (k + 1)) (k + 1) = R := ⟨_, rfl⟩
              have HBK : Hid (∀ a : List UInt8, a ++ (RB ++ REST) = T → Hid (a ++ (bksT (bks.drop (k + 1)) (k + 1) ++ REST) = T)) := Lib.hid (fun a h => Lib.hid (by rw [hRB]; exact h))
              rw [hRB] at HSB
              clear hRB
              have HWB := HI2
              generalize trmT (bks[k]'hkb).term = TT at *
              generalize blkT (k : Int) = tb at *
              generalize bks[k]'hkb = bk at *
              obtain ⟨ins, ⟨tk, ta, tt, te⟩⟩ := bk
              simp only at p0 p1 p2 p3 p4 HSB HVI HXS HTT
              obtain ⟨ni, hni⟩ : ∃ ni : Nat, ins.length = ni := ⟨_, rfl⟩
              have HNI := Lib.hid hni
              rw [hni] at p0 HVI
              clear hni
              unfold tmV at HTT
              obtain ⟨u1, hu1⟩ : ∃ u1, u1 = tb ++ [58, 10] := ⟨_, rfl⟩
              have HU1 : Hid (a2 ++ u1 ++ (ins.flatMap insLn ++ (([9] ++ TT ++ [10]) ++ RB) ++ REST) = T) := Lib.hid (by rw [← HA2.out, HSB.out, hu1]; simp only [List.append_assoc])
              have e1 : mk tb ++ (⟨#[58, 10]⟩ : ByteArray) = mk u1 := by rw [hu1]; exact mk_app tb [58, 10]
              have hlu : u1.length ≤ 24 := by rw [hu1, List.length_append]; simp; omega
              clear hu1
              have s2 : (⟨#[58, 10]⟩ : ByteArray).size = 2 := rfl
              have zb : (mk tb).size = tb.length := rfl
              have b1' : ¬ 9223372036854775807 < tb.length + 2 := by omega
              go_wp2_with fail
              refine (HBN.out _ (HV4.out.ext (ext_alloc HI2.out.bl _))).mono ?_
              rintro e w7 ⟨rfl, g7⟩
              have hq7 := (g7.block wb.heap.size (by simp)).trans (heap_new wb _)
              have hI7 := (HI2.out.ext (ext_alloc (Below.refl _ _) _)).ext g7
              have HQ7 := Lib.hid hq7
              have HI7 := Lib.hid hI7
              clear g7 hq7 hI7 HI2
              go_wp2_with fail
              refine (write_any (w3.heap.size + 1) (w3.heap.size + 1) a2 u1 _ HI7.out.bd (by omega) (Nat.le_of_lt HI7.out.sz)).mono ?_
              rintro e w8 ⟨rfl, h8, b8, k8⟩
              have HQ8 := Lib.hid (k8 wb.heap.size _ HQ7.out (by simp; omega) (by intro c fz e; cases e))
              have HI8 := Lib.hid (HI7.out.wrote h8 b8)
              clear h8 b8 k8 HQ7 HI7 e1 s2 zb b1' p0 p1 p2 p3 p4
              obtain ⟨y0, y1, y2, y3, y4⟩ := five_cells HQ8.out
              have hz8 : wb.heap.size < w8.heap.size := (Array.getElem?_eq_some_iff.1 HQ8.out).1
              have HU2 : Hid (a2 ++ u1 ++ ((ins.drop 0).flatMap insLn ++ (([9] ++ TT ++ [10]) ++ (RB ++ REST))) = T) := Lib.hid (by rw [← HU1.out, List.drop_zero]; simp only [List.append_assoc])
              clear HU1
              go_wp2_with fail
              go_loopw [77] (fun iv wr => ∃ (j : Nat) (a3 : List UInt8), iv = .int .i64 j ∧ j ≤ ni ∧ PI w3 wr a3 ∧ wr.heap[wb.heap.size]? = some (.cells #[.slice pi ni ci, .int .i64 tk, .int .i64 ta, .int .i64 tt, .int .i64 te] 43 (0, 0)) ∧ Hid (a3 ++ ((ins.drop j).flatMap insLn ++ (([9] ++ TT ++ [10]) ++ (RB ++ REST))) = T)) (fun iv wr => ni - slotN iv)
              case atStart => exact ⟨0, _, rfl, Nat.zero_le _, HI8.out, HQ8.out, HU2⟩
              case round =>
                obtain ⟨j, a3, rfl, hj, hI, hqb, HA3⟩ := hrel
                have HI3 := Lib.hid hI
                have HQB := Lib.hid hqb
                have hac3 := len_le HA3.out
                obtain ⟨y0, y1, y2, y3, y4⟩ := five_cells hqb
                have hzq : wb.heap.size < wr.heap.size := (Array.getElem?_eq_some_iff.1 hqb).1
                have hzz3 : w3.heap.size + 1 < wr.heap.size := hI.sz
                have hwb : w3.heap.size + 1 < wb.heap.size := hzz
                clear hI hqb
                by_cases hjl : j < ni
                · have hjb : j < ins.length := by rw [HNI.out]; exact hjl
                  have hkk : Kept (fun b => b < w.heap.size) wb wr := fun b hb _ => by
                    have hb' : b < w.heap.size := hb
                    exact ((HKW.out wr a3 HI3.out) b hb (by have := HI.out.sz; omega)).trans ((HKW.out wb a2 HWB.out) b hb (by have := HI.out.sz; omega)).symm
                  obtain ⟨_, _, _, hq, hxc⟩ := xns_kept HVI.out hkk
                  obtain ⟨az, haz, hzb, kz⟩ := hxc j hjb
                  injection hq with hq1 hq2 hq3
                  subst hq1 hq3
                  subst haz
                  clear hq2
                  obtain ⟨vx, x0, x1, x2, x3, x4, x5, x6, x7, hnx⟩ := xn_get kz
                  obtain ⟨pxa, cxa, hvx⟩ := row_slice hnx
                  subst hvx
                  have haz2 : (az.add (j * 8)).block < wr.heap.size := cell_lt x0
                  have hxn := HXS.out _ (List.getElem_mem hjb)
                  have HSI : Hid ((ins.drop j).flatMap insLn = insLn (ins[j]'hjb) ++ (ins.drop (j + 1)).flatMap insLn) := Lib.hid (by rw [List.drop_eq_getElem_cons hjb, List.flatMap_cons])
                  have HIL : Hid (insLn (ins[j]'hjb) = [9] ++ insT (ins[j]'hjb) ++ [10]) := Lib.hid rfl
                  have HTX := Lib.hid (fun va w hva hv => itext_any (ins[j]'hjb) va hxn w hva hv)
                  have HNW : Hid (∀ o, NumsAt (fun b => b < (wr.alloc o).heap.size) (wr.alloc o) (.slice pxa (ins[j]'hjb).args.length cxa) (ins[j]'hjb).args) := Lib.hid (fun o => nums_wide (fun b (hb : b < w.heap.size) => (by simp; omega : b < (wr.alloc o).heap.size)) (nums_kept hnx (kept_below (ext_alloc (Below.refl _ _) _))))
                  clear kz hnx hxc hxn hkk
                  generalize insLn (ins[j]'hjb) = v2 at *
                  generalize insT (ins[j]'hjb) = ti at *
                  generalize ins[j]'hjb = x at *
                  obtain ⟨xk, xd, xa, xb, xo, xn, xm, xl⟩ := x
                  simp only at x0 x1 x2 x3 x4 x5 x6 x7
                  unfold xnV at HTX
                  simp only at HTX HNW
                  obtain ⟨mx, hmx⟩ : ∃ mx : Nat, xl.length = mx := ⟨_, rfl⟩
                  rw [hmx] at x7 HNW
                  clear hmx
                  have HA4 : Hid (a3 ++ v2 ++ ((ins.drop (j + 1)).flatMap insLn ++ (([9] ++ TT ++ [10]) ++ (RB ++ REST))) = T) := Lib.hid (by rw [← HA3.out, HSI.out]; simp only [List.append_assoc])
                  have hlv := len_le HA4.out
                  rw [List.length_append] at hlv
                  have hti : 1 + ti.length + 1 = v2.length := by rw [HIL.out]; simp; omega
                  obtain ⟨v1, hv1⟩ : ∃ v1, v1 = [9] ++ ti := ⟨_, rfl⟩
                  have e1 : (⟨#[9]⟩ : ByteArray) ++ mk ti = mk v1 := by rw [hv1]; exact mk_app [9] ti
                  have e2 : mk v1 ++ (⟨#[10]⟩ : ByteArray) = mk v2 := by rw [HIL.out, hv1]; exact mk_app ([9] ++ ti) [10]
                  have hlv1 : v1.length ≤ 1000000 := by rw [hv1, List.length_append]; simp; omega
                  have hlti : ti.length ≤ 1000000 := by omega
                  clear hv1 hti
                  have s1 : (⟨#[9]⟩ : ByteArray).size = 1 := rfl
                  have s1' : (⟨#[10]⟩ : ByteArray).size = 1 := rfl
                  have zi : (mk ti).size = ti.length := rfl
                  have zv : (mk v1).size = v1.length := rfl
                  have b1' : ¬ 9223372036854775807 < 1 + ti.length := by omega
                  have b2' : ¬ 9223372036854775807 < v1.length + 1 := by omega
                  go_wp2_with fail
                  refine (HTX.out _ _ (HNW.out _) (HV4.out.ext (ext_alloc HI3.out.bl _))).mono ?_
                  rintro e w9 ⟨rfl, g9⟩
                  have HQ9 := Lib.hid ((g9.block wb.heap.size (by simp; omega)).trans ((Lib.alloc_old _ _ _ hzq).trans HQB.out))
                  have HI9 := Lib.hid ((HI3.out.ext (ext_alloc (Below.refl _ _) _)).ext g9)
                  clear g9
                  go_wp2_with fail
                  refine (write_any (w3.heap.size + 1) (w3.heap.size + 1) a3 v2 _ HI9.out.bd (by omega) (Nat.le_of_lt HI9.out.sz)).mono ?_
                  rintro e w10 ⟨rfl, h8, b8, k8⟩
                  have HQ10 := Lib.hid (k8 wb.heap.size _ HQ9.out (by simp; omega) (by intro c fz e; cases e))
                  have HI10 := Lib.hid (HI9.out.wrote h8 b8)
                  clear h8 b8 k8
                  go_wp2_with fail
                  go_roundw
                  case rel => exact ⟨j + 1, _, by go_num, by omega, HI10.out, HQ10.out, HA4⟩
                  case measure => simp [slotN]; omega
                · obtain rfl : j = ni := by omega
                  have HA4 : Hid (a3 ++ (([9] ++ TT ++ [10]) ++ (RB ++ REST)) = T) := Lib.hid (by
                    have := HA3.out
                    rw [List.drop_eq_nil_of_le (by rw [HNI.out]; exact Nat.le_refl _)] at this
                    exact this)
                  obtain ⟨v1, hv1⟩ : ∃ v1, v1 = [9] ++ TT := ⟨_, rfl⟩
                  obtain ⟨v2, hv2⟩ : ∃ v2, v2 = v1 ++ [10] := ⟨_, rfl⟩
                  have HA5 : Hid (a3 ++ v2 ++ (RB ++ REST) = T) := Lib.hid (by rw [← HA4.out, hv2, hv1]; simp only [List.append_assoc])
                  have hlv := len_le HA5.out
                  rw [List.length_append] at hlv
                  have e1 : (⟨#[9]⟩ : ByteArray) ++ mk TT = mk v1 := by rw [hv1]; exact mk_app [9] TT
                  have e2 : mk v1 ++ (⟨#[10]⟩ : ByteArray) = mk v2 := by rw [hv2]; exact mk_app v1 [10]
                  have hl1 : 1 + TT.length = v1.length := by rw [hv1, List.length_append]; rfl
                  have hl2 : v1.length + 1 = v2.length := by rw [hv2, List.length_append]; rfl
                  have hlT : TT.length ≤ 1000000 := by omega
                  have hlv1 : v1.length ≤ 1000000 := by omega
                  clear hv1 hv2 hl1 hl2
                  have s1 : (⟨#[9]⟩ : ByteArray).size = 1 := rfl
                  have s1' : (⟨#[10]⟩ : ByteArray).size = 1 := rfl
                  have zi : (mk TT).size = TT.length := rfl
                  have zv : (mk v1).size = v1.length := rfl
                  have b1' : ¬ 9223372036854775807 < 1 + TT.length := by omega
                  have b2' : ¬ 9223372036854775807 < v1.length + 1 := by omega
                  go_wp2_with fail
                  refine (HTT.out _ (HV4.out.ext HI3.out.bl)).mono ?_
                  rintro e w9 ⟨rfl, g9⟩
                  have HI9 := Lib.hid (HI3.out.ext g9)
                  clear g9
                  go_wp2_with fail
                  refine (write_any (w3.heap.size + 1) (w3.heap.size + 1) a3 v2 _ HI9.out.bd (by omega) (Nat.le_of_lt HI9.out.sz)).mono ?_
                  rintro e w10 ⟨rfl, h8, b8, k8⟩
                  have HI10 := Lib.hid (HI9.out.wrote h8 b8)
                  clear h8 b8 k8
                  go_wp2_with fail
                  go_roundw
                  case rel => exact ⟨k + 1, _, by go_num, by omega, HI10.out, HBK.out _ HA5.out⟩
                  case measure => simp [slotN]; omega
            · obtain rfl : k = nb := by omega
              have HA3 : Hid (a2 ++ REST = T) := Lib.hid (by
                have := HA2.out
                rw [List.drop_eq_nil_of_le (by rw [HNB.out]; exact Nat.le_refl _)] at this
                exact this)
              go_wp2_with fail
              go_roundw
              case rel => exact ⟨i + 1, a2, by go_num, by omega, HI2.out, HRE.out _ HA3.out⟩
              case measure => simp [slotN]; omega
      · obtain rfl : i = u.flows.length := by omega
        have HR : Hid (acc = T) := Lib.hid (by have := HACC.out; rw [List.drop_eq_nil_of_le (Nat.le_refl _), List.flatMap_nil, List.append_nil] at this; exact this)
        have HST := Lib.hid (Tryd.Builder_String_any_f (w3.heap.size + 1) (w3.heap.size + 1) acc wr HI.out.bd (Nat.le_of_lt HI.out.sz))
        go_wp2_with fail
        refine HST.out.mono ?_
        rintro e w9 ⟨rfl, hb9, g9⟩
        have G9 : Hid (Below w.heap.size w w9) := Lib.hid (G3.out.trans ((HI.out.bl.trans (g9.mono (Nat.le_succ _))).mono (by omega)))
        clear hb9 g9
        go_wp2_with fail
        go_ret2
        exact ⟨by rw [← HR.out]; rfl, G9.out⟩
end Go.Proofs.YtafapkljlajflaaDoor
