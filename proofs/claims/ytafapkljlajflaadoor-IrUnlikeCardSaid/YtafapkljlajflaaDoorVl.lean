/- IrLines, walked. -/
import Derived.Test.YtafapkljlajflaaDoorRows
import Derived.WalkKit
import Derived.ProofKit
import Derived.OpenShut
import Derived.WalkLawsBesides
import Derived.WalkSpells
import Derived.Outline
import Derived.Handy
import Derived.Lib.Hide
import Derived.Lib.OthersKept
import Derived.KernelRfl
import Derived.Carry
import Derived.RegionTactic
import Derived.BigRegion
import Derived.OwnWalk
import Derived.Deep.Cut
import Derived.IntWalk
import Derived.Deep.QuietTactic
import Derived.BigQuiet
import Derived.Deep.RegionHeld3
import Derived.Deep.RegionLaw
import Derived.Test.YtafapkljlajflaaDoorVb
import Derived.Test.YtafapkljlajflaaDoorUl
import Derived.Test.YtafapkljlajflaaDoorVk
namespace Go.Proofs.YtafapkljlajflaaDoor
open Go.ChangeShapes Go.WideShapes Go.ChangeAt Go.RowKit
set_option linter.unusedVariables false
theorem bkN_take (L : List Bk) (k : Nat) (h : k < L.length) : bkN (L.take (k + 1)) = bkN (L.take k) + (2 + (L[k]'h).ins.length) := by
  unfold bkN
  rw [List.take_succ_eq_append_getElem h, List.map_append, List.sum_append]
  simp
def flN (L : List Fl) : Nat := (L.map fun f => 1 + bkN f.blocks).sum
theorem flN_take (L : List Fl) (k : Nat) (h : k < L.length) : flN (L.take (k + 1)) = flN (L.take k) + (1 + bkN (L[k]'h).blocks) := by
  unfold flN
  rw [List.take_succ_eq_append_getElem h, List.map_append, List.sum_append]
  simp
theorem bkN_take_le (L : List Bk) (k : Nat) : bkN (L.take k) ≤ bkN L := by
  unfold bkN
  rw [List.map_take]
  have := List.take_append_drop k (L.map fun b => 2 + b.ins.length)
  conv => rhs; rw [← this, List.sum_append]
  omega
theorem flN_take_le (L : List Fl) (k : Nat) : flN (L.take k) ≤ flN L := by
  unfold flN
  rw [List.map_take]
  have := List.take_append_drop k (L.map fun f => 1 + bkN f.blocks)
  conv => rhs; rw [← this, List.sum_append]
  omega
theorem bkN_le_fl (L : List Fl) (k : Nat) (h : k < L.length) : flN (L.take k) + 1 + bkN (L[k]'h).blocks ≤ flN L := by
  have h1 := flN_take L k h
  have h2 := flN_take_le L (k + 1)
  omega
theorem cnt_take (T : List UInt8) (i : Nat) (h : i < T.length) : (T.take (i + 1)).count 10 = (T.take i).count 10 + (if T[i]'h = 10 then 1 else 0) := by
  rw [List.take_succ_eq_append_getElem h, List.count_append, List.count_singleton]
  by_cases e : T[i]'h = 10
  · simp [e]
  · simp [e]
theorem un_lt {A : Nat → Prop} {w : World} {v : Value} {u : Un} (h : UnAt A w v u) : UnAt (fun b => b < w.heap.size) w v u := by
  obtain ⟨va, vf, rfl, ⟨h1, p, c, rfl, h3⟩, ⟨k1, q, d, rfl, k3⟩⟩ := h
  refine ⟨_, _, rfl, ⟨h1, p, c, rfl, fun i hi => ?_⟩, ⟨k1, q, d, rfl, fun i hi => ?_⟩⟩
  · obtain ⟨a, ea, _, c0⟩ := h3 i hi
    exact ⟨a, ea, by have := cell_lt c0.1; rwa [add_block] at this, c0⟩
  · obtain ⟨a, ea, _, c0, c1, c2, v, c3, c4⟩ := k3 i hi
    exact ⟨a, ea, by have := cell_lt c0; rwa [add_block] at this, c0, c1, c2, v, c3, bks_wide (fun b hb => hb.2) (bks_lt c4)⟩
structure PQ (wr : World) (u : Un) (g : Nat) (pa : Option Addr) (ca : Nat) (pf : Option Addr) (cf : Nat) : Prop where
  of ::
  box : wr.heap[g]? = some (.cells #[.slice pa u.arrays.length ca, .slice pf u.flows.length cf] 27 (0, 0))
  un : UnAt (fun _ => True) wr (.agg #[.slice pa u.arrays.length ca, .slice pf u.flows.length cf]) u
theorem PQ.lt {wr : World} {u : Un} {g ca cf : Nat} {pa pf : Option Addr} (h : PQ wr u g pa ca pf cf) : g < wr.heap.size := (Array.getElem?_eq_some_iff.1 h.box).1
theorem PQ.ext {wr w' : World} {u : Un} {g ca cf : Nat} {pa pf : Option Addr} (h : PQ wr u g pa ca pf cf) (b : Below wr.heap.size wr w') : PQ w' u g pa ca pf cf :=
  ⟨(b.block _ h.lt).trans h.box, h.un.ext b⟩
theorem byte_is (T : List UInt8) (j : Nat) (h : j < T.length) (p : j < (mk T).size) : (mk T)[j]'p = T[j]'h := by
  have h2 : j < T.toArray.size := by simpa using h
  show T.toArray[j]'h2 = _
  simp
set_option maxRecDepth 100000 in
set_option maxHeartbeats 16000000 in
theorem irlines_any (raw : List Bk) (hr : ∀ b ∈ raw, AllK b) (rv : Value) (w : World) (hrv : BksAt (fun b => b < w.heap.size) w rv raw) (hv : Env w) :
    Calls Tryd.prog 7 #[rv] w fun e w' => e = .returned (.bool true) ∧ Below w.heap.size w w' := by
  have HA := Lib.hid (awake_any w hv)
  have HF := Lib.hid (fun (w' : World) (g : Below w.heap.size w w') => lfit_any raw hr rv w' (bks_wide (fun b (hb : b < w.heap.size) => (by have := g.size; omega : b < w'.heap.size)) (bks_kept hrv (kept_below g))))
  have HV := Lib.hid hv
  have HPF := Lib.hid (pr_fit raw hr)
  have HUF := Lib.hid (un_fit raw)
  have HOK := Lib.hid (fit_ok raw)
  have HCN : Hid ((unT (fitU raw)).count 10 = (fitU raw).arrays.length + flN (fitU raw).flows) := Lib.hid (cnt_fit raw)
  have HEN := Lib.hid (fit_end raw)
  unfold FitAns at HF
  obtain ⟨pr, cr, hrs⟩ := row_slice hrv
  subst hrs
  clear hrv hv hr
  generalize fitU raw = u at *
  generalize raw.length = nr at *
  go_enter Tryd.func7, Tryd.ntmps7
  go_wp2_with fail
  refine (HA.out).mono ?_; rintro e w1 ⟨rfl, g1⟩
  have G1 := Lib.hid g1; clear g1
  go_wp2_with fail
  refine (HF.out _ G1.out).mono ?_; rintro e w2 ⟨⟨v, rfl, va, vf, rfl, ha, hf⟩, g2⟩
  have G2 : Hid (Below w.heap.size w w2) := Lib.hid (ext_trans G1.out g2)
  clear g2
  obtain ⟨pa, ca, hva⟩ := row_slice ha
  subst hva
  obtain ⟨pf, cf, hvf⟩ := row_slice hf
  subst hvf
  have HUN : Hid (UnAt (fun _ => True) w2 (.agg #[.slice pa u.arrays.length ca, .slice pf u.flows.length cf]) u) := Lib.hid ⟨_, _, rfl, ars_wideU (fun _ _ => trivial) ha, fls_wide (fun _ _ => trivial) hf⟩
  have hfc : FlsAt (fun _ => True) w2 (.slice pf u.flows.length cf) u.flows := fls_wide (fun _ _ => trivial) hf
  obtain ⟨_, _, _, hq, hfc⟩ := hfc
  injection hq with hq1 hq2 hq3
  subst hq1 hq3
  have HFC := Lib.hid hfc
  clear hfc ha hf hq2
  have HP0 : Hid (PQ (w2.alloc (.cells #[.slice pa u.arrays.length ca, .slice pf u.flows.length cf] 27)) u w2.heap.size pa ca pf cf) := Lib.hid ⟨heap_new _ _, HUN.out.ext (ext_alloc (Below.refl _ _) _)⟩
  have HPR := Lib.hid (print_all _ u _ (un_lt HP0.out.un) HUF.out HOK.out HPF.out ((HV.out.ext G2.out).ext (ext_alloc (Below.refl _ _) _)))
  obtain ⟨T, hT⟩ : ∃ T, unT u = T := ⟨_, rfl⟩
  have HLN := Lib.hid HPF.out.ln
  rw [hT] at HPR HCN HEN HLN
  clear hT
  go_wp2_with fail
  refine (HPR.out).mono ?_; rintro e w3 ⟨rfl, g3⟩
  have HP3 := Lib.hid (HP0.out.ext g3)
  have G3 : Hid (Below w2.heap.size w2 w3) := Lib.hid (ext_trans (ext_alloc (Below.refl _ _) _) g3)
  obtain ⟨c0, c1⟩ := two_cells HP3.out.box
  have hg3 := HP3.out.lt
  clear g3 HPR
  have HSM : Hid (u.arrays.length + flN u.flows ≤ 1000000) := Lib.hid (by rw [← HCN.out]; exact Nat.le_trans List.count_le_length HLN.out)
  have hna : u.arrays.length ≤ 1000000 := by have := HSM.out; omega
  have hnf : u.flows.length ≤ 1000000 := HUF.out.nm.2.1
  go_wp2_with fail
  go_loopw [7, 8] (fun av iv wr => ∃ i : Nat, iv = .int .i64 i ∧ i ≤ u.flows.length ∧ av = .int .i64 (u.arrays.length + flN (u.flows.take i) : Nat) ∧ PQ wr u w2.heap.size pa ca pf cf ∧ Below w2.heap.size w2 wr) (fun av iv wr => u.flows.length - slotN iv)
  case atStart => exact ⟨0, rfl, Nat.zero_le _, rfl, HP3.out, G3.out⟩
  case round =>
    obtain ⟨i, rfl, hi, rfl, hP, hbw⟩ := hrel
    have HP := Lib.hid hP
    have HBW := Lib.hid hbw
    obtain ⟨c0, c1⟩ := two_cells hP.box
    have hg := hP.lt
    clear hP hbw
    by_cases hil : i < u.flows.length
    · obtain ⟨ax, rfl, _, kx⟩ := HFC.out i hil
      have HKX := Lib.hid kx
      clear kx
      obtain ⟨nb, hnb⟩ : ∃ m : Nat, (u.flows[i]'hil).blocks.length = m := ⟨_, rfl⟩
      have HNB := Lib.hid hnb
      clear hnb
      have HQ : Hid (∀ w', Below w2.heap.size w2 w' → ∃ pb cb, w'.cell? ⟨(ax.add (i * 4)).block, (ax.add (i * 4)).off + 3, none⟩ = some (.slice pb nb cb) ∧ BksAt (fun _ => True) w' (.slice pb nb cb) (u.flows[i]'hil).blocks) := Lib.hid (fun w' g => by
        obtain ⟨v, _, _, _, q, hv⟩ := fl_get (fl_kept (w' := w') HKX.out trivial (kept_below g))
        obtain ⟨pb, cb, e⟩ := row_slice hv
        subst e
        rw [HNB.out] at q hv
        exact ⟨pb, cb, q, hv⟩)
      have HSQ : Hid (flN (u.flows.take (i + 1)) = flN (u.flows.take i) + (1 + bkN (u.flows[i]'hil).blocks)) := Lib.hid (flN_take _ _ hil)
      have HLE : Hid (flN (u.flows.take i) + 1 + bkN (u.flows[i]'hil).blocks ≤ flN u.flows) := Lib.hid (bkN_le_fl _ _ hil)
      have hb0 : u.arrays.length + flN (u.flows.take i) ≤ 1000000 := by have := HSM.out; have := HLE.out; omega
      obtain ⟨W0, hW0⟩ : ∃ m : Nat, u.arrays.length + flN (u.flows.take i) = m := ⟨_, rfl⟩
      have HW0 := Lib.hid hW0
      rw [hW0] at hb0 ⊢
      clear hW0
      have hnb6 : nb ≤ 1000000 := by have := HPF.out.bl _ (List.getElem_mem hil); rw [HNB.out] at this; exact this
      have hil2 : (i : Int) < u.flows.length := by omega
      go_upto_region 9 with (fail)
      go_wp2_with fail
      go_loopw [7, 9] (fun av kv wr => ∃ k : Nat, kv = .int .i64 k ∧ k ≤ nb ∧ av = .int .i64 (W0 + 1 + bkN ((u.flows[i]'hil).blocks.take k) : Nat) ∧ PQ wr u w2.heap.size pa ca (some ax) cf ∧ Below w2.heap.size w2 wr) (fun av kv wr => nb - slotN kv)
      case atStart => exact ⟨0, rfl, Nat.zero_le _, by go_num, HP.out, HBW.out⟩
      case round =>
        obtain ⟨k, rfl, hk, rfl, hP, hbw⟩ := hrel
        have HPk := Lib.hid hP
        have HBk := Lib.hid hbw
        clear c0 c1
        obtain ⟨c0, c1⟩ := two_cells hP.box
        have hgk := hP.lt
        clear hP hbw
        obtain ⟨pb, cb, q3, hvb⟩ := HQ.out _ HBk.out
        have hax : (ax.add (i * 4)).block < wr.heap.size := cell_lt (a := ⟨(ax.add (i * 4)).block, (ax.add (i * 4)).off + 3, none⟩) q3
        by_cases hkl : k < nb
        · have hkb : k < (u.flows[i]'hil).blocks.length := by rw [HNB.out]; exact hkl
          have hT1 := bkN_take _ _ hkb
          have hT2 := bkN_take_le (u.flows[i]'hil).blocks (k + 1)
          have hT3 : W0 + 1 + bkN ((u.flows[i]'hil).blocks.take k) + (2 + ((u.flows[i]'hil).blocks[k]'hkb).ins.length) ≤ 1000000 := by have := HSM.out; have := HLE.out; have := HW0.out; omega
          have HT1 := Lib.hid hT1
          obtain ⟨_, _, _, hq, hbc⟩ := hvb
          injection hq with hq1 hq2 hq3
          subst hq1 hq3
          obtain ⟨ay, hay, _, ky⟩ := hbc k hkb
          subst hay
          obtain ⟨vi, p0, p1, p2, p3, p4, hvi⟩ := bk_get ky
          obtain ⟨pi, ci, hvi2⟩ := row_slice hvi
          subst hvi2
          obtain ⟨mi, hmi⟩ : ∃ m : Nat, ((u.flows[i]'hil).blocks[k]'hkb).ins.length = m := ⟨_, rfl⟩
          rw [hmi] at p0 hT3 HT1
          obtain ⟨W1, hW1⟩ : ∃ m : Nat, W0 + 1 + bkN ((u.flows[i]'hil).blocks.take k) = m := ⟨_, rfl⟩
          have HW1 := Lib.hid hW1
          rw [hW1] at hT3 ⊢
          have hki : (k : Int) < nb := by omega
          clear hT1 hT2 hW1 hmi hvi hbc ky p1 p2 p3 p4 hq2
          go_wp2_with fail
          go_roundw
          case rel => exact ⟨k + 1, by go_num, by omega, by have := HW1.out; have := HT1.out; go_num, HPk.out, HBk.out⟩
          case measure => simp [slotN]; omega
        · obtain rfl : k = nb := by omega
          clear hvb
          go_wp2_with fail
          go_roundw
          case rel => exact ⟨i + 1, by go_num, by omega, by have := HSQ.out; have := HW0.out; rw [List.take_of_length_le (by rw [HNB.out]; exact Nat.le_refl _)]; go_num, HPk.out, HBk.out⟩
          case measure => simp [slotN]; omega
    · obtain rfl : i = u.flows.length := by omega
      have HWN : Hid (u.arrays.length + flN (u.flows.take u.flows.length) = T.count 10) := Lib.hid (by rw [List.take_length, HCN.out])
      obtain ⟨W0, hW0⟩ : ∃ m : Nat, u.arrays.length + flN (u.flows.take u.flows.length) = m := ⟨_, rfl⟩
      rw [hW0] at HWN ⊢
      clear hW0
      have hln := HLN.out
      have hz : (mk T).size = T.length := rfl
      go_wp2_with fail
      go_loopw [10, 11] (fun nv iv wr => ∃ i : Nat, iv = .int .i64 i ∧ i ≤ T.length ∧ nv = .int .i64 ((T.take i).count 10 : Nat) ∧ Below w2.heap.size w2 wr) (fun nv iv wr => T.length - slotN iv)
      case atStart => exact ⟨0, rfl, Nat.zero_le _, rfl, HBW.out⟩
      case round =>
        obtain ⟨j, rfl, hj, rfl, hbw⟩ := hrel
        have HBj := Lib.hid hbw
        clear hbw
        have hcl : (T.take j).count 10 ≤ 1000000 := Nat.le_trans List.count_le_length (by rw [List.length_take]; omega)
        by_cases hjl : j < T.length
        · have HCT := Lib.hid (cnt_take T j hjl)
          have hj2 : (j : Int) < T.length := by omega
          have HBY : Hid (∀ p : j < (mk T).size, ((mk T)[j]'p) = T[j]'hjl) := Lib.hid (fun p => byte_is T j hjl p)
          go_wp2_with fail
          focus
            rename_i hb
            have e10 : T[j]'hjl = 10 := by
              have h1 := eq_of_beq hb
              rw [HBY.out] at h1
              exact UInt8.toNat_inj.1 (by show (T[j]'hjl).toNat = 10; omega)
            rw [if_pos e10] at HCT
            clear e10 hb
            go_roundw
            case rel => exact ⟨j + 1, by go_num, by omega, by have := HCT.out; go_num, HBj.out⟩
            case measure => simp [slotN]; omega
          focus
            rename_i hb
            have e10 : ¬ T[j]'hjl = 10 := by
              intro e
              have h1 := ne_of_beq_false hb
              rw [HBY.out, e] at h1
              exact h1 rfl
            rw [if_neg e10] at HCT
            clear e10 hb
            go_roundw
            case rel => exact ⟨j + 1, by go_num, by omega, by have := HCT.out; go_num, HBj.out⟩
            case measure => simp [slotN]; omega
        · obtain rfl : j = T.length := by omega
          have hcw : ((T.count 10 : Nat) : Int) = (W0 : Int) := by rw [HWN.out]
          obtain ⟨t, ht⟩ := HEN.out
          have hlp : 0 < T.length := by rw [ht]; simp
          have hlp2 : (0 : Int) < T.length := by omega
          have hlast : T[T.length - 1]'(by omega) = 10 := by
            have : T[T.length - 1]? = some 10 := by rw [ht]; simp
            rw [List.getElem?_eq_getElem (by omega)] at this
            exact Option.some.inj this
          have HBY : Hid (∀ p : T.length - 1 < (mk T).size, (((mk T)[T.length - 1]'p).toNat : Int) = 10) := Lib.hid (fun p => by rw [byte_is T _ (by omega) p, hlast]; rfl)
          have hl1 : ((T.length - 1 : Nat) : Int) = (T.length : Int) - 1 := by omega
          clear hlast ht
          go_wp2_with fail
          go_ret
          exact ⟨by rw [HBY.out]; rfl, ext_trans G2.out HBj.out⟩
end Go.Proofs.YtafapkljlajflaaDoor
