/- ir: names taken down. -/
import Derived.Test.YtafapkljlajflaaDoorRows
import Derived.WalkKit
import Derived.ProofKit
import Derived.OpenShut
import Derived.WalkLawsBesides
import Derived.WalkSpells
import Derived.Outline
import Derived.Handy
import Derived.Lib.Hide
import Derived.Lib.OthersKept
import Derived.KernelRfl
import Derived.Carry
import Derived.RegionTactic
import Derived.BigRegion
import Derived.OwnWalk
import Derived.Deep.Cut
import Derived.IntWalk
import Derived.Deep.QuietTactic
import Derived.BigQuiet
import Derived.Deep.RegionHeld3
import Derived.Test.YtafapkljlajflaaDoorUu
import Derived.Test.YtafapkljlajflaaDoorUv0
namespace Go.Proofs.YtafapkljlajflaaDoor
open Go.ChangeShapes Go.WideShapes Go.ChangeAt Go.RowKit
set_option linter.unusedVariables false
/-- While names are taken down: B is where the call's own memory begins. -/
structure DI (w wr : World) (B b ba bf : Nat) (u : Un) (va vf : Value) (na nf : Nat) (FA FF : List UInt8 → Option Int) : Prop where
  of ::
  bx : wr.heap[b]? = some (.cells #[va, vf, .map (some ba), .map (some bf)] 78 (0, 0))
  ma : IMap wr ba na FA
  mf : IMap wr bf nf FF
  ar : ArsAt (fun k => k < B) wr va u.arrays
  fl : FlsAt (fun k => k < B) wr vf u.flows
  bl : Below B w wr
  hB : B ≤ w.heap.size
  ha : B ≤ ba
  hf : B ≤ bf
  n1 : ba ≠ bf
  n2 : b ≠ ba
  n3 : b ≠ bf
section
variable {w wr wx : World} {B b ba bf : Nat} {u : Un} {va vf : Value} {na nf : Nat} {FA FF : List UInt8 → Option Int}
theorem DI.ext (h : DI w wr B b ba bf u va vf na nf FA FF) (g : Below wr.heap.size wr wx) : DI w wx B b ba bf u va vf na nf FA FF :=
  ⟨(g.block b (Array.getElem?_eq_some_iff.1 h.bx).1).trans h.bx, h.ma.ext g, h.mf.ext g, ars_kept h.ar (kept_below g), fls_kept h.fl (kept_below g), h.bl.trans (g.mono (Nat.le_trans h.hB h.bl.size)), h.hB, h.ha, h.hf, h.n1, h.n2, h.n3⟩
theorem ars_wideT {A : Nat → Prop} {v : Value} {L : List Ar} (h : ArsAt A wr v L) : ArsAt (fun _ => True) wr v L := RowAt.wide (P := ArAt) (A := A) (B := fun _ => True) (fun _ _ => trivial) (fun h => h) h
theorem DI.ni (h : DI w wr B b ba bf u va vf na nf FA FF) : NI wr b u va vf ba na bf nf FA FF :=
  ⟨h.bx, h.ma, h.mf, ars_wideT h.ar, fls_wide (fun _ _ => trivial) h.fl⟩
theorem imap_kept {x n : Nat} {F : List UInt8 → Option Int} (h : IMap wr x n F) {r : Option Nat} (g : wr.grownBy wx r) (hr : r ≠ some x) : IMap wx x n F := h.same (g.block x h.lt (fun e => hr e.symm))
theorem DI.putA (h : DI w wr B b ba bf u va vf na nf FA FF) {n : Nat} {F : List UInt8 → Option Int} (hm : IMap wx ba n F) (g : wr.grownBy wx (some ba)) : DI w wx B b ba bf u va vf n nf F FF :=
  ⟨(g.block b (Array.getElem?_eq_some_iff.1 h.bx).1 (fun e => h.n2 (by injection e))).trans h.bx, hm, imap_kept h.mf g (fun e => h.n1 (Option.some.inj e)), ars_kept h.ar (kept_grown g (fun k hk hA => by injection hk with hk; have := h.ha; have : k < B := hA; omega)), fls_kept h.fl (kept_grown g (fun k hk hA => by injection hk with hk; have := h.ha; have : k < B := hA; omega)), below_grown h.bl g (Nat.le_trans h.hB h.bl.size) (fun k hk => by injection hk with hk; have := h.ha; omega), h.hB, h.ha, h.hf, h.n1, h.n2, h.n3⟩
theorem DI.putF (h : DI w wr B b ba bf u va vf na nf FA FF) {n : Nat} {F : List UInt8 → Option Int} (hm : IMap wx bf n F) (g : wr.grownBy wx (some bf)) : DI w wx B b ba bf u va vf na n FA F :=
  ⟨(g.block b (Array.getElem?_eq_some_iff.1 h.bx).1 (fun e => h.n3 (by injection e))).trans h.bx, imap_kept h.ma g (fun e => h.n1 (Option.some.inj e).symm), hm, ars_kept h.ar (kept_grown g (fun k hk hA => by injection hk with hk; have := h.hf; have : k < B := hA; omega)), fls_kept h.fl (kept_grown g (fun k hk hA => by injection hk with hk; have := h.hf; have : k < B := hA; omega)), below_grown h.bl g (Nat.le_trans h.hB h.bl.size) (fun k hk => by injection hk with hk; have := h.hf; omega), h.hB, h.ha, h.hf, h.n1, h.n2, h.n3⟩
theorem DI.to (h : DI w wr B b ba bf u va vf na nf FA FF) {F : List UInt8 → Option Int} (e : ∀ n, FF n = F n) : DI w wr B b ba bf u va vf na nf FA F :=
  ⟨h.bx, h.ma, h.mf.to e, h.ar, h.fl, h.bl, h.hB, h.ha, h.hf, h.n1, h.n2, h.n3⟩
end
/-- What there is when all names are taken down. -/
def DeclRes (w : World) (B b ba bf : Nat) (u : Un) (va vf : Value) (e : Ending) (w' : World) : Prop := e = .returned (.bool (declB u)) ∧ (declB u = true → ∃ na nf FA, DI w w' B b ba bf u va vf na nf FA (placeF u.flows) ∧ ∀ n, (FA n).isSome = arrHas u.arrays n)
theorem decl_false {w : World} {B b ba bf : Nat} {u : Un} {va vf : Value} {w' : World} (h : declB u = false) : DeclRes w B b ba bf u va vf (.returned (.bool false)) w' := ⟨by rw [h], fun k => by rw [h] at k; cases k⟩
theorem free_none (FA : List UInt8 → Option Int) (n : List UInt8) : freeB FA (fun _ => none) n = (nameC n && !(FA n).isSome) := by unfold freeB; simp
theorem ar_get {A : Nat → Prop} {w : World} {a : Addr} {x : Ar} (h : ArAt A w a x) : w.cell? a = some (.string (mk x.name)) ∧ w.cell? ⟨a.block, a.off + 1, none⟩ = some (.int .i64 x.size) := h
theorem fl_get {A : Nat → Prop} {w : World} {a : Addr} {x : Fl} (h : FlAt A w a x) : ∃ v, w.cell? a = some (.string (mk x.name)) ∧ w.cell? ⟨a.block, a.off + 1, none⟩ = some (.int .i64 x.params) ∧ w.cell? ⟨a.block, a.off + 2, none⟩ = some (.int .i64 x.values) ∧ w.cell? ⟨a.block, a.off + 3, none⟩ = some v ∧ BksAt A w v x.blocks := by
  obtain ⟨h0, h1, h2, v, h3, h4⟩ := h
  exact ⟨v, h0, h1, h2, h3, h4⟩
def NamesOk (u : Un) : Prop := u.arrays.length ≤ 1000000 ∧ u.flows.length ≤ 1000000 ∧ (∀ a ∈ u.arrays, a.name.length ≤ 140737488355328) ∧ ∀ f ∈ u.flows, f.name.length ≤ 140737488355328
set_option maxRecDepth 100000 in
set_option maxHeartbeats 16000000 in
theorem declare_any {w : World} {B b ba bf : Nat} {u : Un} {va vf : Value} (h : DI w w B b ba bf u va vf 0 0 (fun _ => none) (fun _ => none)) (hno : NamesOk u) :
    Calls Tryd.prog 29 #[.pointer (some ⟨b, 0, none⟩)] w fun e w' => DeclRes w B b ba bf u va vf e w' ∧ Below B w w' := by
  have HD0 := Lib.hid h
  obtain ⟨hn1, hn2, hn3, hn4⟩ := hno
  have HN3 := Lib.hid hn3
  have HN4 := Lib.hid hn4
  obtain ⟨hla, pa, capa, rfl, hac⟩ := h.ar
  obtain ⟨hlf, pf, capf, rfl, hfc⟩ := h.fl
  have HAC := Lib.hid hac
  have HFC := Lib.hid hfc
  obtain ⟨s0, s1, s2, s3⟩ := four_at' h.bx
  clear h hac hfc hn3 hn4
  go_enter Tryd.func29, Tryd.ntmps29
  go_wp2_with fail
  go_loopw [15] (fun iv wr => ∃ (j : Nat) (FA : List UInt8 → Option Int), iv = .int .i64 j ∧ j ≤ u.arrays.length ∧ DI w wr B b ba bf u (.slice pa u.arrays.length capa) (.slice pf u.flows.length capf) j 0 FA (fun _ => none) ∧ Hid (∀ n, (FA n).isSome = arrHas (u.arrays.take j) n) ∧ Hid (okA u.arrays j = true)) (fun iv wr => u.arrays.length - slotN iv)
  case atStart => exact ⟨0, _, rfl, Nat.zero_le _, HD0.out, Lib.hid (fun n => rfl), Lib.hid rfl⟩
  case round =>
    obtain ⟨j, FA, rfl, hj, hD, HFA, HOK⟩ := hrel
    have HD := Lib.hid hD
    obtain ⟨t0, t1, t2, t3⟩ := four_at' hD.bx
    have hbl : b < wr.heap.size := (Array.getElem?_eq_some_iff.1 hD.bx).1
    clear hD s0 s1 s2 s3
    by_cases hjl : j < u.arrays.length
    · obtain ⟨ax, rfl, hxb, kx⟩ := HAC.out j hjl
      have hB0 := HD.out.hB
      obtain ⟨q0, q1⟩ := ar_get (ar_kept (A := fun k => k < B) (w' := wr) kx (by rw [add_block]; exact hxb) (fun k hk _ => HD.out.bl.block k hk))
      have hax : (ax.add (j * 2)).block < wr.heap.size := cell_lt q0
      have hlm0 := HN3.out _ (List.getElem_mem hjl)
      have HST := Lib.hid (okA_step u.arrays j hjl HOK.out)
      have HFS : Hid (∀ n, arrHas (u.arrays.take (j + 1)) n = (arrHas (u.arrays.take j) n || decide ((u.arrays[j]'hjl).name = n))) := Lib.hid (fun n => by rw [List.take_succ_eq_append_getElem hjl, arrHas_snoc])
      clear kx
      generalize u.arrays[j]'hjl = x at *
      obtain ⟨nm, sz⟩ := x
      simp only at q0 q1 hlm0 HST HFS
      have hlm : nm.length ≤ maxLen := by unfold maxLen; omega
      have HFR := Lib.hid (fun (w' : World) (g : Below wr.heap.size wr w') => free_any (HD.out.ext g).ni nm hlm0)
      have HFB : Hid (freeB FA (fun _ => none) nm = (nameC nm && !arrHas (u.arrays.take j) nm)) := Lib.hid (by rw [free_none, HFA.out])
      have HSZ : Hid (sizB ⟨nm, sz⟩ = decide (1 ≤ sz ∧ sz ≤ 1048576)) := Lib.hid rfl
      generalize freeB FA (fun _ => none) nm = fB at *
      rcases (by cases fB; exact .inl rfl; exact .inr rfl : fB = false ∨ fB = true) with hb | hb
      · subst hb
        have HNO : Hid (declB u = false) := Lib.hid (okA_no (j := j + 1) (by rw [HST.out, ← HFB.out, Bool.and_false]))
        go_wp2_with fail
        refine (HFR.out _ (ext_alloc (Below.refl _ _) _)).mono ?_; rintro e w1 ⟨rfl, g1⟩
        have HD1 := Lib.hid ((HD.out.ext (ext_alloc (Below.refl _ _) _)).ext g1)
        clear g1
        go_wp2_with fail
        go_ret
        exact ⟨decl_false HNO.out, HD1.out.bl⟩
      · subst hb
        rcases (by omega : sz < 1 ∨ (1 ≤ sz ∧ 1048576 < sz) ∨ (1 ≤ sz ∧ sz ≤ 1048576)) with k | ⟨k1, k2⟩ | ⟨k1, k2⟩
        · have HNO : Hid (declB u = false) := Lib.hid (okA_no (j := j + 1) (by rw [HST.out, HSZ.out, decide_eq_false (by omega)]; rfl))
          go_wp2_with fail
          refine (HFR.out _ (ext_alloc (Below.refl _ _) _)).mono ?_; rintro e w1 ⟨rfl, g1⟩
          have HD1 := Lib.hid ((HD.out.ext (ext_alloc (Below.refl _ _) _)).ext g1)
          obtain ⟨z0, z1⟩ := two_cells ((g1.block wr.heap.size (by simp)).trans (heap_new _ _))
          clear g1
          go_wp2_with fail
          go_ret
          exact ⟨decl_false HNO.out, HD1.out.bl⟩
        · have HNO : Hid (declB u = false) := Lib.hid (okA_no (j := j + 1) (by rw [HST.out, HSZ.out, decide_eq_false (by omega)]; rfl))
          go_wp2_with fail
          refine (HFR.out _ (ext_alloc (Below.refl _ _) _)).mono ?_; rintro e w1 ⟨rfl, g1⟩
          have HD1 := Lib.hid ((HD.out.ext (ext_alloc (Below.refl _ _) _)).ext g1)
          obtain ⟨z0, z1⟩ := two_cells ((g1.block wr.heap.size (by simp)).trans (heap_new _ _))
          clear g1
          go_wp2_with fail
          go_ret
          exact ⟨decl_false HNO.out, HD1.out.bl⟩
        · have HYES : Hid (okA u.arrays (j + 1) = true) := Lib.hid (by rw [HST.out, HSZ.out, decide_eq_true ⟨k1, k2⟩, ← HFB.out]; rfl)
          go_wp2_with fail
          refine (HFR.out _ (ext_alloc (Below.refl _ _) _)).mono ?_; rintro e w1 ⟨rfl, g1⟩
          have HD1 := Lib.hid ((HD.out.ext (ext_alloc (Below.refl _ _) _)).ext g1)
          obtain ⟨z0, z1⟩ := two_cells ((g1.block wr.heap.size (by simp)).trans (heap_new _ _))
          obtain ⟨y0, y1, y2, y3⟩ := four_at' HD1.out.bx
          have hzz : wr.heap.size < w1.heap.size := by have := g1.size; simp at this; omega
          have hbl1 : b < w1.heap.size := by omega
          clear g1 t0 t1 t2 t3 q0 q1
          obtain ⟨w2, hr2, hm2, hg2⟩ := imap_put (HD1.out.ext (ext_drew (Below.refl _ _))).ma (by omega) nm hlm (j : Int) (by unfold I64; omega)
          have HD2 := Lib.hid ((HD1.out.ext (ext_drew (Below.refl _ _))).putA hm2 hg2)
          clear hm2 hg2
          go_wp2_with fail
          go_region
          go_wp2_with fail
          go_roundw
          case rel => exact ⟨j + 1, _, by go_num, by omega, HD2.out, Lib.hid (fun n => by
            rw [HFS.out]
            show (if n = nm then some (j : Int) else FA n).isSome = _
            by_cases e : n = nm
            · rw [if_pos e, decide_eq_true e.symm, Bool.or_true]; rfl
            · rw [if_neg e, HFA.out, decide_eq_false (fun k => e k.symm), Bool.or_false]), HYES⟩
          case measure => simp [slotN]; omega
    · obtain rfl : j = u.arrays.length := by omega
      rw [List.take_length] at HFA
      have HOK2 := Lib.hid (okA_all u.flows HOK.out)
      obtain ⟨wo, rfl⟩ : ∃ wo, wo = wr := ⟨_, rfl⟩
      clear hjl HOK
      go_wp2_with fail
      go_loopw [49] (fun iv wr => ∃ (j : Nat), iv = .int .i64 j ∧ j ≤ u.flows.length ∧ DI w wr B b ba bf u (.slice pa u.arrays.length capa) (.slice pf u.flows.length capf) u.arrays.length j FA (placeF (u.flows.take j)) ∧ Hid (okF u.arrays u.flows j = true)) (fun iv wr => u.flows.length - slotN iv)
      case atStart => exact ⟨0, rfl, Nat.zero_le _, HD.out.to (fun n => rfl), HOK2⟩
      case round =>
        obtain ⟨j, rfl, hj2, hD, HOK⟩ := hrel
        have HD3 := Lib.hid hD
        obtain ⟨t0, t1, t2, t3⟩ := four_at' hD.bx
        have hbl : b < wr.heap.size := (Array.getElem?_eq_some_iff.1 hD.bx).1
        clear hD
        by_cases hjl : j < u.flows.length
        · obtain ⟨ax, rfl, hxb, kx⟩ := HFC.out j hjl
          obtain ⟨vb, q0, q1, q2, q3, hvb⟩ := fl_get (fl_kept (A := fun k => k < B) (w' := wr) kx (by rw [add_block]; exact hxb) (fun k hk _ => HD3.out.bl.block k hk))
          obtain ⟨pb, cb, hvb2⟩ := row_slice hvb
          subst hvb2
          have hax : (ax.add (j * 4)).block < wr.heap.size := cell_lt q0
          have hlm0 := HN4.out _ (List.getElem_mem hjl)
          have HST := Lib.hid (okF_step u.arrays u.flows j hjl HOK.out)
          have HPS : Hid (flwHas (u.flows.take j) (u.flows[j]'hjl).name = false → ∀ n, placeF (u.flows.take (j + 1)) n = if n = (u.flows[j]'hjl).name then some (j : Int) else placeF (u.flows.take j) n) := Lib.hid (fun hh n => by
            rw [List.take_succ_eq_append_getElem hjl, placeF_snoc _ _ hh, List.length_take]
            have : min j u.flows.length = j := by omega
            rw [this])
          clear kx hvb
          generalize u.flows[j]'hjl = x at *
          obtain ⟨nm, xp, xv, xb⟩ := x
          simp only at q0 q1 q2 q3 hlm0 HST HPS
          obtain ⟨mb, hmb⟩ : ∃ m : Nat, xb.length = m := ⟨_, rfl⟩
          rw [hmb] at q3
          clear hmb
          have hlm : nm.length ≤ maxLen := by unfold maxLen; omega
          have HFR := Lib.hid (fun (w' : World) (g : Below wr.heap.size wr w') => free_any (HD3.out.ext g).ni nm hlm0)
          have HFB : Hid (freeB FA (placeF (u.flows.take j)) nm = (nameC nm && !arrHas u.arrays nm && !flwHas (u.flows.take j) nm)) := Lib.hid (by unfold freeB; rw [placeF_some, HFA.out])
          generalize hfB : freeB FA (placeF (u.flows.take j)) nm = fB at *
          clear hfB
          rcases (by cases fB; exact .inl rfl; exact .inr rfl : fB = false ∨ fB = true) with hb | hb
          · subst hb
            have HNO : Hid (declB u = false) := Lib.hid (okF_no (j := j + 1) (by rw [HST.out, ← HFB.out]))
            go_wp2_with fail
            refine (HFR.out _ (ext_alloc (Below.refl _ _) _)).mono ?_; rintro e w1 ⟨rfl, g1⟩
            have HD1 := Lib.hid ((HD3.out.ext (ext_alloc (Below.refl _ _) _)).ext g1)
            clear g1
            go_wp2_with fail
            go_ret
            exact ⟨decl_false HNO.out, HD1.out.bl⟩
          · subst hb
            have HYES : Hid (okF u.arrays u.flows (j + 1) = true) := Lib.hid (by rw [HST.out, ← HFB.out])
            have HNEW : Hid (flwHas (u.flows.take j) nm = false) := Lib.hid (by
              have := HFB.out
              cases hh : flwHas (u.flows.take j) nm with
              | false => rfl
              | true => rw [hh] at this; simp at this)
            have HPS2 := Lib.hid (HPS.out HNEW.out)
            go_wp2_with fail
            refine (HFR.out _ (ext_alloc (Below.refl _ _) _)).mono ?_; rintro e w1 ⟨rfl, g1⟩
            have HD1 := Lib.hid ((HD3.out.ext (ext_alloc (Below.refl _ _) _)).ext g1)
            obtain ⟨z0, z1, z2, z3⟩ := four_at' ((g1.block wr.heap.size (by simp)).trans (heap_new _ _))
            obtain ⟨y0, y1, y2, y3⟩ := four_at' HD1.out.bx
            have hzz : wr.heap.size < w1.heap.size := by have := g1.size; simp at this; omega
            have hbl1 : b < w1.heap.size := by omega
            clear g1 t0 t1 t2 t3 q0 q1 q2 q3
            obtain ⟨w2, hr2, hm2, hg2⟩ := imap_put (HD1.out.ext (ext_drew (Below.refl _ _))).mf (by omega) nm hlm (j : Int) (by unfold I64; omega)
            have HD2 := Lib.hid (((HD1.out.ext (ext_drew (Below.refl _ _))).putF hm2 hg2).to (F := placeF (u.flows.take (j + 1))) (fun n => (HPS2.out n).symm))
            clear hm2 hg2
            go_wp2_with fail
            go_region
            go_wp2_with fail
            go_roundw
            case rel => exact ⟨j + 1, by go_num, by omega, HD2.out, HYES⟩
            case measure => simp [slotN]; omega
        · obtain rfl : j = u.flows.length := by omega
          rw [List.take_length] at HD3
          have hml : mainN.length ≤ maxLen := by unfold maxLen mainN; decide
          have HDE : Hid (declB u = (flwHas u.flows mainN && decide (((u.flows[plcOf u.flows mainN]?).map (·.params)).getD 0 ≤ 0))) := Lib.hid (by rw [declB_eq, HOK.out]; rfl)
          cases hm : flwHas u.flows mainN with
          | false =>
            have e1 : (placeF u.flows mainN).getD 0 = 0 := by unfold placeF; rw [hm]; rfl
            have e2 : (placeF u.flows mainN).isSome = false := by rw [placeF_some, hm]
            have HNO : Hid (declB u = false) := Lib.hid (by rw [HDE.out, hm]; rfl)
            clear hm
            go_wp2_with (at_lookup; refine wp_look_ok bf u.flows.length (placeF u.flows) HD3.out.mf mainN hml rfl _ _ rfl rfl rfl ?_)
            go_ret
            exact ⟨decl_false HNO.out, HD3.out.bl⟩
          | true =>
            have hpl := plc_lt hm
            have e1 : (placeF u.flows mainN).getD 0 = (plcOf u.flows mainN : Int) := by unfold placeF; rw [if_pos hm]; rfl
            have e2 : (placeF u.flows mainN).isSome = true := by rw [placeF_some, hm]
            have HD9 : Hid (declB u = decide ((u.flows[plcOf u.flows mainN]'hpl).params ≤ 0)) := Lib.hid (by rw [HDE.out, hm, List.getElem?_eq_getElem hpl]; rfl)
            obtain ⟨ax, rfl, hxb, kx⟩ := HFC.out _ hpl
            obtain ⟨vb, q0, q1, q2, q3, hvb⟩ := fl_get (fl_kept (A := fun k => k < B) (w' := wr) kx (by rw [add_block]; exact hxb) (fun k hk _ => HD3.out.bl.block k hk))
            have hax : (ax.add (plcOf u.flows mainN * 4)).block < wr.heap.size := cell_lt q0
            clear kx hvb q0 q2 q3 hm HDE
            generalize (u.flows[plcOf u.flows mainN]'hpl).params = q at *
            generalize plcOf u.flows mainN = i at *
            have hil : (i : Int) < (u.flows.length : Int) := by omega
            have hi0 : (0 : Int) ≤ (i : Int) := by omega
            go_wp2_with (at_lookup; refine wp_look_ok bf u.flows.length (placeF u.flows) HD3.out.mf mainN hml rfl _ _ rfl rfl rfl ?_)
            go_ret
            exact ⟨⟨by rw [HD9.out]; rfl, fun _ => ⟨_, _, FA, HD3.out, HFA.out⟩⟩, HD3.out.bl⟩
end Go.Proofs.YtafapkljlajflaaDoor
