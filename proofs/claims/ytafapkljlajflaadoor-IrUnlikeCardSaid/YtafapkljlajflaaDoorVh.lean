/- ir's text of a call; all kinds together. -/
import Derived.Test.YtafapkljlajflaaDoorRows
import Derived.WalkKit
import Derived.ProofKit
import Derived.OpenShut
import Derived.WalkLawsBesides
import Derived.WalkSpells
import Derived.Outline
import Derived.Handy
import Derived.Lib.Hide
import Derived.Lib.OthersKept
import Derived.KernelRfl
import Derived.Carry
import Derived.RegionTactic
import Derived.BigRegion
import Derived.OwnWalk
import Derived.Deep.Cut
import Derived.IntWalk
import Derived.Deep.QuietTactic
import Derived.BigQuiet
import Derived.Deep.RegionHeld3
import Derived.Test.YtafapkljlajflaaDoorVg
import Derived.Test.YtafapkljlajflaaDoorVd
import Derived.Test.YtafapkljlajflaaDoorVb
import Derived.Test.YtafapkljlajflaaDoorUk
import Derived.Test.YtafapkljlajflaaDoorShelfJ
namespace Go.Proofs.YtafapkljlajflaaDoor
open Go.ChangeShapes Go.WideShapes Go.ChangeAt Go.RowKit
set_option linter.unusedVariables false
def cellsS (t : List UInt8) : List Value := [.string (mk t)]
theorem lenS (x : List UInt8) : (cellsS x).length = 1 := rfl
theorem oneS (x : List UInt8) : ∀ u ∈ cellsS x, u.oneCell' = true := by
  intro u hu
  obtain rfl := List.mem_singleton.1 hu
  rfl
theorem join_vals : ∀ l : List Int, Lib.join (l.map valT) [44, 32] = joinV l
  | [] => rfl
  | [v] => by simp [Lib.join, joinV]
  | v :: w :: r => by
    have h := join_vals (w :: r)
    have e : joinV (v :: w :: r) = valT v ++ [44, 32] ++ joinV (w :: r) := rfl
    rw [e, ← h]
    simp [Lib.join, List.intercalate]
theorem joinV_le : ∀ l : List Int, (∀ a ∈ l, I64 a) → (joinV l).length ≤ 24 * l.length
  | [], _ => by simp [joinV]
  | [v], h => by
    have := valT_le (h v (by simp))
    simp only [joinV, List.length_cons, List.length_nil]
    omega
  | v :: w :: r, h => by
    have h1 := valT_le (h v (by simp))
    have h2 := joinV_le (w :: r) (fun a ha => h a (by simp [ha]))
    simp only [joinV, List.length_append, List.length_cons, List.length_nil] at h2 ⊢
    omega
theorem join_any (v : Value) (n : Nat) (l : List Int) (base : Nat) (w : World) (hl : n = l.length) (h6 : l.length ≤ 1000) (hI : ∀ a ∈ l, I64 a) (ho : w.ownsRow base 9 1 v n ((l.map valT).flatMap cellsS)) :
    Calls Tryd.prog 38 #[v, .string ⟨#[44, 32]⟩] w fun e w' => e = .returned (.string (mk (joinV l))) ∧ Below w.heap.size w w' := by
  subst hl
  have hjl := joinV_le l hI
  rcases ho.2 with ⟨rfl, h0⟩ | ⟨g, cap, cur, rfl, hb, hg, hle, _, hsz, ht⟩
  · have e0 : l = [] := List.eq_nil_of_length_eq_zero h0
    subst e0
    refine (Tryd.strings_Join_none none 0 ⟨#[44, 32]⟩ w).mono ?_
    rintro e w' ⟨rfl, rfl⟩
    exact ⟨rfl, Below.refl _ _⟩
  · have hlen : (l.map fun a => mk (valT a)).length = l.length := List.length_map _
    have hj : Lib.join ((l.map fun a => mk (valT a)).map (·.data.toList)) (⟨#[44, 32]⟩ : ByteArray).data.toList = joinV l := by
      rw [← join_vals, List.map_map]
      rfl
    have hc := Tryd.strings_Join g 0 cap (l.map fun a => mk (valT a)) ⟨#[44, 32]⟩ w (fun j x hx => by
      have hjl2 : j < l.length := by
        rcases Nat.lt_or_ge j l.length with h | h
        · exact h
        · rw [List.getElem?_eq_none (by rw [hlen]; exact h)] at hx; cases hx
      have h1 := (row_get (k := 1) lenS (by decide) ho).2
      obtain ⟨p, cap', hq, hcell⟩ := h1
      obtain ⟨g', hp, _, hgq, hcg⟩ := hcell j (by rw [List.length_map]; exact hjl2)
      injection hgq with hgq
      subst hgq
      have := hcg 0 (by decide)
      rw [Nat.mul_one, Nat.add_zero] at this
      rw [Nat.zero_add]
      refine this.trans ?_
      rw [List.getElem?_map, List.getElem?_eq_getElem hjl2] at hx
      simp only [Option.map_some] at hx
      injection hx with hx
      rw [List.getElem_map]
      show some (Value.string (mk (valT l[j]))) = _
      rw [hx]) (ho.lt g rfl).2 (by rw [hlen]; omega) (by rw [hlen]; exact hle) (by rw [hj]; omega)
    rw [hlen, hj] at hc
    exact hc
set_option maxRecDepth 100000 in
set_option maxHeartbeats 4000000 in
theorem itext_9 (x : Xn) (va : Value) (hk : x.kind = 9) (hx : AllN x) (hnm : x.name.length ≤ 100) (w : World) (hva : NumsAt (fun b => b < w.heap.size) w va x.args) (h6 : x.args.length ≤ 6) (hI : ∀ a ∈ x.args, I64 a) (hv : Env w) : Calls Tryd.prog 24 #[xnV x va] w fun e w' => e = .returned (.string (mk (insT x))) ∧ Below w.heap.size w w' := by
  obtain ⟨k, d, a, b, op, n, name, args⟩ := x
  simp only at hk hva h6 hI
  subst hk
  obtain ⟨x1, x2, x3, x4⟩ := hx
  have HV := Lib.hid hv
  have hnm : name.length ≤ 100 := hnm
  have HS : Hid (∀ w, Calls Tryd.prog 36 #[.int .i64 op] w fun e w' => e = .returned (.tuple #[.string (mk (signL op)), .bool (signB op)]) ∧ Below w.heap.size w w') := Lib.hid (fun w => by rw [← sgn_mk]; exact sign_any op w)
  have HD := Lib.hid (fun w hv => value_any d x1 w hv)
  have l1 := valT_le x1
  have lj := joinV_le args hI
  have HAI := Lib.hid hI
  have HJO := Lib.hid (fun v base w ho => join_any v args.length args base w rfl (by omega) hI ho)
  obtain ⟨pa, ca, hva2⟩ := row_slice hva
  subst hva2
  have HVA := Lib.hid hva
  have E : Hid (insT ⟨9, d, a, b, op, n, name, args⟩ = valT d ++ [32, 61, 32] ++ name ++ [40] ++ joinV args ++ [41]) := Lib.hid rfl
  generalize insT ⟨9, d, a, b, op, n, name, args⟩ = R at *
  generalize valT d = td at *
  generalize signL op = ts at *
  generalize signB op = sb at *
  obtain ⟨tj, htj⟩ : ∃ t, joinV args = t := ⟨_, rfl⟩
  rw [htj] at lj HJO E
  clear htj hva hI hv
  obtain ⟨na, hna⟩ : ∃ m : Nat, args.length = m := ⟨_, rfl⟩
  have HNA := Lib.hid hna
  rw [hna] at HVA HJO h6 lj
  clear hna
  obtain ⟨t1, ht1⟩ : ∃ x, x = td ++ [32, 61, 32] := ⟨_, rfl⟩
  obtain ⟨t2, ht2⟩ : ∃ x, x = t1 ++ name := ⟨_, rfl⟩
  obtain ⟨t3, ht3⟩ : ∃ x, x = t2 ++ [40] := ⟨_, rfl⟩
  obtain ⟨t4, ht4⟩ : ∃ x, x = t3 ++ tj := ⟨_, rfl⟩
  have hR : Hid (R = t4 ++ [41]) := Lib.hid (by rw [E.out, ht4, ht3, ht2, ht1])
  have e1 : mk td ++ (⟨#[32, 61, 32]⟩ : ByteArray) = mk t1 := by rw [ht1]; exact mk_app td [32, 61, 32]
  have e2 : mk t1 ++ mk name = mk t2 := by rw [ht2]; exact mk_app _ _
  have e3 : mk t2 ++ (⟨#[40]⟩ : ByteArray) = mk t3 := by rw [ht3]; exact mk_app t2 [40]
  have e4 : mk t3 ++ mk tj = mk t4 := by rw [ht4]; exact mk_app _ _
  have e5 : mk t4 ++ (⟨#[41]⟩ : ByteArray) = mk R := by rw [hR.out]; exact mk_app t4 [41]
  have m1 : t1.length ≤ 25 := by rw [ht1, List.length_append]; simp; omega
  have m2 : t2.length ≤ 125 := by rw [ht2, List.length_append]; omega
  have m3 : t3.length ≤ 126 := by rw [ht3, List.length_append]; simp; omega
  have m4 : t4.length ≤ 300 := by rw [ht4, List.length_append]; omega
  clear ht1 ht2 ht3 ht4
  have s3 : (⟨#[32, 61, 32]⟩ : ByteArray).size = 3 := rfl
  have s1 : (⟨#[40]⟩ : ByteArray).size = 1 := rfl
  have s1' : (⟨#[41]⟩ : ByteArray).size = 1 := rfl
  have z1 : (mk td).size = td.length := rfl
  have z2 : (mk t1).size = t1.length := rfl
  have z3 : (mk name).size = name.length := rfl
  have z4 : (mk t2).size = t2.length := rfl
  have z5 : (mk t3).size = t3.length := rfl
  have z6 : (mk tj).size = tj.length := rfl
  have z7 : (mk t4).size = t4.length := rfl
  have b1 : ¬ 9223372036854775807 < td.length + 3 := by omega
  have b2 : ¬ 9223372036854775807 < t1.length + name.length := by omega
  have b3 : ¬ 9223372036854775807 < t2.length + 1 := by omega
  have b4 : ¬ 9223372036854775807 < t3.length + tj.length := by omega
  have b5 : ¬ 9223372036854775807 < t4.length + 1 := by omega
  obtain ⟨w0, hw0⟩ : ∃ w0, w.alloc (.cells #[.int .i64 9, .int .i64 d, .int .i64 a, .int .i64 b, .int .i64 op, .int .i64 n, .string (mk name), .slice pa na ca] 36) = w0 := ⟨_, rfl⟩
  have HX : Hid (w0.heap[w.heap.size]? = some (.cells #[.int .i64 9, .int .i64 d, .int .i64 a, .int .i64 b, .int .i64 op, .int .i64 n, .string (mk name), .slice pa na ca] 36 (0, 0))) := Lib.hid (by rw [← hw0]; exact heap_new _ _)
  have HB0 : Hid (Below w.heap.size w w0) := Lib.hid (by rw [← hw0]; exact ext_alloc (Below.refl _ _) _)
  unfold xnV
  go_enter Tryd.func24, Tryd.ntmps24
  go_upto_region 1 with (fail)
  try rw [HNA.out]
  try rw [hw0]
  clear hw0
  obtain ⟨c0, c1, c2, c3, c4, c5, c6, c7⟩ := eight_cells' HX.out
  have hz : w.heap.size < w0.heap.size := (Array.getElem?_eq_some_iff.1 HX.out).1
  go_wp2_with fail
  refine (HS.out _).mono ?_; rintro e w1 ⟨rfl, g1⟩
  have HX1 := Lib.hid ((g1.block _ hz).trans HX.out)
  have HB1 := Lib.hid (ext_trans HB0.out g1)
  have hz1 : w.heap.size < w1.heap.size := by have := g1.size; omega
  clear g1 c0 c1 c2 c3 c4 c5 c6 c7
  obtain ⟨c0, c1, c2, c3, c4, c5, c6, c7⟩ := eight_cells' HX1.out
  go_wp2_with fail
  refine (HD.out _ (HV.out.ext HB1.out)).mono ?_; rintro e w2 ⟨rfl, g2⟩
  have HX2 := Lib.hid ((g2.block _ hz1).trans HX1.out)
  have HB2 := Lib.hid (ext_trans HB1.out g2)
  have hz2 : w.heap.size < w2.heap.size := by have := g2.size; omega
  clear g2 c0 c1 c2 c3 c4 c5 c6 c7
  obtain ⟨c0, c1, c2, c3, c4, c5, c6, c7⟩ := eight_cells' HX2.out
  go_wp2_with fail
  have HB2' := HB2
  go_loopw [6, 101] (fun av iv wr => ∃ j : Nat, iv = .int .i64 j ∧ j ≤ na ∧ wr.ownsRow w2.heap.size 9 1 av j (((args.take j).map valT).flatMap cellsS) ∧ Below w2.heap.size w2 wr) (fun av iv wr => na - slotN iv)
  case atStart => exact ⟨0, rfl, Nat.zero_le _, World.ownsRow_nil _ _ _ _, Below.refl _ _⟩
  case round =>
    obtain ⟨j, rfl, hj, hown, hbw⟩ := hrel
    have HO := Lib.hid hown
    have HBW := Lib.hid hbw
    have hsz := hbw.size
    obtain ⟨pv, cv, hvv⟩ := own_slice hown
    subst hvv
    have HX3 := Lib.hid ((hbw.block _ hz2).trans HX2.out)
    obtain ⟨c0, c1, c2, c3, c4, c5, c6, c7⟩ := eight_cells' HX3.out
    have hz3 : w.heap.size < wr.heap.size := by omega
    clear hown hbw
    by_cases h : j < na
    · have hja : j < args.length := by rw [HNA.out]; exact h
      obtain ⟨_, _, _, hq, hc⟩ := HVA.out
      obtain ⟨aa, haa, hab, ka⟩ := hc j hja
      injection hq with hq1 hq2 hq3
      subst hq1 hq3
      subst haa
      rw [Nat.mul_one] at ka
      have k0 : wr.cell? (aa.add j) = some (.int .i64 args[j]) := ((HB2.out.trans (HBW.out.mono (by have := HB2.out.size; omega))).cell (by rw [add_block]; exact hab)).trans ka
      have hl0 : (aa.add j).block < wr.heap.size := by rw [add_block]; have : aa.block < w.heap.size := hab; omega
      have hji : (j : Int) < na := by omega
      clear hc hq2 ka hab
      have HVL := Lib.hid (fun w' hv => value_any args[j] (HAI.out _ (List.getElem_mem hja)) w' hv)
      have HTK : Hid ((args.take (j + 1)).map valT = (args.take j).map valT ++ [valT args[j]]) := Lib.hid (by rw [List.take_succ_eq_append_getElem hja, List.map_append]; rfl)
      have HVE : Hid (Env wr) := Lib.hid ((HV.out.ext HB2.out).ext HBW.out)
      generalize valT args[j] = tv at *
      generalize args[j] = v at *
      go_wp2_with fail
      refine (HVL.out _ HVE.out).mono ?_; rintro e w5 ⟨rfl, g5⟩
      have HO5 := Lib.hid (own_ext HO.out g5)
      have G5 := Lib.hid (ext_trans HBW.out g5)
      have hs5 : wr.heap.size ≤ w5.heap.size := g5.size
      clear g5 c0 c1 c2 c3 c4 c5 c6 c7 k0
      go_wp2_with (at_builtin; refine app_at Tryd.underlying38 infoS rfl (by decide) (by decide) rfl _ _ rfl w2.heap.size _ j _ rfl (own_ext HO5.out (ext_alloc (Below.refl _ _) _)) w5.heap.size 1 (cellsS tv) rfl rfl (heap_new _ _) (oneS _) (j + 1) rfl (by omega) (by simp; omega) ?_; intro gN cN w6 hown6 hg6 _)
      have G6 : Hid (Below w2.heap.size w2 w6) := Lib.hid (below_grown (ext_alloc G5.out _) hg6 (by simp; omega) (fun k hk => (HO5.out.lt k hk).1))
      have HO6 : Hid (w6.ownsRow w2.heap.size 9 1 (.slice (some ⟨gN, 0, none⟩) (j + 1) cN) (j + 1) (((args.take (j + 1)).map valT).flatMap cellsS)) := Lib.hid (by
        rw [HTK.out, List.flatMap_append]
        simpa using hown6)
      clear hown6 hg6
      go_wp2_with fail
      go_roundw
      case rel => exact ⟨j + 1, by go_num, by omega, HO6.out, G6.out⟩
      case measure => simp [slotN]; omega
    · obtain rfl : j = na := by omega
      go_wp2_with fail
      have c6 : wr.drew.cell? ⟨w.heap.size, 6, none⟩ = some (.string (mk name)) := c6
      have hoj : wr.ownsRow w2.heap.size 9 1 (.slice pv j cv) j ((args.map valT).flatMap cellsS) := by
        have h1 := HO.out
        rw [List.take_of_length_le (by rw [HNA.out]; exact Nat.le_refl _)] at h1
        exact h1
      have gg : Below wr.heap.size wr wr.drew := ext_drew (Below.refl _ _)
      have HJ := Lib.hid (fun w' (g : Below wr.heap.size wr w') => HJO.out _ w2.heap.size w' (own_ext hoj g))
      go_region_held3 (fun w' => w'.cell? ⟨w.heap.size, 6, none⟩ = some (.string (mk name))) (exact c6) ((go_at_call 38; refine (HJ.out _ gg).mono ?_; rintro e w5 ⟨rfl, g5⟩; have c6 := (g5.cell (cell_lt c6)).trans c6; have gg := ext_trans gg g5))
      all_goals
        go_wp2_with fail
        go_ret
        exact ⟨rfl, ext_trans (ext_trans HB2.out HBW.out) gg⟩
/-- What Print asks of an instruction. -/
structure InsOk (x : Xn) : Prop where
  of ::
  lo : 1 ≤ x.kind
  hi : x.kind ≤ 9
  nums : AllN x
  nm : x.name.length ≤ 100
  ar : x.args.length ≤ 6
  an : ∀ a ∈ x.args, I64 a
theorem itext_any (x : Xn) (va : Value) (hx : InsOk x) (w : World) (hva : NumsAt (fun b => b < w.heap.size) w va x.args) (hv : Env w) : Calls Tryd.prog 24 #[xnV x va] w fun e w' => e = .returned (.string (mk (insT x))) ∧ Below w.heap.size w w' := by
  have h1 := hx.lo
  have h9 := hx.hi
  rcases (by omega : x.kind = 1 ∨ x.kind = 2 ∨ x.kind = 3 ∨ x.kind = 4 ∨ x.kind = 5 ∨ x.kind = 6 ∨ x.kind = 7 ∨ x.kind = 8 ∨ x.kind = 9) with h | h | h | h | h | h | h | h | h
  · exact itext_1 x va h hx.nums hx.nm w hv
  · exact itext_2 x va h hx.nums hx.nm w hv
  · exact itext_3 x va h hx.nums hx.nm w hv
  · exact itext_4 x va h hx.nums w hv
  · exact itext_5 x va h hx.nums hx.nm w hv
  · exact itext_6 x va h hx.nums hx.nm w hv
  · exact itext_7 x va h hx.nums hx.nm w hv
  · exact itext_8 x va h hx.nums hx.nm w hv
  · exact itext_9 x va h hx.nums hx.nm w hva hx.ar hx.an hv
structure TrmOk (t : Tm) : Prop where
  of ::
  lo : 1 ≤ t.kind
  hi : t.kind ≤ 4
  nums : AllT t
theorem ttext_any (t : Tm) (ht : TrmOk t) (w : World) (hv : Env w) : Calls Tryd.prog 25 #[tmV t] w fun e w' => e = .returned (.string (mk (trmT t))) ∧ Below w.heap.size w w' := by
  have h1 := ht.lo
  have h4 := ht.hi
  rcases (by omega : t.kind = 1 ∨ t.kind = 2 ∨ t.kind = 3 ∨ t.kind = 4) with h | h | h | h
  · exact ttext_1 t h ht.nums w hv
  · exact ttext_2 t h ht.nums w hv
  · exact ttext_3 t h ht.nums.2.1 w hv
  · exact ttext_4 t h ht.nums w hv
end Go.Proofs.YtafapkljlajflaaDoor
