/- ir's texts of parts: the other kinds. -/
import Derived.Test.YtafapkljlajflaaDoorRows
import Derived.WalkKit
import Derived.ProofKit
import Derived.OpenShut
import Derived.WalkLawsBesides
import Derived.WalkSpells
import Derived.Outline
import Derived.Handy
import Derived.Lib.Hide
import Derived.Lib.OthersKept
import Derived.KernelRfl
import Derived.Carry
import Derived.RegionTactic
import Derived.BigRegion
import Derived.OwnWalk
import Derived.Deep.Cut
import Derived.IntWalk
import Derived.Deep.QuietTactic
import Derived.BigQuiet
import Derived.Deep.RegionHeld3
import Derived.Test.YtafapkljlajflaaDoorUz
import Derived.Test.YtafapkljlajflaaDoorShelfJ
namespace Go.Proofs.YtafapkljlajflaaDoor
open Go.ChangeShapes Go.WideShapes Go.ChangeAt Go.RowKit
set_option linter.unusedVariables false
set_option maxRecDepth 100000 in
set_option maxHeartbeats 4000000 in
theorem itext_1 (x : Xn) (va : Value) (hk : x.kind = 1) (hx : AllN x) (hnm : x.name.length ≤ 100) (w : World) (hv : Env w) : Calls Tryd.prog 24 #[xnV x va] w fun e w' => e = .returned (.string (mk (insT x))) ∧ Below w.heap.size w w' := by
  obtain ⟨k, d, a, b, op, n, name, args⟩ := x
  simp only at hk
  subst hk
  obtain ⟨x1, x2, x3, x4⟩ := hx
  have HV := Lib.hid hv
  have hnm : name.length ≤ 100 := hnm
  have HS : Hid (∀ w, Calls Tryd.prog 36 #[.int .i64 op] w fun e w' => e = .returned (.tuple #[.string (mk (signL op)), .bool (signB op)]) ∧ Below w.heap.size w w') := Lib.hid (fun w => by rw [← sgn_mk]; exact sign_any op w)
  have HD := Lib.hid (fun w hv => value_any d x1 w hv)
  have HA := Lib.hid (fun w hv => value_any a x2 w hv)
  have HB := Lib.hid (fun w hv => value_any b x3 w hv)
  have HI := Lib.hid (fun w hv => itoa_any n x4 w hv)
  have l1 := valT_le x1
  have l2 := valT_le x2
  have l3 := valT_le x3
  have l5 := itoa_le x4
  have l4 := signL_le op
  have E : Hid (insT ⟨1, d, a, b, op, n, name, args⟩ = valT d ++ [32, 61, 32] ++ Lib.itoa n) := Lib.hid rfl
  generalize insT ⟨1, d, a, b, op, n, name, args⟩ = R at *
  generalize valT d = td at *
  generalize valT a = ta at *
  generalize valT b = tb at *
  generalize signL op = ts at *
  generalize signB op = sb at *
  generalize Lib.itoa n = ti at *
  have z_td : (mk td).size = td.length := rfl
  have s2 : (⟨#[32, 61, 32]⟩ : ByteArray).size = 3 := rfl
  have z_ti : (mk ti).size = ti.length := rfl
  obtain ⟨t1, ht1⟩ : ∃ x, x = td ++ [32, 61, 32] := ⟨_, rfl⟩
  have hR : Hid (R = t1 ++ ti) := Lib.hid (by rw [E.out, ht1])
  have e1 : mk td ++ (⟨#[32, 61, 32]⟩ : ByteArray) = mk t1 := by rw [ht1]; exact mk_app td [32, 61, 32]
  have b1 : ¬ 9223372036854775807 < td.length + 3 := by omega
  have m1 : t1.length ≤ 25 := by rw [ht1, List.length_append]; simp; omega
  have z_t1 : (mk t1).size = t1.length := rfl
  have e2 : mk t1 ++ mk ti = mk R := by rw [hR.out]; exact mk_app t1 ti
  have b2 : ¬ 9223372036854775807 < t1.length + ti.length := by omega
  clear ht1
  clear hv
  obtain ⟨w0, hw0⟩ : ∃ w0, w.alloc (.cells #[.int .i64 1, .int .i64 d, .int .i64 a, .int .i64 b, .int .i64 op, .int .i64 n, .string (mk name), va] 36) = w0 := ⟨_, rfl⟩
  have HX : Hid (w0.heap[w.heap.size]? = some (.cells #[.int .i64 1, .int .i64 d, .int .i64 a, .int .i64 b, .int .i64 op, .int .i64 n, .string (mk name), va] 36 (0, 0))) := Lib.hid (by rw [← hw0]; exact heap_new _ _)
  have HB0 : Hid (Below w.heap.size w w0) := Lib.hid (by rw [← hw0]; exact ext_alloc (Below.refl _ _) _)
  unfold xnV
  go_enter Tryd.func24, Tryd.ntmps24
  go_upto_region 1 with (fail)
  try rw [hw0]
  clear hw0
  obtain ⟨c0, c1, c2, c3, c4, c5, c6, c7⟩ := eight_cells' HX.out
  have hz : w.heap.size < w0.heap.size := (Array.getElem?_eq_some_iff.1 HX.out).1
  go_wp2_with fail
  refine (HS.out _).mono ?_; rintro e w1 ⟨rfl, g1⟩
  have HX1 := Lib.hid ((g1.block _ hz).trans HX.out)
  have HB1 := Lib.hid (ext_trans HB0.out g1)
  have hz1 : w.heap.size < w1.heap.size := by have := g1.size; omega
  clear g1 c0 c1 c2 c3 c4 c5 c6 c7
  obtain ⟨c0, c1, c2, c3, c4, c5, c6, c7⟩ := eight_cells' HX1.out
  go_wp2_with fail
  refine (HD.out _ (HV.out.ext HB1.out)).mono ?_; rintro e w2 ⟨rfl, g2⟩
  have HX2 := Lib.hid ((g2.block _ hz1).trans HX1.out)
  have HB2 := Lib.hid (ext_trans HB1.out g2)
  have hz2 : w.heap.size < w2.heap.size := by have := g2.size; omega
  clear g2 c0 c1 c2 c3 c4 c5 c6 c7
  obtain ⟨c0, c1, c2, c3, c4, c5, c6, c7⟩ := eight_cells' HX2.out
  go_wp2_with fail
  refine (HI.out _ (HV.out.ext HB2.out)).mono ?_; rintro e w5 ⟨rfl, g5⟩
  have G5 := Lib.hid (ext_trans HB2.out g5)
  clear g5
  go_wp2_with fail
  go_ret
  exact ⟨rfl, G5.out⟩
set_option maxRecDepth 100000 in
set_option maxHeartbeats 4000000 in
theorem itext_2 (x : Xn) (va : Value) (hk : x.kind = 2) (hx : AllN x) (hnm : x.name.length ≤ 100) (w : World) (hv : Env w) : Calls Tryd.prog 24 #[xnV x va] w fun e w' => e = .returned (.string (mk (insT x))) ∧ Below w.heap.size w w' := by
  obtain ⟨k, d, a, b, op, n, name, args⟩ := x
  simp only at hk
  subst hk
  obtain ⟨x1, x2, x3, x4⟩ := hx
  have HV := Lib.hid hv
  have hnm : name.length ≤ 100 := hnm
  have HS : Hid (∀ w, Calls Tryd.prog 36 #[.int .i64 op] w fun e w' => e = .returned (.tuple #[.string (mk (signL op)), .bool (signB op)]) ∧ Below w.heap.size w w') := Lib.hid (fun w => by rw [← sgn_mk]; exact sign_any op w)
  have HD := Lib.hid (fun w hv => value_any d x1 w hv)
  have HA := Lib.hid (fun w hv => value_any a x2 w hv)
  have HB := Lib.hid (fun w hv => value_any b x3 w hv)
  have HI := Lib.hid (fun w hv => itoa_any n x4 w hv)
  have l1 := valT_le x1
  have l2 := valT_le x2
  have l3 := valT_le x3
  have l5 := itoa_le x4
  have l4 := signL_le op
  have E : Hid (insT ⟨2, d, a, b, op, n, name, args⟩ = valT d ++ [32, 61, 32] ++ valT a) := Lib.hid rfl
  generalize insT ⟨2, d, a, b, op, n, name, args⟩ = R at *
  generalize valT d = td at *
  generalize valT a = ta at *
  generalize valT b = tb at *
  generalize signL op = ts at *
  generalize signB op = sb at *
  generalize Lib.itoa n = ti at *
  have z_td : (mk td).size = td.length := rfl
  have s2 : (⟨#[32, 61, 32]⟩ : ByteArray).size = 3 := rfl
  have z_ta : (mk ta).size = ta.length := rfl
  obtain ⟨t1, ht1⟩ : ∃ x, x = td ++ [32, 61, 32] := ⟨_, rfl⟩
  have hR : Hid (R = t1 ++ ta) := Lib.hid (by rw [E.out, ht1])
  have e1 : mk td ++ (⟨#[32, 61, 32]⟩ : ByteArray) = mk t1 := by rw [ht1]; exact mk_app td [32, 61, 32]
  have b1 : ¬ 9223372036854775807 < td.length + 3 := by omega
  have m1 : t1.length ≤ 25 := by rw [ht1, List.length_append]; simp; omega
  have z_t1 : (mk t1).size = t1.length := rfl
  have e2 : mk t1 ++ mk ta = mk R := by rw [hR.out]; exact mk_app t1 ta
  have b2 : ¬ 9223372036854775807 < t1.length + ta.length := by omega
  clear ht1
  clear hv
  obtain ⟨w0, hw0⟩ : ∃ w0, w.alloc (.cells #[.int .i64 2, .int .i64 d, .int .i64 a, .int .i64 b, .int .i64 op, .int .i64 n, .string (mk name), va] 36) = w0 := ⟨_, rfl⟩
  have HX : Hid (w0.heap[w.heap.size]? = some (.cells #[.int .i64 2, .int .i64 d, .int .i64 a, .int .i64 b, .int .i64 op, .int .i64 n, .string (mk name), va] 36 (0, 0))) := Lib.hid (by rw [← hw0]; exact heap_new _ _)
  have HB0 : Hid (Below w.heap.size w w0) := Lib.hid (by rw [← hw0]; exact ext_alloc (Below.refl _ _) _)
  unfold xnV
  go_enter Tryd.func24, Tryd.ntmps24
  go_upto_region 1 with (fail)
  try rw [hw0]
  clear hw0
  obtain ⟨c0, c1, c2, c3, c4, c5, c6, c7⟩ := eight_cells' HX.out
  have hz : w.heap.size < w0.heap.size := (Array.getElem?_eq_some_iff.1 HX.out).1
  go_wp2_with fail
  refine (HS.out _).mono ?_; rintro e w1 ⟨rfl, g1⟩
  have HX1 := Lib.hid ((g1.block _ hz).trans HX.out)
  have HB1 := Lib.hid (ext_trans HB0.out g1)
  have hz1 : w.heap.size < w1.heap.size := by have := g1.size; omega
  clear g1 c0 c1 c2 c3 c4 c5 c6 c7
  obtain ⟨c0, c1, c2, c3, c4, c5, c6, c7⟩ := eight_cells' HX1.out
  go_wp2_with fail
  refine (HD.out _ (HV.out.ext HB1.out)).mono ?_; rintro e w2 ⟨rfl, g2⟩
  have HX2 := Lib.hid ((g2.block _ hz1).trans HX1.out)
  have HB2 := Lib.hid (ext_trans HB1.out g2)
  have hz2 : w.heap.size < w2.heap.size := by have := g2.size; omega
  clear g2 c0 c1 c2 c3 c4 c5 c6 c7
  obtain ⟨c0, c1, c2, c3, c4, c5, c6, c7⟩ := eight_cells' HX2.out
  go_wp2_with fail
  refine (HA.out _ (HV.out.ext HB2.out)).mono ?_; rintro e w5 ⟨rfl, g5⟩
  have G5 := Lib.hid (ext_trans HB2.out g5)
  clear g5
  go_wp2_with fail
  go_ret
  exact ⟨rfl, G5.out⟩
set_option maxRecDepth 100000 in
set_option maxHeartbeats 4000000 in
theorem itext_3 (x : Xn) (va : Value) (hk : x.kind = 3) (hx : AllN x) (hnm : x.name.length ≤ 100) (w : World) (hv : Env w) : Calls Tryd.prog 24 #[xnV x va] w fun e w' => e = .returned (.string (mk (insT x))) ∧ Below w.heap.size w w' := by
  obtain ⟨k, d, a, b, op, n, name, args⟩ := x
  simp only at hk
  subst hk
  obtain ⟨x1, x2, x3, x4⟩ := hx
  have HV := Lib.hid hv
  have hnm : name.length ≤ 100 := hnm
  have HS : Hid (∀ w, Calls Tryd.prog 36 #[.int .i64 op] w fun e w' => e = .returned (.tuple #[.string (mk (signL op)), .bool (signB op)]) ∧ Below w.heap.size w w') := Lib.hid (fun w => by rw [← sgn_mk]; exact sign_any op w)
  have HD := Lib.hid (fun w hv => value_any d x1 w hv)
  have HA := Lib.hid (fun w hv => value_any a x2 w hv)
  have HB := Lib.hid (fun w hv => value_any b x3 w hv)
  have HI := Lib.hid (fun w hv => itoa_any n x4 w hv)
  have l1 := valT_le x1
  have l2 := valT_le x2
  have l3 := valT_le x3
  have l5 := itoa_le x4
  have l4 := signL_le op
  have E : Hid (insT ⟨3, d, a, b, op, n, name, args⟩ = valT d ++ [32, 61, 32] ++ signL op ++ [32] ++ valT a) := Lib.hid rfl
  generalize insT ⟨3, d, a, b, op, n, name, args⟩ = R at *
  generalize valT d = td at *
  generalize valT a = ta at *
  generalize valT b = tb at *
  generalize signL op = ts at *
  generalize signB op = sb at *
  generalize Lib.itoa n = ti at *
  have z_td : (mk td).size = td.length := rfl
  have s2 : (⟨#[32, 61, 32]⟩ : ByteArray).size = 3 := rfl
  have z_ts : (mk ts).size = ts.length := rfl
  have s4 : (⟨#[32]⟩ : ByteArray).size = 1 := rfl
  have z_ta : (mk ta).size = ta.length := rfl
  obtain ⟨t1, ht1⟩ : ∃ x, x = td ++ [32, 61, 32] := ⟨_, rfl⟩
  obtain ⟨t2, ht2⟩ : ∃ x, x = t1 ++ ts := ⟨_, rfl⟩
  obtain ⟨t3, ht3⟩ : ∃ x, x = t2 ++ [32] := ⟨_, rfl⟩
  have hR : Hid (R = t3 ++ ta) := Lib.hid (by rw [E.out, ht3, ht2, ht1])
  have e1 : mk td ++ (⟨#[32, 61, 32]⟩ : ByteArray) = mk t1 := by rw [ht1]; exact mk_app td [32, 61, 32]
  have b1 : ¬ 9223372036854775807 < td.length + 3 := by omega
  have m1 : t1.length ≤ 25 := by rw [ht1, List.length_append]; simp; omega
  have z_t1 : (mk t1).size = t1.length := rfl
  have e2 : mk t1 ++ mk ts = mk t2 := by rw [ht2]; exact mk_app t1 ts
  have b2 : ¬ 9223372036854775807 < t1.length + ts.length := by omega
  have m2 : t2.length ≤ 27 := by rw [ht2, List.length_append]; omega
  have z_t2 : (mk t2).size = t2.length := rfl
  have e3 : mk t2 ++ (⟨#[32]⟩ : ByteArray) = mk t3 := by rw [ht3]; exact mk_app t2 [32]
  have b3 : ¬ 9223372036854775807 < t2.length + 1 := by omega
  have m3 : t3.length ≤ 28 := by rw [ht3, List.length_append]; simp; omega
  have z_t3 : (mk t3).size = t3.length := rfl
  have e4 : mk t3 ++ mk ta = mk R := by rw [hR.out]; exact mk_app t3 ta
  have b4 : ¬ 9223372036854775807 < t3.length + ta.length := by omega
  clear ht1 ht2 ht3
  clear hv
  obtain ⟨w0, hw0⟩ : ∃ w0, w.alloc (.cells #[.int .i64 3, .int .i64 d, .int .i64 a, .int .i64 b, .int .i64 op, .int .i64 n, .string (mk name), va] 36) = w0 := ⟨_, rfl⟩
  have HX : Hid (w0.heap[w.heap.size]? = some (.cells #[.int .i64 3, .int .i64 d, .int .i64 a, .int .i64 b, .int .i64 op, .int .i64 n, .string (mk name), va] 36 (0, 0))) := Lib.hid (by rw [← hw0]; exact heap_new _ _)
  have HB0 : Hid (Below w.heap.size w w0) := Lib.hid (by rw [← hw0]; exact ext_alloc (Below.refl _ _) _)
  unfold xnV
  go_enter Tryd.func24, Tryd.ntmps24
  go_upto_region 1 with (fail)
  try rw [hw0]
  clear hw0
  obtain ⟨c0, c1, c2, c3, c4, c5, c6, c7⟩ := eight_cells' HX.out
  have hz : w.heap.size < w0.heap.size := (Array.getElem?_eq_some_iff.1 HX.out).1
  go_wp2_with fail
  refine (HS.out _).mono ?_; rintro e w1 ⟨rfl, g1⟩
  have HX1 := Lib.hid ((g1.block _ hz).trans HX.out)
  have HB1 := Lib.hid (ext_trans HB0.out g1)
  have hz1 : w.heap.size < w1.heap.size := by have := g1.size; omega
  clear g1 c0 c1 c2 c3 c4 c5 c6 c7
  obtain ⟨c0, c1, c2, c3, c4, c5, c6, c7⟩ := eight_cells' HX1.out
  go_wp2_with fail
  refine (HD.out _ (HV.out.ext HB1.out)).mono ?_; rintro e w2 ⟨rfl, g2⟩
  have HX2 := Lib.hid ((g2.block _ hz1).trans HX1.out)
  have HB2 := Lib.hid (ext_trans HB1.out g2)
  have hz2 : w.heap.size < w2.heap.size := by have := g2.size; omega
  clear g2 c0 c1 c2 c3 c4 c5 c6 c7
  obtain ⟨c0, c1, c2, c3, c4, c5, c6, c7⟩ := eight_cells' HX2.out
  go_wp2_with fail
  refine (HA.out _ (HV.out.ext HB2.out)).mono ?_; rintro e w5 ⟨rfl, g5⟩
  have G5 := Lib.hid (ext_trans HB2.out g5)
  clear g5
  go_wp2_with fail
  go_ret
  exact ⟨rfl, G5.out⟩
set_option maxRecDepth 100000 in
set_option maxHeartbeats 4000000 in
theorem itext_5 (x : Xn) (va : Value) (hk : x.kind = 5) (hx : AllN x) (hnm : x.name.length ≤ 100) (w : World) (hv : Env w) : Calls Tryd.prog 24 #[xnV x va] w fun e w' => e = .returned (.string (mk (insT x))) ∧ Below w.heap.size w w' := by
  obtain ⟨k, d, a, b, op, n, name, args⟩ := x
  simp only at hk
  subst hk
  obtain ⟨x1, x2, x3, x4⟩ := hx
  have HV := Lib.hid hv
  have hnm : name.length ≤ 100 := hnm
  have HS : Hid (∀ w, Calls Tryd.prog 36 #[.int .i64 op] w fun e w' => e = .returned (.tuple #[.string (mk (signL op)), .bool (signB op)]) ∧ Below w.heap.size w w') := Lib.hid (fun w => by rw [← sgn_mk]; exact sign_any op w)
  have HD := Lib.hid (fun w hv => value_any d x1 w hv)
  have HA := Lib.hid (fun w hv => value_any a x2 w hv)
  have HB := Lib.hid (fun w hv => value_any b x3 w hv)
  have HI := Lib.hid (fun w hv => itoa_any n x4 w hv)
  have l1 := valT_le x1
  have l2 := valT_le x2
  have l3 := valT_le x3
  have l5 := itoa_le x4
  have l4 := signL_le op
  have E : Hid (insT ⟨5, d, a, b, op, n, name, args⟩ = valT d ++ [32, 61, 32] ++ name ++ [91] ++ valT a ++ [93]) := Lib.hid rfl
  generalize insT ⟨5, d, a, b, op, n, name, args⟩ = R at *
  generalize valT d = td at *
  generalize valT a = ta at *
  generalize valT b = tb at *
  generalize signL op = ts at *
  generalize signB op = sb at *
  generalize Lib.itoa n = ti at *
  have z_td : (mk td).size = td.length := rfl
  have s2 : (⟨#[32, 61, 32]⟩ : ByteArray).size = 3 := rfl
  have z_name : (mk name).size = name.length := rfl
  have s4 : (⟨#[91]⟩ : ByteArray).size = 1 := rfl
  have z_ta : (mk ta).size = ta.length := rfl
  have s6 : (⟨#[93]⟩ : ByteArray).size = 1 := rfl
  obtain ⟨t1, ht1⟩ : ∃ x, x = td ++ [32, 61, 32] := ⟨_, rfl⟩
  obtain ⟨t2, ht2⟩ : ∃ x, x = t1 ++ name := ⟨_, rfl⟩
  obtain ⟨t3, ht3⟩ : ∃ x, x = t2 ++ [91] := ⟨_, rfl⟩
  obtain ⟨t4, ht4⟩ : ∃ x, x = t3 ++ ta := ⟨_, rfl⟩
  have hR : Hid (R = t4 ++ [93]) := Lib.hid (by rw [E.out, ht4, ht3, ht2, ht1])
  have e1 : mk td ++ (⟨#[32, 61, 32]⟩ : ByteArray) = mk t1 := by rw [ht1]; exact mk_app td [32, 61, 32]
  have b1 : ¬ 9223372036854775807 < td.length + 3 := by omega
  have m1 : t1.length ≤ 25 := by rw [ht1, List.length_append]; simp; omega
  have z_t1 : (mk t1).size = t1.length := rfl
  have e2 : mk t1 ++ mk name = mk t2 := by rw [ht2]; exact mk_app t1 name
  have b2 : ¬ 9223372036854775807 < t1.length + name.length := by omega
  have m2 : t2.length ≤ 125 := by rw [ht2, List.length_append]; omega
  have z_t2 : (mk t2).size = t2.length := rfl
  have e3 : mk t2 ++ (⟨#[91]⟩ : ByteArray) = mk t3 := by rw [ht3]; exact mk_app t2 [91]
  have b3 : ¬ 9223372036854775807 < t2.length + 1 := by omega
  have m3 : t3.length ≤ 126 := by rw [ht3, List.length_append]; simp; omega
  have z_t3 : (mk t3).size = t3.length := rfl
  have e4 : mk t3 ++ mk ta = mk t4 := by rw [ht4]; exact mk_app t3 ta
  have b4 : ¬ 9223372036854775807 < t3.length + ta.length := by omega
  have m4 : t4.length ≤ 148 := by rw [ht4, List.length_append]; omega
  have z_t4 : (mk t4).size = t4.length := rfl
  have e5 : mk t4 ++ (⟨#[93]⟩ : ByteArray) = mk R := by rw [hR.out]; exact mk_app t4 [93]
  have b5 : ¬ 9223372036854775807 < t4.length + 1 := by omega
  clear ht1 ht2 ht3 ht4
  clear hv
  obtain ⟨w0, hw0⟩ : ∃ w0, w.alloc (.cells #[.int .i64 5, .int .i64 d, .int .i64 a, .int .i64 b, .int .i64 op, .int .i64 n, .string (mk name), va] 36) = w0 := ⟨_, rfl⟩
  have HX : Hid (w0.heap[w.heap.size]? = some (.cells #[.int .i64 5, .int .i64 d, .int .i64 a, .int .i64 b, .int .i64 op, .int .i64 n, .string (mk name), va] 36 (0, 0))) := Lib.hid (by rw [← hw0]; exact heap_new _ _)
  have HB0 : Hid (Below w.heap.size w w0) := Lib.hid (by rw [← hw0]; exact ext_alloc (Below.refl _ _) _)
  unfold xnV
  go_enter Tryd.func24, Tryd.ntmps24
  go_upto_region 1 with (fail)
  try rw [hw0]
  clear hw0
  obtain ⟨c0, c1, c2, c3, c4, c5, c6, c7⟩ := eight_cells' HX.out
  have hz : w.heap.size < w0.heap.size := (Array.getElem?_eq_some_iff.1 HX.out).1
  go_wp2_with fail
  refine (HS.out _).mono ?_; rintro e w1 ⟨rfl, g1⟩
  have HX1 := Lib.hid ((g1.block _ hz).trans HX.out)
  have HB1 := Lib.hid (ext_trans HB0.out g1)
  have hz1 : w.heap.size < w1.heap.size := by have := g1.size; omega
  clear g1 c0 c1 c2 c3 c4 c5 c6 c7
  obtain ⟨c0, c1, c2, c3, c4, c5, c6, c7⟩ := eight_cells' HX1.out
  go_wp2_with fail
  refine (HD.out _ (HV.out.ext HB1.out)).mono ?_; rintro e w2 ⟨rfl, g2⟩
  have HX2 := Lib.hid ((g2.block _ hz1).trans HX1.out)
  have HB2 := Lib.hid (ext_trans HB1.out g2)
  have hz2 : w.heap.size < w2.heap.size := by have := g2.size; omega
  clear g2 c0 c1 c2 c3 c4 c5 c6 c7
  obtain ⟨c0, c1, c2, c3, c4, c5, c6, c7⟩ := eight_cells' HX2.out
  go_wp2_with fail
  have c2 : w2.drew.cell? ⟨w.heap.size, 2, none⟩ = some (.int .i64 a) := c2
  have c6 : w2.drew.cell? ⟨w.heap.size, 6, none⟩ = some (.string (mk name)) := c6
  have gg : Below w.heap.size w w2.drew := ext_drew HB2.out
  go_region_held3 (fun w' => w'.cell? ⟨w.heap.size, 2, none⟩ = some (.int .i64 a) ∧ w'.cell? ⟨w.heap.size, 6, none⟩ = some (.string (mk name))) (exact ⟨c2, c6⟩) ((first
    | (go_at_call 37; (with_reducible refine (HA.out _ (HV.out.ext gg)).mono ?_); rintro e w5 ⟨rfl, g5⟩; have c2 := (g5.cell (cell_lt c2)).trans c2; have c6 := (g5.cell (cell_lt c6)).trans c6; have gg := ext_trans gg g5)))
  all_goals
    go_wp2_with fail
    go_ret
    exact ⟨rfl, gg⟩
set_option maxRecDepth 100000 in
set_option maxHeartbeats 4000000 in
theorem itext_6 (x : Xn) (va : Value) (hk : x.kind = 6) (hx : AllN x) (hnm : x.name.length ≤ 100) (w : World) (hv : Env w) : Calls Tryd.prog 24 #[xnV x va] w fun e w' => e = .returned (.string (mk (insT x))) ∧ Below w.heap.size w w' := by
  obtain ⟨k, d, a, b, op, n, name, args⟩ := x
  simp only at hk
  subst hk
  obtain ⟨x1, x2, x3, x4⟩ := hx
  have HV := Lib.hid hv
  have hnm : name.length ≤ 100 := hnm
  have HS : Hid (∀ w, Calls Tryd.prog 36 #[.int .i64 op] w fun e w' => e = .returned (.tuple #[.string (mk (signL op)), .bool (signB op)]) ∧ Below w.heap.size w w') := Lib.hid (fun w => by rw [← sgn_mk]; exact sign_any op w)
  have HD := Lib.hid (fun w hv => value_any d x1 w hv)
  have HA := Lib.hid (fun w hv => value_any a x2 w hv)
  have HB := Lib.hid (fun w hv => value_any b x3 w hv)
  have HI := Lib.hid (fun w hv => itoa_any n x4 w hv)
  have l1 := valT_le x1
  have l2 := valT_le x2
  have l3 := valT_le x3
  have l5 := itoa_le x4
  have l4 := signL_le op
  have E : Hid (insT ⟨6, d, a, b, op, n, name, args⟩ = name ++ [91] ++ valT a ++ [93, 32, 61, 32] ++ valT b) := Lib.hid rfl
  generalize insT ⟨6, d, a, b, op, n, name, args⟩ = R at *
  generalize valT d = td at *
  generalize valT a = ta at *
  generalize valT b = tb at *
  generalize signL op = ts at *
  generalize signB op = sb at *
  generalize Lib.itoa n = ti at *
  have z_name : (mk name).size = name.length := rfl
  have s2 : (⟨#[91]⟩ : ByteArray).size = 1 := rfl
  have z_ta : (mk ta).size = ta.length := rfl
  have s4 : (⟨#[93, 32, 61, 32]⟩ : ByteArray).size = 4 := rfl
  have z_tb : (mk tb).size = tb.length := rfl
  obtain ⟨t1, ht1⟩ : ∃ x, x = name ++ [91] := ⟨_, rfl⟩
  obtain ⟨t2, ht2⟩ : ∃ x, x = t1 ++ ta := ⟨_, rfl⟩
  obtain ⟨t3, ht3⟩ : ∃ x, x = t2 ++ [93, 32, 61, 32] := ⟨_, rfl⟩
  have hR : Hid (R = t3 ++ tb) := Lib.hid (by rw [E.out, ht3, ht2, ht1])
  have e1 : mk name ++ (⟨#[91]⟩ : ByteArray) = mk t1 := by rw [ht1]; exact mk_app name [91]
  have b1 : ¬ 9223372036854775807 < name.length + 1 := by omega
  have m1 : t1.length ≤ 101 := by rw [ht1, List.length_append]; simp; omega
  have z_t1 : (mk t1).size = t1.length := rfl
  have e2 : mk t1 ++ mk ta = mk t2 := by rw [ht2]; exact mk_app t1 ta
  have b2 : ¬ 9223372036854775807 < t1.length + ta.length := by omega
  have m2 : t2.length ≤ 123 := by rw [ht2, List.length_append]; omega
  have z_t2 : (mk t2).size = t2.length := rfl
  have e3 : mk t2 ++ (⟨#[93, 32, 61, 32]⟩ : ByteArray) = mk t3 := by rw [ht3]; exact mk_app t2 [93, 32, 61, 32]
  have b3 : ¬ 9223372036854775807 < t2.length + 4 := by omega
  have m3 : t3.length ≤ 127 := by rw [ht3, List.length_append]; simp; omega
  have z_t3 : (mk t3).size = t3.length := rfl
  have e4 : mk t3 ++ mk tb = mk R := by rw [hR.out]; exact mk_app t3 tb
  have b4 : ¬ 9223372036854775807 < t3.length + tb.length := by omega
  clear ht1 ht2 ht3
  clear hv
  obtain ⟨w0, hw0⟩ : ∃ w0, w.alloc (.cells #[.int .i64 6, .int .i64 d, .int .i64 a, .int .i64 b, .int .i64 op, .int .i64 n, .string (mk name), va] 36) = w0 := ⟨_, rfl⟩
  have HX : Hid (w0.heap[w.heap.size]? = some (.cells #[.int .i64 6, .int .i64 d, .int .i64 a, .int .i64 b, .int .i64 op, .int .i64 n, .string (mk name), va] 36 (0, 0))) := Lib.hid (by rw [← hw0]; exact heap_new _ _)
  have HB0 : Hid (Below w.heap.size w w0) := Lib.hid (by rw [← hw0]; exact ext_alloc (Below.refl _ _) _)
  unfold xnV
  go_enter Tryd.func24, Tryd.ntmps24
  go_upto_region 1 with (fail)
  try rw [hw0]
  clear hw0
  obtain ⟨c0, c1, c2, c3, c4, c5, c6, c7⟩ := eight_cells' HX.out
  have hz : w.heap.size < w0.heap.size := (Array.getElem?_eq_some_iff.1 HX.out).1
  go_wp2_with fail
  refine (HS.out _).mono ?_; rintro e w1 ⟨rfl, g1⟩
  have HX1 := Lib.hid ((g1.block _ hz).trans HX.out)
  have HB1 := Lib.hid (ext_trans HB0.out g1)
  have hz1 : w.heap.size < w1.heap.size := by have := g1.size; omega
  clear g1 c0 c1 c2 c3 c4 c5 c6 c7
  obtain ⟨c0, c1, c2, c3, c4, c5, c6, c7⟩ := eight_cells' HX1.out
  go_wp2_with fail
  have c2 : w1.drew.cell? ⟨w.heap.size, 2, none⟩ = some (.int .i64 a) := c2
  have c3 : w1.drew.cell? ⟨w.heap.size, 3, none⟩ = some (.int .i64 b) := c3
  have c6 : w1.drew.cell? ⟨w.heap.size, 6, none⟩ = some (.string (mk name)) := c6
  have gg : Below w.heap.size w w1.drew := ext_drew HB1.out
  go_region_held3 (fun w' => w'.cell? ⟨w.heap.size, 2, none⟩ = some (.int .i64 a) ∧ w'.cell? ⟨w.heap.size, 3, none⟩ = some (.int .i64 b) ∧ w'.cell? ⟨w.heap.size, 6, none⟩ = some (.string (mk name))) (exact ⟨c2, c3, c6⟩) ((first
    | (go_at_call 37; (with_reducible refine (HA.out _ (HV.out.ext gg)).mono ?_); rintro e w5 ⟨rfl, g5⟩; have c2 := (g5.cell (cell_lt c2)).trans c2; have c3 := (g5.cell (cell_lt c3)).trans c3; have c6 := (g5.cell (cell_lt c6)).trans c6; have gg := ext_trans gg g5)
    | (go_at_call 37; (with_reducible refine (HB.out _ (HV.out.ext gg)).mono ?_); rintro e w5 ⟨rfl, g5⟩; have c2 := (g5.cell (cell_lt c2)).trans c2; have c3 := (g5.cell (cell_lt c3)).trans c3; have c6 := (g5.cell (cell_lt c6)).trans c6; have gg := ext_trans gg g5)))
  all_goals
    go_wp2_with fail
    go_ret
    exact ⟨rfl, gg⟩
set_option maxRecDepth 100000 in
set_option maxHeartbeats 4000000 in
theorem itext_7 (x : Xn) (va : Value) (hk : x.kind = 7) (hx : AllN x) (hnm : x.name.length ≤ 100) (w : World) (hv : Env w) : Calls Tryd.prog 24 #[xnV x va] w fun e w' => e = .returned (.string (mk (insT x))) ∧ Below w.heap.size w w' := by
  obtain ⟨k, d, a, b, op, n, name, args⟩ := x
  simp only at hk
  subst hk
  obtain ⟨x1, x2, x3, x4⟩ := hx
  have HV := Lib.hid hv
  have hnm : name.length ≤ 100 := hnm
  have HS : Hid (∀ w, Calls Tryd.prog 36 #[.int .i64 op] w fun e w' => e = .returned (.tuple #[.string (mk (signL op)), .bool (signB op)]) ∧ Below w.heap.size w w') := Lib.hid (fun w => by rw [← sgn_mk]; exact sign_any op w)
  have HD := Lib.hid (fun w hv => value_any d x1 w hv)
  have HA := Lib.hid (fun w hv => value_any a x2 w hv)
  have HB := Lib.hid (fun w hv => value_any b x3 w hv)
  have HI := Lib.hid (fun w hv => itoa_any n x4 w hv)
  have l1 := valT_le x1
  have l2 := valT_le x2
  have l3 := valT_le x3
  have l5 := itoa_le x4
  have l4 := signL_le op
  have E : Hid (insT ⟨7, d, a, b, op, n, name, args⟩ = valT d ++ [32, 61, 32] ++ [114, 101, 97, 100]) := Lib.hid rfl
  generalize insT ⟨7, d, a, b, op, n, name, args⟩ = R at *
  generalize valT d = td at *
  generalize valT a = ta at *
  generalize valT b = tb at *
  generalize signL op = ts at *
  generalize signB op = sb at *
  generalize Lib.itoa n = ti at *
  have z_td : (mk td).size = td.length := rfl
  have s2 : (⟨#[32, 61, 32]⟩ : ByteArray).size = 3 := rfl
  have s3 : (⟨#[114, 101, 97, 100]⟩ : ByteArray).size = 4 := rfl
  obtain ⟨t1, ht1⟩ : ∃ x, x = td ++ [32, 61, 32] := ⟨_, rfl⟩
  have hR : Hid (R = t1 ++ [114, 101, 97, 100]) := Lib.hid (by rw [E.out, ht1])
  have e1 : mk td ++ (⟨#[32, 61, 32]⟩ : ByteArray) = mk t1 := by rw [ht1]; exact mk_app td [32, 61, 32]
  have b1 : ¬ 9223372036854775807 < td.length + 3 := by omega
  have m1 : t1.length ≤ 25 := by rw [ht1, List.length_append]; simp; omega
  have z_t1 : (mk t1).size = t1.length := rfl
  have e2 : mk t1 ++ (⟨#[114, 101, 97, 100]⟩ : ByteArray) = mk R := by rw [hR.out]; exact mk_app t1 [114, 101, 97, 100]
  have b2 : ¬ 9223372036854775807 < t1.length + 4 := by omega
  clear ht1
  clear hv
  obtain ⟨w0, hw0⟩ : ∃ w0, w.alloc (.cells #[.int .i64 7, .int .i64 d, .int .i64 a, .int .i64 b, .int .i64 op, .int .i64 n, .string (mk name), va] 36) = w0 := ⟨_, rfl⟩
  have HX : Hid (w0.heap[w.heap.size]? = some (.cells #[.int .i64 7, .int .i64 d, .int .i64 a, .int .i64 b, .int .i64 op, .int .i64 n, .string (mk name), va] 36 (0, 0))) := Lib.hid (by rw [← hw0]; exact heap_new _ _)
  have HB0 : Hid (Below w.heap.size w w0) := Lib.hid (by rw [← hw0]; exact ext_alloc (Below.refl _ _) _)
  unfold xnV
  go_enter Tryd.func24, Tryd.ntmps24
  go_upto_region 1 with (fail)
  try rw [hw0]
  clear hw0
  obtain ⟨c0, c1, c2, c3, c4, c5, c6, c7⟩ := eight_cells' HX.out
  have hz : w.heap.size < w0.heap.size := (Array.getElem?_eq_some_iff.1 HX.out).1
  go_wp2_with fail
  refine (HS.out _).mono ?_; rintro e w1 ⟨rfl, g1⟩
  have HX1 := Lib.hid ((g1.block _ hz).trans HX.out)
  have HB1 := Lib.hid (ext_trans HB0.out g1)
  have hz1 : w.heap.size < w1.heap.size := by have := g1.size; omega
  clear g1 c0 c1 c2 c3 c4 c5 c6 c7
  obtain ⟨c0, c1, c2, c3, c4, c5, c6, c7⟩ := eight_cells' HX1.out
  go_wp2_with fail
  refine (HD.out _ (HV.out.ext HB1.out)).mono ?_; rintro e w2 ⟨rfl, g2⟩
  have HX2 := Lib.hid ((g2.block _ hz1).trans HX1.out)
  have HB2 := Lib.hid (ext_trans HB1.out g2)
  have hz2 : w.heap.size < w2.heap.size := by have := g2.size; omega
  clear g2 c0 c1 c2 c3 c4 c5 c6 c7
  obtain ⟨c0, c1, c2, c3, c4, c5, c6, c7⟩ := eight_cells' HX2.out
  go_wp2_with fail
  go_ret
  exact ⟨rfl, HB2.out⟩
set_option maxRecDepth 100000 in
set_option maxHeartbeats 4000000 in
theorem itext_8 (x : Xn) (va : Value) (hk : x.kind = 8) (hx : AllN x) (hnm : x.name.length ≤ 100) (w : World) (hv : Env w) : Calls Tryd.prog 24 #[xnV x va] w fun e w' => e = .returned (.string (mk (insT x))) ∧ Below w.heap.size w w' := by
  obtain ⟨k, d, a, b, op, n, name, args⟩ := x
  simp only at hk
  subst hk
  obtain ⟨x1, x2, x3, x4⟩ := hx
  have HV := Lib.hid hv
  have hnm : name.length ≤ 100 := hnm
  have HS : Hid (∀ w, Calls Tryd.prog 36 #[.int .i64 op] w fun e w' => e = .returned (.tuple #[.string (mk (signL op)), .bool (signB op)]) ∧ Below w.heap.size w w') := Lib.hid (fun w => by rw [← sgn_mk]; exact sign_any op w)
  have HD := Lib.hid (fun w hv => value_any d x1 w hv)
  have HA := Lib.hid (fun w hv => value_any a x2 w hv)
  have HB := Lib.hid (fun w hv => value_any b x3 w hv)
  have HI := Lib.hid (fun w hv => itoa_any n x4 w hv)
  have l1 := valT_le x1
  have l2 := valT_le x2
  have l3 := valT_le x3
  have l5 := itoa_le x4
  have l4 := signL_le op
  have E : Hid (insT ⟨8, d, a, b, op, n, name, args⟩ = [112, 114, 105, 110, 116, 32] ++ valT a) := Lib.hid rfl
  generalize insT ⟨8, d, a, b, op, n, name, args⟩ = R at *
  generalize valT d = td at *
  generalize valT a = ta at *
  generalize valT b = tb at *
  generalize signL op = ts at *
  generalize signB op = sb at *
  generalize Lib.itoa n = ti at *
  have s1 : (⟨#[112, 114, 105, 110, 116, 32]⟩ : ByteArray).size = 6 := rfl
  have z_ta : (mk ta).size = ta.length := rfl
  have hR : Hid (R = [112, 114, 105, 110, 116, 32] ++ ta) := Lib.hid (by rw [E.out])
  have e1 : (⟨#[112, 114, 105, 110, 116, 32]⟩ : ByteArray) ++ mk ta = mk R := by rw [hR.out]; exact mk_app [112, 114, 105, 110, 116, 32] ta
  have b1 : ¬ 9223372036854775807 < 6 + ta.length := by omega
  clear hv
  obtain ⟨w0, hw0⟩ : ∃ w0, w.alloc (.cells #[.int .i64 8, .int .i64 d, .int .i64 a, .int .i64 b, .int .i64 op, .int .i64 n, .string (mk name), va] 36) = w0 := ⟨_, rfl⟩
  have HX : Hid (w0.heap[w.heap.size]? = some (.cells #[.int .i64 8, .int .i64 d, .int .i64 a, .int .i64 b, .int .i64 op, .int .i64 n, .string (mk name), va] 36 (0, 0))) := Lib.hid (by rw [← hw0]; exact heap_new _ _)
  have HB0 : Hid (Below w.heap.size w w0) := Lib.hid (by rw [← hw0]; exact ext_alloc (Below.refl _ _) _)
  unfold xnV
  go_enter Tryd.func24, Tryd.ntmps24
  go_upto_region 1 with (fail)
  try rw [hw0]
  clear hw0
  obtain ⟨c0, c1, c2, c3, c4, c5, c6, c7⟩ := eight_cells' HX.out
  have hz : w.heap.size < w0.heap.size := (Array.getElem?_eq_some_iff.1 HX.out).1
  go_wp2_with fail
  refine (HS.out _).mono ?_; rintro e w1 ⟨rfl, g1⟩
  have HX1 := Lib.hid ((g1.block _ hz).trans HX.out)
  have HB1 := Lib.hid (ext_trans HB0.out g1)
  have hz1 : w.heap.size < w1.heap.size := by have := g1.size; omega
  clear g1 c0 c1 c2 c3 c4 c5 c6 c7
  obtain ⟨c0, c1, c2, c3, c4, c5, c6, c7⟩ := eight_cells' HX1.out
  go_wp2_with fail
  refine (HA.out _ (HV.out.ext HB1.out)).mono ?_; rintro e w5 ⟨rfl, g5⟩
  have G5 := Lib.hid (ext_trans HB1.out g5)
  clear g5
  go_wp2_with fail
  go_ret
  exact ⟨rfl, G5.out⟩
theorem ttext_1 (t : Tm) (hk : t.kind = 1) (ht : AllT t) (w : World) (hv : Env w) : Calls Tryd.prog 25 #[tmV t] w fun e w' => e = .returned (.string (mk (trmT t))) ∧ Below w.heap.size w w' := by
  obtain ⟨k, a, to, els⟩ := t
  simp only at hk
  subst hk
  have HA := Lib.hid (fun w hv => value_any a ht.2.1 w hv)
  have HT := Lib.hid (fun w hv => bname_any to ht.2.2.1 w hv)
  have HV := Lib.hid hv
  have l1 := valT_le ht.2.1
  have l2 := blkT_le ht.2.2.1
  have E : Hid (trmT ⟨1, a, to, els⟩ = [106, 117, 109, 112, 32] ++ blkT to) := Lib.hid rfl
  generalize blkT to = ta at *
  have hcat : (⟨#[106, 117, 109, 112, 32]⟩ : ByteArray) ++ mk ta = mk ([106, 117, 109, 112, 32] ++ ta) := mk_app [106, 117, 109, 112, 32] ta
  have h1 : (⟨#[106, 117, 109, 112, 32]⟩ : ByteArray).size = 5 := rfl
  have h2 : (mk ta).size = ta.length := rfl
  have h3 : ¬ 9223372036854775807 < 5 + ta.length := by omega
  unfold tmV
  clear hv ht
  go_enter Tryd.func25, Tryd.ntmps25
  go_wp2_with fail
  refine (HT.out _ (HV.out.ext (ext_alloc (Below.refl _ _) _))).mono ?_; rintro e w1 ⟨rfl, g1⟩
  have G := Lib.hid (ext_trans (ext_alloc (Below.refl w.heap.size w) _) g1)
  clear g1
  go_wp2_with fail
  go_ret
  exact ⟨by rw [E.out]; rfl, G.out⟩
theorem ttext_4 (t : Tm) (hk : t.kind = 4) (ht : AllT t) (w : World) (hv : Env w) : Calls Tryd.prog 25 #[tmV t] w fun e w' => e = .returned (.string (mk (trmT t))) ∧ Below w.heap.size w w' := by
  obtain ⟨k, a, to, els⟩ := t
  simp only at hk
  subst hk
  have HA := Lib.hid (fun w hv => value_any a ht.2.1 w hv)
  have HT := Lib.hid (fun w hv => bname_any to ht.2.2.1 w hv)
  have HV := Lib.hid hv
  have l1 := valT_le ht.2.1
  have l2 := blkT_le ht.2.2.1
  have E : Hid (trmT ⟨4, a, to, els⟩ = [116, 114, 97, 112, 32] ++ valT a) := Lib.hid rfl
  generalize valT a = ta at *
  have hcat : (⟨#[116, 114, 97, 112, 32]⟩ : ByteArray) ++ mk ta = mk ([116, 114, 97, 112, 32] ++ ta) := mk_app [116, 114, 97, 112, 32] ta
  have h1 : (⟨#[116, 114, 97, 112, 32]⟩ : ByteArray).size = 5 := rfl
  have h2 : (mk ta).size = ta.length := rfl
  have h3 : ¬ 9223372036854775807 < 5 + ta.length := by omega
  unfold tmV
  clear hv ht
  go_enter Tryd.func25, Tryd.ntmps25
  go_wp2_with fail
  refine (HA.out _ (HV.out.ext (ext_alloc (Below.refl _ _) _))).mono ?_; rintro e w1 ⟨rfl, g1⟩
  have G := Lib.hid (ext_trans (ext_alloc (Below.refl w.heap.size w) _) g1)
  clear g1
  go_wp2_with fail
  go_ret
  exact ⟨by rw [E.out]; rfl, G.out⟩
set_option maxRecDepth 100000 in
set_option maxHeartbeats 4000000 in
theorem ttext_2 (t : Tm) (hk : t.kind = 2) (ht : AllT t) (w : World) (hv : Env w) : Calls Tryd.prog 25 #[tmV t] w fun e w' => e = .returned (.string (mk (trmT t))) ∧ Below w.heap.size w w' := by
  obtain ⟨k, a, to, els⟩ := t
  simp only at hk
  subst hk
  have HA := Lib.hid (fun w hv => value_any a ht.2.1 w hv)
  have HT := Lib.hid (fun w hv => bname_any to ht.2.2.1 w hv)
  have HE := Lib.hid (fun w hv => bname_any els ht.2.2.2 w hv)
  have HV := Lib.hid hv
  have l1 := valT_le ht.2.1
  have l2 := blkT_le ht.2.2.1
  have l3 := blkT_le ht.2.2.2
  have E : Hid (trmT ⟨2, a, to, els⟩ = [105, 102, 32] ++ valT a ++ [32] ++ blkT to ++ [32] ++ blkT els) := Lib.hid rfl
  generalize trmT ⟨2, a, to, els⟩ = R at *
  generalize valT a = ta at *
  generalize hq1 : blkT to = tt at *
  generalize hq2 : blkT els = te at *
  clear hq1 hq2
  have s1 : (⟨#[105, 102, 32]⟩ : ByteArray).size = 3 := rfl
  have z_ta : (mk ta).size = ta.length := rfl
  have s3 : (⟨#[32]⟩ : ByteArray).size = 1 := rfl
  have z_tt : (mk tt).size = tt.length := rfl
  have z_te : (mk te).size = te.length := rfl
  obtain ⟨t1, ht1⟩ : ∃ x, x = [105, 102, 32] ++ ta := ⟨_, rfl⟩
  obtain ⟨t2, ht2⟩ : ∃ x, x = t1 ++ [32] := ⟨_, rfl⟩
  obtain ⟨t3, ht3⟩ : ∃ x, x = t2 ++ tt := ⟨_, rfl⟩
  obtain ⟨t4, ht4⟩ : ∃ x, x = t3 ++ [32] := ⟨_, rfl⟩
  have hR : Hid (R = t4 ++ te) := Lib.hid (by rw [E.out, ht4, ht3, ht2, ht1])
  have e1 : (⟨#[105, 102, 32]⟩ : ByteArray) ++ mk ta = mk t1 := by rw [ht1]; exact mk_app [105, 102, 32] ta
  have b1 : ¬ 9223372036854775807 < 3 + ta.length := by omega
  have m1 : t1.length ≤ 25 := by rw [ht1, List.length_append]; simp; omega
  have z_t1 : (mk t1).size = t1.length := rfl
  have e2 : mk t1 ++ (⟨#[32]⟩ : ByteArray) = mk t2 := by rw [ht2]; exact mk_app t1 [32]
  have b2 : ¬ 9223372036854775807 < t1.length + 1 := by omega
  have m2 : t2.length ≤ 26 := by rw [ht2, List.length_append]; simp; omega
  have z_t2 : (mk t2).size = t2.length := rfl
  have e3 : mk t2 ++ mk tt = mk t3 := by rw [ht3]; exact mk_app t2 tt
  have b3 : ¬ 9223372036854775807 < t2.length + tt.length := by omega
  have m3 : t3.length ≤ 48 := by rw [ht3, List.length_append]; omega
  have z_t3 : (mk t3).size = t3.length := rfl
  have e4 : mk t3 ++ (⟨#[32]⟩ : ByteArray) = mk t4 := by rw [ht4]; exact mk_app t3 [32]
  have b4 : ¬ 9223372036854775807 < t3.length + 1 := by omega
  have m4 : t4.length ≤ 49 := by rw [ht4, List.length_append]; simp; omega
  have z_t4 : (mk t4).size = t4.length := rfl
  have e5 : mk t4 ++ mk te = mk R := by rw [hR.out]; exact mk_app t4 te
  have b5 : ¬ 9223372036854775807 < t4.length + te.length := by omega
  clear ht1 ht2 ht3 ht4
  unfold tmV
  clear hv ht
  go_enter Tryd.func25, Tryd.ntmps25
  go_upto_region 1 with (fail)
  obtain ⟨w0, hw0⟩ : ∃ w0, w.alloc (.cells #[.int .i64 2, .int .i64 a, .int .i64 to, .int .i64 els] 41) = w0 := ⟨_, rfl⟩
  have HX : Hid (w0.heap[w.heap.size]? = some (.cells #[.int .i64 2, .int .i64 a, .int .i64 to, .int .i64 els] 41 (0, 0))) := Lib.hid (by rw [← hw0]; exact heap_new _ _)
  have HB0 : Hid (Below w.heap.size w w0) := Lib.hid (by rw [← hw0]; exact ext_alloc (Below.refl _ _) _)
  try rw [hw0]
  clear hw0
  have c0 : w0.cell? ⟨w.heap.size, 0, none⟩ = some (.int .i64 2) := cell_row HX.out 0
  have c1 : w0.cell? ⟨w.heap.size, 1, none⟩ = some (.int .i64 a) := cell_row HX.out 1
  have c2 : w0.cell? ⟨w.heap.size, 2, none⟩ = some (.int .i64 to) := cell_row HX.out 2
  have c3 : w0.cell? ⟨w.heap.size, 3, none⟩ = some (.int .i64 els) := cell_row HX.out 3
  have hz : w.heap.size < w0.heap.size := (Array.getElem?_eq_some_iff.1 HX.out).1
  go_wp2_with fail
  have c1 : w0.drew.cell? ⟨w.heap.size, 1, none⟩ = some (.int .i64 a) := c1
  have c2 : w0.drew.cell? ⟨w.heap.size, 2, none⟩ = some (.int .i64 to) := c2
  have c3 : w0.drew.cell? ⟨w.heap.size, 3, none⟩ = some (.int .i64 els) := c3
  have gg : Below w.heap.size w w0.drew := ext_drew HB0.out
  go_region_held3 (fun w' => w'.cell? ⟨w.heap.size, 1, none⟩ = some (.int .i64 a) ∧ w'.cell? ⟨w.heap.size, 2, none⟩ = some (.int .i64 to) ∧ w'.cell? ⟨w.heap.size, 3, none⟩ = some (.int .i64 els)) (exact ⟨c1, c2, c3⟩) ((first
    | (go_at_call 37; (with_reducible refine (HA.out _ (HV.out.ext gg)).mono ?_); rintro e w5 ⟨rfl, g5⟩; have c1 := (g5.cell (cell_lt c1)).trans c1; have c2 := (g5.cell (cell_lt c2)).trans c2; have c3 := (g5.cell (cell_lt c3)).trans c3; have gg := ext_trans gg g5)
    | (go_at_call 23; (with_reducible refine (HT.out _ (HV.out.ext gg)).mono ?_); rintro e w5 ⟨rfl, g5⟩; have c1 := (g5.cell (cell_lt c1)).trans c1; have c2 := (g5.cell (cell_lt c2)).trans c2; have c3 := (g5.cell (cell_lt c3)).trans c3; have gg := ext_trans gg g5)
    | (go_at_call 23; (with_reducible refine (HE.out _ (HV.out.ext gg)).mono ?_); rintro e w5 ⟨rfl, g5⟩; have c1 := (g5.cell (cell_lt c1)).trans c1; have c2 := (g5.cell (cell_lt c2)).trans c2; have c3 := (g5.cell (cell_lt c3)).trans c3; have gg := ext_trans gg g5)))
  all_goals
    go_wp2_with fail
    go_ret
    exact ⟨rfl, gg⟩
end Go.Proofs.YtafapkljlajflaaDoor
