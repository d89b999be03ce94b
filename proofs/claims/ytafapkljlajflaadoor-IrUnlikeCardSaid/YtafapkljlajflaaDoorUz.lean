/- ir's texts of parts. -/
import Derived.Test.YtafapkljlajflaaDoorRows
import Derived.WalkKit
import Derived.ProofKit
import Derived.OpenShut
import Derived.WalkLawsBesides
import Derived.WalkSpells
import Derived.Outline
import Derived.Handy
import Derived.Lib.Hide
import Derived.Lib.OthersKept
import Derived.KernelRfl
import Derived.Carry
import Derived.RegionTactic
import Derived.BigRegion
import Derived.OwnWalk
import Derived.Deep.Cut
import Derived.IntWalk
import Derived.Deep.QuietTactic
import Derived.BigQuiet
import Derived.Deep.RegionHeld3
import Derived.Test.YtafapkljlajflaaDoorUbd
import Derived.Test.YtafapkljlajflaaDoorUn
namespace Go.Proofs.YtafapkljlajflaaDoor
open Go.ChangeShapes Go.WideShapes Go.ChangeAt Go.RowKit
set_option linter.unusedVariables false
theorem itoa_le {n : Int} (h : I64 n) : (Lib.itoa n).length ≤ 21 := Lib.itoa_length_le n h.1 h.2
theorem value_any (n : Int) (hn : I64 n) (w : World) (hv : Env w) : Calls Tryd.prog 37 #[.int .i64 n] w fun e w' => e = .returned (.string (mk (valT n))) ∧ Below w.heap.size w w' := by
  have HI := Lib.hid (fun w hv => itoa_any n hn w hv)
  have hl := itoa_le hn
  have HV := Lib.hid hv
  have E : Hid (valT n = 118 :: Lib.itoa n) := Lib.hid rfl
  generalize Lib.itoa n = t at *
  have hcat : (⟨#[118]⟩ : ByteArray) ++ mk t = mk (118 :: t) := mk_app [118] t
  have h1 : (⟨#[118]⟩ : ByteArray).size = 1 := rfl
  have h2 : (mk t).size = t.length := rfl
  have h3 : ¬ 9223372036854775807 < 1 + t.length := by omega
  clear hv
  go_enter Tryd.func37, Tryd.ntmps37
  go_wp2_with fail
  refine (HI.out _ HV.out).mono ?_; rintro e w1 ⟨rfl, g1⟩
  have G := Lib.hid g1
  clear g1
  go_wp2_with fail
  go_ret
  exact ⟨by rw [E.out]; rfl, G.out⟩
theorem bname_any (n : Int) (hn : I64 n) (w : World) (hv : Env w) : Calls Tryd.prog 23 #[.int .i64 n] w fun e w' => e = .returned (.string (mk (blkT n))) ∧ Below w.heap.size w w' := by
  have HI := Lib.hid (fun w hv => itoa_any n hn w hv)
  have hl := itoa_le hn
  have HV := Lib.hid hv
  have E : Hid (blkT n = 98 :: Lib.itoa n) := Lib.hid rfl
  generalize Lib.itoa n = t at *
  have hcat : (⟨#[98]⟩ : ByteArray) ++ mk t = mk (98 :: t) := mk_app [98] t
  have h1 : (⟨#[98]⟩ : ByteArray).size = 1 := rfl
  have h2 : (mk t).size = t.length := rfl
  have h3 : ¬ 9223372036854775807 < 1 + t.length := by omega
  clear hv
  go_enter Tryd.func23, Tryd.ntmps23
  go_wp2_with fail
  refine (HI.out _ HV.out).mono ?_; rintro e w1 ⟨rfl, g1⟩
  have G := Lib.hid g1
  clear g1
  go_wp2_with fail
  go_ret
  exact ⟨by rw [E.out]; rfl, G.out⟩
theorem valT_le {n : Int} (h : I64 n) : (valT n).length ≤ 22 := by have := itoa_le h; unfold valT; rw [List.length_cons]; omega
theorem blkT_le {n : Int} (h : I64 n) : (blkT n).length ≤ 22 := by have := itoa_le h; unfold blkT; rw [List.length_cons]; omega
theorem eight_cells' {w : World} {b : Nat} {v0 v1 v2 v3 v4 v5 v6 v7 : Value} {t : TypeId} (h : w.heap[b]? = some (.cells #[v0, v1, v2, v3, v4, v5, v6, v7] t (0, 0))) :
    w.cell? ⟨b, 0, none⟩ = some v0 ∧ w.cell? ⟨b, 1, none⟩ = some v1 ∧ w.cell? ⟨b, 2, none⟩ = some v2 ∧ w.cell? ⟨b, 3, none⟩ = some v3 ∧ w.cell? ⟨b, 4, none⟩ = some v4 ∧ w.cell? ⟨b, 5, none⟩ = some v5 ∧ w.cell? ⟨b, 6, none⟩ = some v6 ∧ w.cell? ⟨b, 7, none⟩ = some v7 := by
  simp [World.cell?, h]
def AllN (x : Xn) : Prop := I64 x.d ∧ I64 x.a ∧ I64 x.b ∧ I64 x.n
theorem signL_le (k : Int) : (signL k).length ≤ 2 := by
  by_cases h : 1 ≤ k ∧ k ≤ 19
  · rcases nineteen (k := k) h.1 h.2 with h | h | h | h | h | h | h | h | h | h | h | h | h | h | h | h | h | h | h <;> subst h <;> decide
  · have e : signL k = [] := by
      unfold signL
      repeat rw [if_neg (by omega)]
    rw [e]; simp

set_option maxRecDepth 100000 in
set_option maxHeartbeats 4000000 in
theorem itext_4 (x : Xn) (va : Value) (hk : x.kind = 4) (hx : AllN x) (w : World) (hv : Env w) : Calls Tryd.prog 24 #[xnV x va] w fun e w' => e = .returned (.string (mk (insT x))) ∧ Below w.heap.size w w' := by
  obtain ⟨k, d, a, b, op, n, name, args⟩ := x
  simp only at hk
  subst hk
  obtain ⟨x1, x2, x3, x4⟩ := hx
  have HV := Lib.hid hv
  have HS : Hid (∀ w, Calls Tryd.prog 36 #[.int .i64 op] w fun e w' => e = .returned (.tuple #[.string (mk (signL op)), .bool (signB op)]) ∧ Below w.heap.size w w') := Lib.hid (fun w => by rw [← sgn_mk]; exact sign_any op w)
  have HD := Lib.hid (fun w hv => value_any d x1 w hv)
  have HA := Lib.hid (fun w hv => value_any a x2 w hv)
  have HB := Lib.hid (fun w hv => value_any b x3 w hv)
  have l1 := valT_le x1
  have l2 := valT_le x2
  have l3 := valT_le x3
  have l4 := signL_le op
  have E : Hid (insT ⟨4, d, a, b, op, n, name, args⟩ = valT d ++ [32, 61, 32] ++ valT a ++ [32] ++ signL op ++ [32] ++ valT b) := Lib.hid rfl
  generalize insT ⟨4, d, a, b, op, n, name, args⟩ = R at *
  generalize valT d = td at *
  generalize valT a = ta at *
  generalize valT b = tb at *
  generalize signL op = ts at *
  generalize signB op = sb at *
  obtain ⟨t1, ht1⟩ : ∃ t1, t1 = td ++ [32, 61, 32] := ⟨_, rfl⟩
  obtain ⟨t2, ht2⟩ : ∃ t2, t2 = t1 ++ ta := ⟨_, rfl⟩
  obtain ⟨t3, ht3⟩ : ∃ t3, t3 = t2 ++ [32] := ⟨_, rfl⟩
  obtain ⟨t4, ht4⟩ : ∃ t4, t4 = t3 ++ ts := ⟨_, rfl⟩
  obtain ⟨t5, ht5⟩ : ∃ t5, t5 = t4 ++ [32] := ⟨_, rfl⟩
  have hR : Hid (R = t5 ++ tb) := Lib.hid (by rw [E.out, ht5, ht4, ht3, ht2, ht1])
  have e1 : mk td ++ (⟨#[32, 61, 32]⟩ : ByteArray) = mk t1 := by rw [ht1]; exact mk_app td [32, 61, 32]
  have e2 : mk t1 ++ mk ta = mk t2 := by rw [ht2]; exact mk_app _ _
  have e3 : mk t2 ++ (⟨#[32]⟩ : ByteArray) = mk t3 := by rw [ht3]; exact mk_app t2 [32]
  have e4 : mk t3 ++ mk ts = mk t4 := by rw [ht4]; exact mk_app _ _
  have e5 : mk t4 ++ (⟨#[32]⟩ : ByteArray) = mk t5 := by rw [ht5]; exact mk_app t4 [32]
  have e6 : mk t5 ++ mk tb = mk R := by rw [hR.out]; exact mk_app _ _
  have m1 : t1.length ≤ 25 := by rw [ht1, List.length_append]; simp; omega
  have m2 : t2.length ≤ 47 := by rw [ht2, List.length_append]; omega
  have m3 : t3.length ≤ 48 := by rw [ht3, List.length_append]; simp; omega
  have m4 : t4.length ≤ 50 := by rw [ht4, List.length_append]; omega
  have m5 : t5.length ≤ 51 := by rw [ht5, List.length_append]; simp; omega
  clear ht1 ht2 ht3 ht4 ht5 hv
  have s3 : (⟨#[32, 61, 32]⟩ : ByteArray).size = 3 := rfl
  have s1 : (⟨#[32]⟩ : ByteArray).size = 1 := rfl
  have z1 : (mk td).size = td.length := rfl
  have z2 : (mk t1).size = t1.length := rfl
  have z3 : (mk ta).size = ta.length := rfl
  have z4 : (mk t2).size = t2.length := rfl
  have z5 : (mk t3).size = t3.length := rfl
  have z6 : (mk ts).size = ts.length := rfl
  have z7 : (mk t4).size = t4.length := rfl
  have z8 : (mk t5).size = t5.length := rfl
  have z9 : (mk tb).size = tb.length := rfl
  have b1 : ¬ 9223372036854775807 < td.length + 3 := by omega
  have b2 : ¬ 9223372036854775807 < t1.length + ta.length := by omega
  have b3 : ¬ 9223372036854775807 < t2.length + 1 := by omega
  have b4 : ¬ 9223372036854775807 < t3.length + ts.length := by omega
  have b5 : ¬ 9223372036854775807 < t4.length + 1 := by omega
  have b6 : ¬ 9223372036854775807 < t5.length + tb.length := by omega
  obtain ⟨w0, hw0⟩ : ∃ w0, w.alloc (.cells #[.int .i64 4, .int .i64 d, .int .i64 a, .int .i64 b, .int .i64 op, .int .i64 n, .string (mk name), va] 36) = w0 := ⟨_, rfl⟩
  have HX : Hid (w0.heap[w.heap.size]? = some (.cells #[.int .i64 4, .int .i64 d, .int .i64 a, .int .i64 b, .int .i64 op, .int .i64 n, .string (mk name), va] 36 (0, 0))) := Lib.hid (by rw [← hw0]; exact heap_new _ _)
  have HB0 : Hid (Below w.heap.size w w0) := Lib.hid (by rw [← hw0]; exact ext_alloc (Below.refl _ _) _)
  unfold xnV
  go_enter Tryd.func24, Tryd.ntmps24
  go_upto_region 1 with (fail)
  try rw [hw0]
  clear hw0
  obtain ⟨c0, c1, c2, c3, c4, c5, c6, c7⟩ := eight_cells' HX.out
  have hz : w.heap.size < w0.heap.size := (Array.getElem?_eq_some_iff.1 HX.out).1
  go_wp2_with fail
  refine (HS.out _).mono ?_; rintro e w1 ⟨rfl, g1⟩
  have HX1 := Lib.hid ((g1.block _ hz).trans HX.out)
  have HB1 := Lib.hid (ext_trans HB0.out g1)
  have hz1 : w.heap.size < w1.heap.size := by have := g1.size; omega
  clear g1 c0 c1 c2 c3 c4 c5 c6 c7
  obtain ⟨c0, c1, c2, c3, c4, c5, c6, c7⟩ := eight_cells' HX1.out
  go_wp2_with fail
  refine (HD.out _ (HV.out.ext HB1.out)).mono ?_; rintro e w2 ⟨rfl, g2⟩
  have HX2 := Lib.hid ((g2.block _ hz1).trans HX1.out)
  have HB2 := Lib.hid (ext_trans HB1.out g2)
  have hz2 : w.heap.size < w2.heap.size := by have := g2.size; omega
  clear g2 c0 c1 c2 c3 c4 c5 c6 c7
  obtain ⟨c0, c1, c2, c3, c4, c5, c6, c7⟩ := eight_cells' HX2.out
  go_wp2_with fail
  have c2 : w2.drew.cell? ⟨w.heap.size, 2, none⟩ = some (.int .i64 a) := c2
  have c3 : w2.drew.cell? ⟨w.heap.size, 3, none⟩ = some (.int .i64 b) := c3
  have gg : Below w.heap.size w w2.drew := ext_drew HB2.out
  go_region_held3 (fun w' => w'.cell? ⟨w.heap.size, 2, none⟩ = some (.int .i64 a) ∧ w'.cell? ⟨w.heap.size, 3, none⟩ = some (.int .i64 b)) (exact ⟨c2, c3⟩) ((first
    | (go_at_call 37; (with_reducible refine (HA.out _ (HV.out.ext gg)).mono ?_); rintro e w5 ⟨rfl, g5⟩; have c2 := (g5.cell (cell_lt c2)).trans c2; have c3 := (g5.cell (cell_lt c3)).trans c3; have gg := ext_trans gg g5)
    | (go_at_call 37; (with_reducible refine (HB.out _ (HV.out.ext gg)).mono ?_); rintro e w5 ⟨rfl, g5⟩; have c2 := (g5.cell (cell_lt c2)).trans c2; have c3 := (g5.cell (cell_lt c3)).trans c3; have gg := ext_trans gg g5)))
  all_goals
    go_wp2_with fail
    go_ret
    exact ⟨rfl, gg⟩
theorem ttext_3 (t : Tm) (hk : t.kind = 3) (ha : I64 t.a) (w : World) (hv : Env w) : Calls Tryd.prog 25 #[tmV t] w fun e w' => e = .returned (.string (mk (trmT t))) ∧ Below w.heap.size w w' := by
  obtain ⟨k, a, to, els⟩ := t
  simp only at hk
  subst hk
  have HA := Lib.hid (fun w hv => value_any a ha w hv)
  have HV := Lib.hid hv
  have l1 := valT_le ha
  have E : Hid (trmT ⟨3, a, to, els⟩ = [114, 101, 116, 117, 114, 110, 32] ++ valT a) := Lib.hid rfl
  generalize valT a = ta at *
  have hcat : (⟨#[114, 101, 116, 117, 114, 110, 32]⟩ : ByteArray) ++ mk ta = mk ([114, 101, 116, 117, 114, 110, 32] ++ ta) := mk_app [114, 101, 116, 117, 114, 110, 32] ta
  have h1 : (⟨#[114, 101, 116, 117, 114, 110, 32]⟩ : ByteArray).size = 7 := rfl
  have h2 : (mk ta).size = ta.length := rfl
  have h3 : ¬ 9223372036854775807 < 7 + ta.length := by omega
  unfold tmV
  clear hv
  go_enter Tryd.func25, Tryd.ntmps25
  go_wp2_with fail
  refine (HA.out _ (HV.out.ext (ext_alloc (Below.refl _ _) _))).mono ?_; rintro e w1 ⟨rfl, g1⟩
  have G := Lib.hid (ext_trans (ext_alloc (Below.refl w.heap.size w) _) g1)
  clear g1
  go_wp2_with fail
  go_ret
  exact ⟨by rw [E.out]; rfl, G.out⟩
end Go.Proofs.YtafapkljlajflaaDoor
