/- ir.Uses of all kinds; two lists that are the same. -/
import Derived.Test.YtafapkljlajflaaDoorRows
import Derived.WalkKit
import Derived.ProofKit
import Derived.OpenShut
import Derived.WalkLawsBesides
import Derived.WalkSpells
import Derived.Outline
import Derived.Handy
import Derived.Lib.Hide
import Derived.Lib.OthersKept
import Derived.KernelRfl
import Derived.Carry
import Derived.RegionTactic
import Derived.BigRegion
import Derived.OwnWalk
import Derived.Deep.Cut
import Derived.IntWalk
import Derived.Deep.QuietTactic
import Derived.BigQuiet
import Derived.Deep.RegionHeld3
import Derived.Test.YtafapkljlajflaaDoorVf
import Derived.Test.YtafapkljlajflaaDoorVb
import Derived.Test.YtafapkljlajflaaDoorVd
import Derived.Test.YtafapkljlajflaaDoorUk
namespace Go.Proofs.YtafapkljlajflaaDoor
open Go.ChangeShapes Go.WideShapes Go.ChangeAt Go.RowKit
set_option linter.unusedVariables false
theorem nums_read {A : Nat → Prop} {w : World} {p : Option Addr} {m c : Nat} {L : List Int} (h : NumsAt A w (.slice p m c) L) : m = L.length ∧ ∀ a, p = some a → ∀ j u, (L.flatMap cellsN)[j]? = some u → w.cell? (a.add j) = some u := by
  obtain ⟨_, p', c', hq, hc⟩ := h
  injection hq with hq1 hq2 hq3
  subst hq1 hq2 hq3
  refine ⟨rfl, fun a ha => ?_⟩
  refine flat_cells (k := 1) (f := cellsN) (fun x => rfl) (by decide) (fun i hi t ht => ?_)
  obtain ⟨a', ea, _, h0⟩ := hc i hi
  rw [ha] at ea
  injection ea with ea
  subst ea
  have : t = 0 := by omega
  subst this
  rw [Addr.add_zero']
  exact h0
theorem nums_none {A : Nat → Prop} {w : World} {m c : Nat} {L : List Int} (h : NumsAt A w (.slice none m c) L) : m = 0 := by
  obtain ⟨_, p', c', hq, hc⟩ := h
  injection hq with hq1 hq2 hq3
  rcases Nat.eq_zero_or_pos L.length with h | h
  · omega
  · obtain ⟨a, ha, _⟩ := hc 0 h
    rw [← hq1] at ha
    cases ha
/-- A row appended to nil; nothing may be appended, too: at a plain region's list. -/
theorem wpl_app_row {T E : TypeId} {z : Value} {k sz : Nat} (hT : Tryd.prog.underlying T = some (.slice E)) (hinfo : (Tryd.prog.info? E).map (fun i => (i.zero, i.size, i.bytes)) = some (some z, k, sz)) (hz1 : z.cells.size = k) (hk : 0 < k) (hsz : sz ≤ 128)
    {ops : Array Oper} {rest : List Oper} {o : Oper} {a : Act} {Q : Exit → Act → World → Prop} {w : World} (hgd : o.guard = none) (s x : Operand)
    (ho : o.op = .call { callee := .builtin .append, args := #[s, x], argTypes := #[T, T] })
    (base : Nat) (hs : a.eval s = .slice none 0 0)
    (p : Option Addr) (m cap : Nat) (us : List Value) (hx : a.eval x = .slice p m cap) (hlen : us.length = m * k) (hu : ∀ ad, p = some ad → ∀ j u, us[j]? = some u → w.cell? (ad.add j) = some u) (hp : p = none → m = 0) (h1 : ∀ u ∈ us, u.oneCell' = true) (hm : m ≤ 1000000) (hbase : base ≤ w.heap.size)
    (h : ∀ v' w', w'.ownsRow base E k v' m us → w.grownBy w' none → wpList Tryd.prog ops Q rest (a.put o.dst v') w') : wpList Tryd.prog ops Q (o :: rest) a w :=
  wpList_plain hgd fun K hK => by
    have key := step_app_row (ops := #[]) (Q := Q) (K := K) (X := True) hT hinfo hz1 hk hsz hgd s x ho base hs p m cap us hx hlen hu hp h1 hm hbase (fun v' w' g1 g2 => hK _ _ (h v' w' g1 g2))
    have hw : Region.wanted o (yielded #[] a.tmps) = true := by simp [Region.wanted, hgd]
    rw [if_pos hw] at key
    exact key
/-- A row appended to a row of one's own; nothing may be appended, too: at a plain region's list. -/
theorem wpl_app_more {T E : TypeId} {z : Value} {k sz : Nat} (hT : Tryd.prog.underlying T = some (.slice E)) (hinfo : (Tryd.prog.info? E).map (fun i => (i.zero, i.size, i.bytes)) = some (some z, k, sz)) (hz1 : z.cells.size = k) (hk : 0 < k) (hsz : sz ≤ 128)
    {ops : Array Oper} {rest : List Oper} {o : Oper} {a : Act} {Q : Exit → Act → World → Prop} {w : World} (hgd : o.guard = none) (s x : Operand)
    (ho : o.op = .call { callee := .builtin .append, args := #[s, x], argTypes := #[T, T] })
    (base : Nat) (v : Value) (n : Nat) (xs : List Value) (hs : a.eval s = v) (hown : w.ownsRow base E k v n xs)
    (p : Option Addr) (m cap : Nat) (us : List Value) (hx : a.eval x = .slice p m cap) (hlen : us.length = m * k) (hu : ∀ ad, p = some ad → ∀ j u, us[j]? = some u → w.cell? (ad.add j) = some u) (hp : p = none → m = 0) (h1 : ∀ u ∈ us, u.oneCell' = true) (hm : n + m ≤ 1000000) (hbase : base ≤ w.heap.size)
    (h : ∀ v' w', w'.ownsRow base E k v' (n + m) (xs ++ us) → w.grownBy w' v.ownBlock → wpList Tryd.prog ops Q rest (a.put o.dst v') w') : wpList Tryd.prog ops Q (o :: rest) a w := by
  obtain ⟨i0, hi, iz0, iz1, iz2⟩ := info_parts hinfo
  cases p with
  | none =>
    have hm0 := hp rfl
    subst hm0
    have hus : us = [] := List.eq_nil_of_length_eq_zero (by rw [hlen, Nat.zero_mul])
    subst hus
    obtain ⟨pv, cv, rfl⟩ := own_slice hown
    have hle : n ≤ cv := by
      rcases hown.2 with ⟨e, h0⟩ | ⟨g, cap', cur, e, hb, hg, hle, _⟩
      · omega
      · injection e with e1 e2 e3
        omega
    have hr := run_append_nothing (P := Tryd.prog) w T T o.type E i0 hT hi pv n cv hle (.slice none 0 cap) (Src.ofNil (P := Tryd.prog) w hT cap)
    refine wpList_plain hgd fun K hK => ?_
    unfold Oper.wp execOp
    simp only [ho, resolve, invoke, builtin, Sem.run_bind, Sem.run_pure, Result.andThen_ok, List.map_toArray, List.map_cons, List.map_nil, hs, hx, hr]
    exact hK _ _ (h _ _ (by rw [Nat.add_zero, List.append_nil]; exact hown) (World.grownBy.refl _ _))
  | some ad =>
    exact wpList_append_own_at w hgd s x T ho base E i0 z k sz hT hi iz0 iz1 iz2 hz1 hk v n xs hs hown ad m cap us hx hlen (hu ad rfl) h1 (by unfold maxLen; omega) (by
      have : (n + m) * sz ≤ 1000001 * 128 := Nat.mul_le_mul (by omega) hsz
      omega) hbase fun v' w' k1 k2 _ _ => h v' w' k1 k2
set_option maxRecDepth 100000 in
set_option maxHeartbeats 4000000 in
theorem uses_k1 (x : Xn) (va : Value) (hk : x.kind = 1) (w : World) (hva : NumsAt (fun b => b < w.heap.size) w va x.args) (hl6 : x.args.length ≤ 6) : Calls Tryd.prog 14 #[xnV x va] w fun e w' => NumRes w.heap.size (usesL x) e w' ∧ Below w.heap.size w w' := by
  obtain ⟨k, d, a, b, op, n, name, args⟩ := x
  simp only at hk hva hl6
  subst hk
  obtain ⟨pa, ca, hva2⟩ := row_slice hva
  subst hva2
  have HVA := Lib.hid hva
  clear hva
  obtain ⟨na, hna⟩ : ∃ m : Nat, args.length = m := ⟨_, rfl⟩
  have HNA := Lib.hid hna
  rw [hna] at HVA hl6
  have HK : Hid (∀ w, Calls Tryd.prog 28 #[.int .i64 1] w fun e w' => e = .returned (.int .i64 9) ∧ w = w') := Lib.hid (fun w => has_any 1 w)
  have b1 : bits BinOp.and IntKind.i64 9 2 = 0 := by kernel_rfl
  have b2 : bits BinOp.and IntKind.i64 9 4 = 0 := by kernel_rfl
  have b3 : bits BinOp.and IntKind.i64 9 128 = 0 := by kernel_rfl
  have HE : Hid (usesL ⟨1, d, a, b, op, n, name, args⟩ = []) := Lib.hid (by simp [usesL, hA, hB])
  obtain ⟨w0, hw0⟩ : ∃ w0, w.alloc (.cells #[.int .i64 1, .int .i64 d, .int .i64 a, .int .i64 b, .int .i64 op, .int .i64 n, .string (mk name), .slice pa na ca] 36) = w0 := ⟨_, rfl⟩
  have HX : Hid (w0.heap[w.heap.size]? = some (.cells #[.int .i64 1, .int .i64 d, .int .i64 a, .int .i64 b, .int .i64 op, .int .i64 n, .string (mk name), .slice pa na ca] 36 (0, 0))) := Lib.hid (by rw [← hw0]; exact heap_new _ _)
  have HB0 : Hid (Below w.heap.size w w0) := Lib.hid (by rw [← hw0]; exact ext_alloc (Below.refl _ _) _)
  rw [HE.out]
  rw [hna]
  clear hna
  unfold xnV NumRes
  go_enter Tryd.func14, Tryd.ntmps14
  go_upto_region 1 with (fail)
  try rw [HNA.out]
  try rw [hw0]
  clear hw0
  obtain ⟨c0, c1, c2, c3, c4, c5, c6, c7⟩ := eight_cells' HX.out
  have hz : w.heap.size < w0.heap.size := (Array.getElem?_eq_some_iff.1 HX.out).1
  go_wp2_with fail
  refine (HK.out _).mono ?_; rintro e w1 ⟨rfl, rfl⟩
  go_wp2_with fail
  go_ret
  exact ⟨⟨_, rfl, RowAt.nil⟩, HB0.out⟩
set_option maxRecDepth 100000 in
set_option maxHeartbeats 4000000 in
theorem uses_k2 (x : Xn) (va : Value) (hk : x.kind = 2) (w : World) (hva : NumsAt (fun b => b < w.heap.size) w va x.args) (hl6 : x.args.length ≤ 6) : Calls Tryd.prog 14 #[xnV x va] w fun e w' => NumRes w.heap.size (usesL x) e w' ∧ Below w.heap.size w w' := by
  obtain ⟨k, d, a, b, op, n, name, args⟩ := x
  simp only at hk hva hl6
  subst hk
  obtain ⟨pa, ca, hva2⟩ := row_slice hva
  subst hva2
  have HVA := Lib.hid hva
  clear hva
  obtain ⟨na, hna⟩ : ∃ m : Nat, args.length = m := ⟨_, rfl⟩
  have HNA := Lib.hid hna
  rw [hna] at HVA hl6
  have HK : Hid (∀ w, Calls Tryd.prog 28 #[.int .i64 2] w fun e w' => e = .returned (.int .i64 3) ∧ w = w') := Lib.hid (fun w => has_any 2 w)
  have b1 : bits BinOp.and IntKind.i64 3 2 = 2 := by kernel_rfl
  have b2 : bits BinOp.and IntKind.i64 3 4 = 0 := by kernel_rfl
  have b3 : bits BinOp.and IntKind.i64 3 128 = 0 := by kernel_rfl
  have HE : Hid (usesL ⟨2, d, a, b, op, n, name, args⟩ = [a]) := Lib.hid (by simp [usesL, hA, hB])
  obtain ⟨w0, hw0⟩ : ∃ w0, w.alloc (.cells #[.int .i64 2, .int .i64 d, .int .i64 a, .int .i64 b, .int .i64 op, .int .i64 n, .string (mk name), .slice pa na ca] 36) = w0 := ⟨_, rfl⟩
  have HX : Hid (w0.heap[w.heap.size]? = some (.cells #[.int .i64 2, .int .i64 d, .int .i64 a, .int .i64 b, .int .i64 op, .int .i64 n, .string (mk name), .slice pa na ca] 36 (0, 0))) := Lib.hid (by rw [← hw0]; exact heap_new _ _)
  have HB0 : Hid (Below w.heap.size w w0) := Lib.hid (by rw [← hw0]; exact ext_alloc (Below.refl _ _) _)
  rw [HE.out]
  rw [hna]
  clear hna
  unfold xnV NumRes
  go_enter Tryd.func14, Tryd.ntmps14
  go_upto_region 1 with (fail)
  try rw [HNA.out]
  try rw [hw0]
  clear hw0
  obtain ⟨c0, c1, c2, c3, c4, c5, c6, c7⟩ := eight_cells' HX.out
  have hz : w.heap.size < w0.heap.size := (Array.getElem?_eq_some_iff.1 HX.out).1
  go_wp2_with fail
  refine (HK.out _).mono ?_; rintro e w1 ⟨rfl, rfl⟩
  go_wp2_with (at_builtin; refine app_at Tryd.underlying34 infoN rfl (by decide) (by decide) rfl _ _ rfl w0.heap.size _ 0 [] rfl (World.ownsRow_nil _ _ _ _) w0.heap.size 1 (cellsN a) rfl rfl (heap_new _ _) (oneN _) 1 rfl (by omega) (by simp) ?_; intro g1 p1 w2 hown2 hg2 hat2; have HB2 : Hid (Below w0.heap.size w0 w2) := Lib.hid (below_grown (ext_alloc (Below.refl _ _) _) hg2 (by simp) (fun k hk => by cases hk)); have HN2 : Hid (NumsAt (fun b => w.heap.size ≤ b) w2 (.slice (some ⟨g1, 0, none⟩) 1 p1) [a]) := Lib.hid (row_nums (L := [a]) (n := 1) hown2 (by simp) (fun g hg => by have := (hown2.lt g hg).1; omega)); clear hown2 hg2 hat2)
  go_wp2_with fail
  go_ret
  exact ⟨⟨_, rfl, HN2.out⟩, ext_trans HB0.out HB2.out⟩
set_option maxRecDepth 100000 in
set_option maxHeartbeats 4000000 in
theorem uses_k3 (x : Xn) (va : Value) (hk : x.kind = 3) (w : World) (hva : NumsAt (fun b => b < w.heap.size) w va x.args) (hl6 : x.args.length ≤ 6) : Calls Tryd.prog 14 #[xnV x va] w fun e w' => NumRes w.heap.size (usesL x) e w' ∧ Below w.heap.size w w' := by
  obtain ⟨k, d, a, b, op, n, name, args⟩ := x
  simp only at hk hva hl6
  subst hk
  obtain ⟨pa, ca, hva2⟩ := row_slice hva
  subst hva2
  have HVA := Lib.hid hva
  clear hva
  obtain ⟨na, hna⟩ : ∃ m : Nat, args.length = m := ⟨_, rfl⟩
  have HNA := Lib.hid hna
  rw [hna] at HVA hl6
  have HK : Hid (∀ w, Calls Tryd.prog 28 #[.int .i64 3] w fun e w' => e = .returned (.int .i64 19) ∧ w = w') := Lib.hid (fun w => has_any 3 w)
  have b1 : bits BinOp.and IntKind.i64 19 2 = 2 := by kernel_rfl
  have b2 : bits BinOp.and IntKind.i64 19 4 = 0 := by kernel_rfl
  have b3 : bits BinOp.and IntKind.i64 19 128 = 0 := by kernel_rfl
  have HE : Hid (usesL ⟨3, d, a, b, op, n, name, args⟩ = [a]) := Lib.hid (by simp [usesL, hA, hB])
  obtain ⟨w0, hw0⟩ : ∃ w0, w.alloc (.cells #[.int .i64 3, .int .i64 d, .int .i64 a, .int .i64 b, .int .i64 op, .int .i64 n, .string (mk name), .slice pa na ca] 36) = w0 := ⟨_, rfl⟩
  have HX : Hid (w0.heap[w.heap.size]? = some (.cells #[.int .i64 3, .int .i64 d, .int .i64 a, .int .i64 b, .int .i64 op, .int .i64 n, .string (mk name), .slice pa na ca] 36 (0, 0))) := Lib.hid (by rw [← hw0]; exact heap_new _ _)
  have HB0 : Hid (Below w.heap.size w w0) := Lib.hid (by rw [← hw0]; exact ext_alloc (Below.refl _ _) _)
  rw [HE.out]
  rw [hna]
  clear hna
  unfold xnV NumRes
  go_enter Tryd.func14, Tryd.ntmps14
  go_upto_region 1 with (fail)
  try rw [HNA.out]
  try rw [hw0]
  clear hw0
  obtain ⟨c0, c1, c2, c3, c4, c5, c6, c7⟩ := eight_cells' HX.out
  have hz : w.heap.size < w0.heap.size := (Array.getElem?_eq_some_iff.1 HX.out).1
  go_wp2_with fail
  refine (HK.out _).mono ?_; rintro e w1 ⟨rfl, rfl⟩
  go_wp2_with (at_builtin; refine app_at Tryd.underlying34 infoN rfl (by decide) (by decide) rfl _ _ rfl w0.heap.size _ 0 [] rfl (World.ownsRow_nil _ _ _ _) w0.heap.size 1 (cellsN a) rfl rfl (heap_new _ _) (oneN _) 1 rfl (by omega) (by simp) ?_; intro g1 p1 w2 hown2 hg2 hat2; have HB2 : Hid (Below w0.heap.size w0 w2) := Lib.hid (below_grown (ext_alloc (Below.refl _ _) _) hg2 (by simp) (fun k hk => by cases hk)); have HN2 : Hid (NumsAt (fun b => w.heap.size ≤ b) w2 (.slice (some ⟨g1, 0, none⟩) 1 p1) [a]) := Lib.hid (row_nums (L := [a]) (n := 1) hown2 (by simp) (fun g hg => by have := (hown2.lt g hg).1; omega)); clear hown2 hg2 hat2)
  go_wp2_with fail
  go_ret
  exact ⟨⟨_, rfl, HN2.out⟩, ext_trans HB0.out HB2.out⟩
set_option maxRecDepth 100000 in
set_option maxHeartbeats 4000000 in
theorem uses_k4 (x : Xn) (va : Value) (hk : x.kind = 4) (w : World) (hva : NumsAt (fun b => b < w.heap.size) w va x.args) (hl6 : x.args.length ≤ 6) : Calls Tryd.prog 14 #[xnV x va] w fun e w' => NumRes w.heap.size (usesL x) e w' ∧ Below w.heap.size w w' := by
  obtain ⟨k, d, a, b, op, n, name, args⟩ := x
  simp only at hk hva hl6
  subst hk
  obtain ⟨pa, ca, hva2⟩ := row_slice hva
  subst hva2
  have HVA := Lib.hid hva
  clear hva
  obtain ⟨na, hna⟩ : ∃ m : Nat, args.length = m := ⟨_, rfl⟩
  have HNA := Lib.hid hna
  rw [hna] at HVA hl6
  have HK : Hid (∀ w, Calls Tryd.prog 28 #[.int .i64 4] w fun e w' => e = .returned (.int .i64 39) ∧ w = w') := Lib.hid (fun w => has_any 4 w)
  have b1 : bits BinOp.and IntKind.i64 39 2 = 2 := by kernel_rfl
  have b2 : bits BinOp.and IntKind.i64 39 4 = 4 := by kernel_rfl
  have b3 : bits BinOp.and IntKind.i64 39 128 = 0 := by kernel_rfl
  have HE : Hid (usesL ⟨4, d, a, b, op, n, name, args⟩ = [a, b]) := Lib.hid (by simp [usesL, hA, hB])
  obtain ⟨w0, hw0⟩ : ∃ w0, w.alloc (.cells #[.int .i64 4, .int .i64 d, .int .i64 a, .int .i64 b, .int .i64 op, .int .i64 n, .string (mk name), .slice pa na ca] 36) = w0 := ⟨_, rfl⟩
  have HX : Hid (w0.heap[w.heap.size]? = some (.cells #[.int .i64 4, .int .i64 d, .int .i64 a, .int .i64 b, .int .i64 op, .int .i64 n, .string (mk name), .slice pa na ca] 36 (0, 0))) := Lib.hid (by rw [← hw0]; exact heap_new _ _)
  have HB0 : Hid (Below w.heap.size w w0) := Lib.hid (by rw [← hw0]; exact ext_alloc (Below.refl _ _) _)
  rw [HE.out]
  rw [hna]
  clear hna
  unfold xnV NumRes
  go_enter Tryd.func14, Tryd.ntmps14
  go_upto_region 1 with (fail)
  try rw [HNA.out]
  try rw [hw0]
  clear hw0
  obtain ⟨c0, c1, c2, c3, c4, c5, c6, c7⟩ := eight_cells' HX.out
  have hz : w.heap.size < w0.heap.size := (Array.getElem?_eq_some_iff.1 HX.out).1
  go_wp2_with fail
  refine (HK.out _).mono ?_; rintro e w1 ⟨rfl, rfl⟩
  go_upto_region 6 with (at_builtin; refine app_at Tryd.underlying34 infoN rfl (by decide) (by decide) rfl _ _ rfl w0.heap.size _ 0 [] rfl (World.ownsRow_nil _ _ _ _) w0.heap.size 1 (cellsN a) rfl rfl (heap_new _ _) (oneN _) 1 rfl (by omega) (by simp) ?_; intro g1 p1 w2 hown2 hg2 hat2; have HO2 := Lib.hid hown2; have HB2 : Hid (Below w0.heap.size w0 w2) := Lib.hid (below_grown (ext_alloc (Below.refl _ _) _) hg2 (by simp) (fun k hk => by cases hk)); clear hown2 hg2 hat2; have c3 := (HB2.out.cell (cell_lt c3)).trans c3; have c7 := (HB2.out.cell (cell_lt c7)).trans c7; have hz2 : w.heap.size < w2.heap.size := by have := HB2.out.size; omega)
  go_wp2_with (at_builtin; (refine app_at Tryd.underlying34 infoN rfl (by decide) (by decide) rfl _ _ rfl w0.heap.size _ 1 ([] ++ cellsN a) rfl (own_ext HO2.out (ext_alloc (Below.refl _ _) _)) w2.heap.size 1 (cellsN b) rfl rfl (heap_new _ _) (oneN _) 2 rfl (by omega) (by have := HB2.out.size; simp; omega) ?_; intro g3 p3 w3 hown3 hg3 hat3))
  have HB3 : Hid (Below w0.heap.size w0 w3) := Lib.hid (below_grown (ext_alloc HB2.out _) hg3 (by have := HB2.out.size; simp; omega) (fun k hk => (HO2.out.lt k hk).1))
  have HN3 : Hid (NumsAt (fun b => w.heap.size ≤ b) w3 (.slice (some ⟨g3, 0, none⟩) 2 p3) [a, b]) := Lib.hid (row_nums (L := [a, b]) (n := 2) hown3 (by simp) (fun g hg => by have := (hown3.lt g hg).1; omega))
  clear hown3 hg3 hat3
  go_wp2_with fail
  go_ret
  exact ⟨⟨_, rfl, HN3.out⟩, ext_trans HB0.out HB3.out⟩
set_option maxRecDepth 100000 in
set_option maxHeartbeats 4000000 in
theorem uses_k5 (x : Xn) (va : Value) (hk : x.kind = 5) (w : World) (hva : NumsAt (fun b => b < w.heap.size) w va x.args) (hl6 : x.args.length ≤ 6) : Calls Tryd.prog 14 #[xnV x va] w fun e w' => NumRes w.heap.size (usesL x) e w' ∧ Below w.heap.size w w' := by
  obtain ⟨k, d, a, b, op, n, name, args⟩ := x
  simp only at hk hva hl6
  subst hk
  obtain ⟨pa, ca, hva2⟩ := row_slice hva
  subst hva2
  have HVA := Lib.hid hva
  clear hva
  obtain ⟨na, hna⟩ : ∃ m : Nat, args.length = m := ⟨_, rfl⟩
  have HNA := Lib.hid hna
  rw [hna] at HVA hl6
  have HK : Hid (∀ w, Calls Tryd.prog 28 #[.int .i64 5] w fun e w' => e = .returned (.int .i64 67) ∧ w = w') := Lib.hid (fun w => has_any 5 w)
  have b1 : bits BinOp.and IntKind.i64 67 2 = 2 := by kernel_rfl
  have b2 : bits BinOp.and IntKind.i64 67 4 = 0 := by kernel_rfl
  have b3 : bits BinOp.and IntKind.i64 67 128 = 0 := by kernel_rfl
  have HE : Hid (usesL ⟨5, d, a, b, op, n, name, args⟩ = [a]) := Lib.hid (by simp [usesL, hA, hB])
  obtain ⟨w0, hw0⟩ : ∃ w0, w.alloc (.cells #[.int .i64 5, .int .i64 d, .int .i64 a, .int .i64 b, .int .i64 op, .int .i64 n, .string (mk name), .slice pa na ca] 36) = w0 := ⟨_, rfl⟩
  have HX : Hid (w0.heap[w.heap.size]? = some (.cells #[.int .i64 5, .int .i64 d, .int .i64 a, .int .i64 b, .int .i64 op, .int .i64 n, .string (mk name), .slice pa na ca] 36 (0, 0))) := Lib.hid (by rw [← hw0]; exact heap_new _ _)
  have HB0 : Hid (Below w.heap.size w w0) := Lib.hid (by rw [← hw0]; exact ext_alloc (Below.refl _ _) _)
  rw [HE.out]
  rw [hna]
  clear hna
  unfold xnV NumRes
  go_enter Tryd.func14, Tryd.ntmps14
  go_upto_region 1 with (fail)
  try rw [HNA.out]
  try rw [hw0]
  clear hw0
  obtain ⟨c0, c1, c2, c3, c4, c5, c6, c7⟩ := eight_cells' HX.out
  have hz : w.heap.size < w0.heap.size := (Array.getElem?_eq_some_iff.1 HX.out).1
  go_wp2_with fail
  refine (HK.out _).mono ?_; rintro e w1 ⟨rfl, rfl⟩
  go_wp2_with (at_builtin; refine app_at Tryd.underlying34 infoN rfl (by decide) (by decide) rfl _ _ rfl w0.heap.size _ 0 [] rfl (World.ownsRow_nil _ _ _ _) w0.heap.size 1 (cellsN a) rfl rfl (heap_new _ _) (oneN _) 1 rfl (by omega) (by simp) ?_; intro g1 p1 w2 hown2 hg2 hat2; have HB2 : Hid (Below w0.heap.size w0 w2) := Lib.hid (below_grown (ext_alloc (Below.refl _ _) _) hg2 (by simp) (fun k hk => by cases hk)); have HN2 : Hid (NumsAt (fun b => w.heap.size ≤ b) w2 (.slice (some ⟨g1, 0, none⟩) 1 p1) [a]) := Lib.hid (row_nums (L := [a]) (n := 1) hown2 (by simp) (fun g hg => by have := (hown2.lt g hg).1; omega)); clear hown2 hg2 hat2)
  go_wp2_with fail
  go_ret
  exact ⟨⟨_, rfl, HN2.out⟩, ext_trans HB0.out HB2.out⟩
set_option maxRecDepth 100000 in
set_option maxHeartbeats 4000000 in
theorem uses_k6 (x : Xn) (va : Value) (hk : x.kind = 6) (w : World) (hva : NumsAt (fun b => b < w.heap.size) w va x.args) (hl6 : x.args.length ≤ 6) : Calls Tryd.prog 14 #[xnV x va] w fun e w' => NumRes w.heap.size (usesL x) e w' ∧ Below w.heap.size w w' := by
  obtain ⟨k, d, a, b, op, n, name, args⟩ := x
  simp only at hk hva hl6
  subst hk
  obtain ⟨pa, ca, hva2⟩ := row_slice hva
  subst hva2
  have HVA := Lib.hid hva
  clear hva
  obtain ⟨na, hna⟩ : ∃ m : Nat, args.length = m := ⟨_, rfl⟩
  have HNA := Lib.hid hna
  rw [hna] at HVA hl6
  have HK : Hid (∀ w, Calls Tryd.prog 28 #[.int .i64 6] w fun e w' => e = .returned (.int .i64 70) ∧ w = w') := Lib.hid (fun w => has_any 6 w)
  have b1 : bits BinOp.and IntKind.i64 70 2 = 2 := by kernel_rfl
  have b2 : bits BinOp.and IntKind.i64 70 4 = 4 := by kernel_rfl
  have b3 : bits BinOp.and IntKind.i64 70 128 = 0 := by kernel_rfl
  have HE : Hid (usesL ⟨6, d, a, b, op, n, name, args⟩ = [a, b]) := Lib.hid (by simp [usesL, hA, hB])
  obtain ⟨w0, hw0⟩ : ∃ w0, w.alloc (.cells #[.int .i64 6, .int .i64 d, .int .i64 a, .int .i64 b, .int .i64 op, .int .i64 n, .string (mk name), .slice pa na ca] 36) = w0 := ⟨_, rfl⟩
  have HX : Hid (w0.heap[w.heap.size]? = some (.cells #[.int .i64 6, .int .i64 d, .int .i64 a, .int .i64 b, .int .i64 op, .int .i64 n, .string (mk name), .slice pa na ca] 36 (0, 0))) := Lib.hid (by rw [← hw0]; exact heap_new _ _)
  have HB0 : Hid (Below w.heap.size w w0) := Lib.hid (by rw [← hw0]; exact ext_alloc (Below.refl _ _) _)
  rw [HE.out]
  rw [hna]
  clear hna
  unfold xnV NumRes
  go_enter Tryd.func14, Tryd.ntmps14
  go_upto_region 1 with (fail)
  try rw [HNA.out]
  try rw [hw0]
  clear hw0
  obtain ⟨c0, c1, c2, c3, c4, c5, c6, c7⟩ := eight_cells' HX.out
  have hz : w.heap.size < w0.heap.size := (Array.getElem?_eq_some_iff.1 HX.out).1
  go_wp2_with fail
  refine (HK.out _).mono ?_; rintro e w1 ⟨rfl, rfl⟩
  go_upto_region 6 with (at_builtin; refine app_at Tryd.underlying34 infoN rfl (by decide) (by decide) rfl _ _ rfl w0.heap.size _ 0 [] rfl (World.ownsRow_nil _ _ _ _) w0.heap.size 1 (cellsN a) rfl rfl (heap_new _ _) (oneN _) 1 rfl (by omega) (by simp) ?_; intro g1 p1 w2 hown2 hg2 hat2; have HO2 := Lib.hid hown2; have HB2 : Hid (Below w0.heap.size w0 w2) := Lib.hid (below_grown (ext_alloc (Below.refl _ _) _) hg2 (by simp) (fun k hk => by cases hk)); clear hown2 hg2 hat2; have c3 := (HB2.out.cell (cell_lt c3)).trans c3; have c7 := (HB2.out.cell (cell_lt c7)).trans c7; have hz2 : w.heap.size < w2.heap.size := by have := HB2.out.size; omega)
  go_wp2_with (at_builtin; (refine app_at Tryd.underlying34 infoN rfl (by decide) (by decide) rfl _ _ rfl w0.heap.size _ 1 ([] ++ cellsN a) rfl (own_ext HO2.out (ext_alloc (Below.refl _ _) _)) w2.heap.size 1 (cellsN b) rfl rfl (heap_new _ _) (oneN _) 2 rfl (by omega) (by have := HB2.out.size; simp; omega) ?_; intro g3 p3 w3 hown3 hg3 hat3))
  have HB3 : Hid (Below w0.heap.size w0 w3) := Lib.hid (below_grown (ext_alloc HB2.out _) hg3 (by have := HB2.out.size; simp; omega) (fun k hk => (HO2.out.lt k hk).1))
  have HN3 : Hid (NumsAt (fun b => w.heap.size ≤ b) w3 (.slice (some ⟨g3, 0, none⟩) 2 p3) [a, b]) := Lib.hid (row_nums (L := [a, b]) (n := 2) hown3 (by simp) (fun g hg => by have := (hown3.lt g hg).1; omega))
  clear hown3 hg3 hat3
  go_wp2_with fail
  go_ret
  exact ⟨⟨_, rfl, HN3.out⟩, ext_trans HB0.out HB3.out⟩
set_option maxRecDepth 100000 in
set_option maxHeartbeats 4000000 in
theorem uses_k7 (x : Xn) (va : Value) (hk : x.kind = 7) (w : World) (hva : NumsAt (fun b => b < w.heap.size) w va x.args) (hl6 : x.args.length ≤ 6) : Calls Tryd.prog 14 #[xnV x va] w fun e w' => NumRes w.heap.size (usesL x) e w' ∧ Below w.heap.size w w' := by
  obtain ⟨k, d, a, b, op, n, name, args⟩ := x
  simp only at hk hva hl6
  subst hk
  obtain ⟨pa, ca, hva2⟩ := row_slice hva
  subst hva2
  have HVA := Lib.hid hva
  clear hva
  obtain ⟨na, hna⟩ : ∃ m : Nat, args.length = m := ⟨_, rfl⟩
  have HNA := Lib.hid hna
  rw [hna] at HVA hl6
  have HK : Hid (∀ w, Calls Tryd.prog 28 #[.int .i64 7] w fun e w' => e = .returned (.int .i64 1) ∧ w = w') := Lib.hid (fun w => has_any 7 w)
  have b1 : bits BinOp.and IntKind.i64 1 2 = 0 := by kernel_rfl
  have b2 : bits BinOp.and IntKind.i64 1 4 = 0 := by kernel_rfl
  have b3 : bits BinOp.and IntKind.i64 1 128 = 0 := by kernel_rfl
  have HE : Hid (usesL ⟨7, d, a, b, op, n, name, args⟩ = []) := Lib.hid (by simp [usesL, hA, hB])
  obtain ⟨w0, hw0⟩ : ∃ w0, w.alloc (.cells #[.int .i64 7, .int .i64 d, .int .i64 a, .int .i64 b, .int .i64 op, .int .i64 n, .string (mk name), .slice pa na ca] 36) = w0 := ⟨_, rfl⟩
  have HX : Hid (w0.heap[w.heap.size]? = some (.cells #[.int .i64 7, .int .i64 d, .int .i64 a, .int .i64 b, .int .i64 op, .int .i64 n, .string (mk name), .slice pa na ca] 36 (0, 0))) := Lib.hid (by rw [← hw0]; exact heap_new _ _)
  have HB0 : Hid (Below w.heap.size w w0) := Lib.hid (by rw [← hw0]; exact ext_alloc (Below.refl _ _) _)
  rw [HE.out]
  rw [hna]
  clear hna
  unfold xnV NumRes
  go_enter Tryd.func14, Tryd.ntmps14
  go_upto_region 1 with (fail)
  try rw [HNA.out]
  try rw [hw0]
  clear hw0
  obtain ⟨c0, c1, c2, c3, c4, c5, c6, c7⟩ := eight_cells' HX.out
  have hz : w.heap.size < w0.heap.size := (Array.getElem?_eq_some_iff.1 HX.out).1
  go_wp2_with fail
  refine (HK.out _).mono ?_; rintro e w1 ⟨rfl, rfl⟩
  go_wp2_with fail
  go_ret
  exact ⟨⟨_, rfl, RowAt.nil⟩, HB0.out⟩
set_option maxRecDepth 100000 in
set_option maxHeartbeats 4000000 in
theorem uses_k8 (x : Xn) (va : Value) (hk : x.kind = 8) (w : World) (hva : NumsAt (fun b => b < w.heap.size) w va x.args) (hl6 : x.args.length ≤ 6) : Calls Tryd.prog 14 #[xnV x va] w fun e w' => NumRes w.heap.size (usesL x) e w' ∧ Below w.heap.size w w' := by
  obtain ⟨k, d, a, b, op, n, name, args⟩ := x
  simp only at hk hva hl6
  subst hk
  obtain ⟨pa, ca, hva2⟩ := row_slice hva
  subst hva2
  have HVA := Lib.hid hva
  clear hva
  obtain ⟨na, hna⟩ : ∃ m : Nat, args.length = m := ⟨_, rfl⟩
  have HNA := Lib.hid hna
  rw [hna] at HVA hl6
  have HK : Hid (∀ w, Calls Tryd.prog 28 #[.int .i64 8] w fun e w' => e = .returned (.int .i64 2) ∧ w = w') := Lib.hid (fun w => has_any 8 w)
  have b1 : bits BinOp.and IntKind.i64 2 2 = 2 := by kernel_rfl
  have b2 : bits BinOp.and IntKind.i64 2 4 = 0 := by kernel_rfl
  have b3 : bits BinOp.and IntKind.i64 2 128 = 0 := by kernel_rfl
  have HE : Hid (usesL ⟨8, d, a, b, op, n, name, args⟩ = [a]) := Lib.hid (by simp [usesL, hA, hB])
  obtain ⟨w0, hw0⟩ : ∃ w0, w.alloc (.cells #[.int .i64 8, .int .i64 d, .int .i64 a, .int .i64 b, .int .i64 op, .int .i64 n, .string (mk name), .slice pa na ca] 36) = w0 := ⟨_, rfl⟩
  have HX : Hid (w0.heap[w.heap.size]? = some (.cells #[.int .i64 8, .int .i64 d, .int .i64 a, .int .i64 b, .int .i64 op, .int .i64 n, .string (mk name), .slice pa na ca] 36 (0, 0))) := Lib.hid (by rw [← hw0]; exact heap_new _ _)
  have HB0 : Hid (Below w.heap.size w w0) := Lib.hid (by rw [← hw0]; exact ext_alloc (Below.refl _ _) _)
  rw [HE.out]
  rw [hna]
  clear hna
  unfold xnV NumRes
  go_enter Tryd.func14, Tryd.ntmps14
  go_upto_region 1 with (fail)
  try rw [HNA.out]
  try rw [hw0]
  clear hw0
  obtain ⟨c0, c1, c2, c3, c4, c5, c6, c7⟩ := eight_cells' HX.out
  have hz : w.heap.size < w0.heap.size := (Array.getElem?_eq_some_iff.1 HX.out).1
  go_wp2_with fail
  refine (HK.out _).mono ?_; rintro e w1 ⟨rfl, rfl⟩
  go_wp2_with (at_builtin; refine app_at Tryd.underlying34 infoN rfl (by decide) (by decide) rfl _ _ rfl w0.heap.size _ 0 [] rfl (World.ownsRow_nil _ _ _ _) w0.heap.size 1 (cellsN a) rfl rfl (heap_new _ _) (oneN _) 1 rfl (by omega) (by simp) ?_; intro g1 p1 w2 hown2 hg2 hat2; have HB2 : Hid (Below w0.heap.size w0 w2) := Lib.hid (below_grown (ext_alloc (Below.refl _ _) _) hg2 (by simp) (fun k hk => by cases hk)); have HN2 : Hid (NumsAt (fun b => w.heap.size ≤ b) w2 (.slice (some ⟨g1, 0, none⟩) 1 p1) [a]) := Lib.hid (row_nums (L := [a]) (n := 1) hown2 (by simp) (fun g hg => by have := (hown2.lt g hg).1; omega)); clear hown2 hg2 hat2)
  go_wp2_with fail
  go_ret
  exact ⟨⟨_, rfl, HN2.out⟩, ext_trans HB0.out HB2.out⟩
set_option maxRecDepth 100000 in
set_option maxHeartbeats 4000000 in
theorem uses_k9 (x : Xn) (va : Value) (hk : x.kind = 9) (w : World) (hva : NumsAt (fun b => b < w.heap.size) w va x.args) (hl6 : x.args.length ≤ 6) : Calls Tryd.prog 14 #[xnV x va] w fun e w' => NumRes w.heap.size (usesL x) e w' ∧ Below w.heap.size w w' := by
  obtain ⟨k, d, a, b, op, n, name, args⟩ := x
  simp only at hk hva hl6
  subst hk
  obtain ⟨pa, ca, hva2⟩ := row_slice hva
  subst hva2
  have HVA := Lib.hid hva
  clear hva
  obtain ⟨na, hna⟩ : ∃ m : Nat, args.length = m := ⟨_, rfl⟩
  have HNA := Lib.hid hna
  rw [hna] at HVA hl6
  have HK : Hid (∀ w, Calls Tryd.prog 28 #[.int .i64 9] w fun e w' => e = .returned (.int .i64 129) ∧ w = w') := Lib.hid (fun w => has_any 9 w)
  have b1 : bits BinOp.and IntKind.i64 129 2 = 0 := by kernel_rfl
  have b2 : bits BinOp.and IntKind.i64 129 4 = 0 := by kernel_rfl
  have b3 : bits BinOp.and IntKind.i64 129 128 = 128 := by kernel_rfl
  have HE : Hid (usesL ⟨9, d, a, b, op, n, name, args⟩ = args) := Lib.hid (by simp [usesL, hA, hB])
  obtain ⟨w0, hw0⟩ : ∃ w0, w.alloc (.cells #[.int .i64 9, .int .i64 d, .int .i64 a, .int .i64 b, .int .i64 op, .int .i64 n, .string (mk name), .slice pa na ca] 36) = w0 := ⟨_, rfl⟩
  have HX : Hid (w0.heap[w.heap.size]? = some (.cells #[.int .i64 9, .int .i64 d, .int .i64 a, .int .i64 b, .int .i64 op, .int .i64 n, .string (mk name), .slice pa na ca] 36 (0, 0))) := Lib.hid (by rw [← hw0]; exact heap_new _ _)
  have HB0 : Hid (Below w.heap.size w w0) := Lib.hid (by rw [← hw0]; exact ext_alloc (Below.refl _ _) _)
  rw [HE.out]
  rw [hna]
  clear hna
  unfold xnV NumRes
  go_enter Tryd.func14, Tryd.ntmps14
  go_upto_region 1 with (fail)
  try rw [HNA.out]
  try rw [hw0]
  clear hw0
  obtain ⟨c0, c1, c2, c3, c4, c5, c6, c7⟩ := eight_cells' HX.out
  have hz : w.heap.size < w0.heap.size := (Array.getElem?_eq_some_iff.1 HX.out).1
  go_wp2_with fail
  refine (HK.out _).mono ?_; rintro e w1 ⟨rfl, rfl⟩
  have HNR := Lib.hid (nums_read HVA.out)
  have HNN : Hid (pa = none → na = 0) := Lib.hid (fun e => by have h := HVA.out; rw [e] at h; exact nums_none h)
  have HLA : Hid ((args.flatMap cellsN).length = na * 1) := Lib.hid (by rw [flat_len cellsN 1 lenN, HNA.out])
  have HCL : Hid (∀ ad, pa = some ad → ∀ j u, (args.flatMap cellsN)[j]? = some u → w0.cell? (ad.add j) = some u) := Lib.hid (fun ad e j u hj => (HB0.out.cell (cell_lt (HNR.out.2 ad e j u hj))).trans (HNR.out.2 ad e j u hj))
  have HON : Hid (∀ u ∈ args.flatMap cellsN, u.oneCell' = true) := Lib.hid (fun u hu => by
    obtain ⟨c, _, hu⟩ := List.mem_flatMap.1 hu
    exact oneN c u hu)
  go_wp2_with (at_builtin; refine wpl_app_row Tryd.underlying34 infoN rfl (by decide) (by decide) rfl _ _ rfl w0.heap.size rfl pa na ca (args.flatMap cellsN) rfl HLA.out HCL.out HNN.out HON.out (by omega) (Nat.le_refl _) ?_; intro v2 w2 hown2 hg2; have HB2 : Hid (Below w0.heap.size w0 w2) := Lib.hid (below_grown (Below.refl _ _) hg2 (Nat.le_refl _) (fun k hk => by cases hk)); have HN2 : Hid (NumsAt (fun b => w.heap.size ≤ b) w2 v2 args) := Lib.hid (row_nums hown2 (by rw [HNA.out]; omega) (fun g hg => by have := (hown2.lt g hg).1; omega)); clear hown2 hg2)
  go_wp2_with fail
  go_ret
  exact ⟨⟨_, rfl, HN2.out⟩, ext_trans HB0.out HB2.out⟩
theorem uses_any (x : Xn) (va : Value) (h1 : 1 ≤ x.kind) (h9 : x.kind ≤ 9) (w : World) (hva : NumsAt (fun b => b < w.heap.size) w va x.args) (hl6 : x.args.length ≤ 6) : Calls Tryd.prog 14 #[xnV x va] w fun e w' => NumRes w.heap.size (usesL x) e w' ∧ Below w.heap.size w w' := by
  rcases (by omega : x.kind = 1 ∨ x.kind = 2 ∨ x.kind = 3 ∨ x.kind = 4 ∨ x.kind = 5 ∨ x.kind = 6 ∨ x.kind = 7 ∨ x.kind = 8 ∨ x.kind = 9) with h | h | h | h | h | h | h | h | h
  · exact uses_k1 x va h w hva hl6
  · exact uses_k2 x va h w hva hl6
  · exact uses_k3 x va h w hva hl6
  · exact uses_k4 x va h w hva hl6
  · exact uses_k5 x va h w hva hl6
  · exact uses_k6 x va h w hva hl6
  · exact uses_k7 x va h w hva hl6
  · exact uses_k8 x va h w hva hl6
  · exact uses_k9 x va h w hva hl6
set_option maxRecDepth 100000 in
set_option maxHeartbeats 4000000 in
/-- Two lists that are the same are told so. -/
theorem ints_same (L : List Int) (va vb : Value) (w : World) (ha : NumsAt (fun _ => True) w va L) (hb : NumsAt (fun _ => True) w vb L) : Calls Tryd.prog 15 #[va, vb] w fun e w' => e = .returned (.bool true) ∧ Below w.heap.size w w' := by
  obtain ⟨hl, pa, ca, rfl, hca⟩ := ha
  obtain ⟨_, pb, cb, rfl, hcb⟩ := hb
  have HA := Lib.hid hca
  have HB := Lib.hid hcb
  clear hca hcb
  obtain ⟨n, hn⟩ : ∃ n : Nat, L.length = n := ⟨_, rfl⟩
  have HN := Lib.hid hn
  rw [hn] at hl ⊢
  clear hn
  go_enter Tryd.func15, Tryd.ntmps15
  go_wp2_with fail
  go_loopw [5] (fun iv wr => ∃ i : Nat, iv = .int .i64 i ∧ i ≤ n ∧ Below w.heap.size w wr) (fun iv wr => n - slotN iv)
  case atStart => exact ⟨0, rfl, Nat.zero_le _, Below.refl _ _⟩
  case round =>
    obtain ⟨i, rfl, hi, hbw⟩ := hrel
    have HW := Lib.hid hbw
    clear hbw
    by_cases h : i < n
    · have hil : i < L.length := by rw [HN.out]; exact h
      obtain ⟨aa, rfl, _, ka⟩ := HA.out i hil
      obtain ⟨ab, rfl, _, kb⟩ := HB.out i hil
      rw [Nat.mul_one] at ka kb
      have q1 : wr.cell? (aa.add i) = some (.int .i64 (L[i]'hil)) := (HW.out.cell (cell_lt ka)).trans ka
      have q2 : wr.cell? (ab.add i) = some (.int .i64 (L[i]'hil)) := (HW.out.cell (cell_lt kb)).trans kb
      have hij : (i : Int) < n := by omega
      generalize L[i]'hil = x at *
      clear ka kb
      go_upto_region 6 with (fail)
      go_quiet (fail)
      go_wp2_with fail
      go_roundw
      case rel => exact ⟨i + 1, by go_num, by omega, ext_drewN HW.out _⟩
      case measure => simp [slotN]; omega
    · obtain rfl : i = n := by omega
      go_wp2_with fail
      go_ret
      exact ⟨rfl, HW.out⟩
end Go.Proofs.YtafapkljlajflaaDoor
