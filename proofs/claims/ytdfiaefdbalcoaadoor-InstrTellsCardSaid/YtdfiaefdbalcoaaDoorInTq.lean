/- The document's own answer, in plain words: what is read of what was written. -/
import Derived.Test.YtdfiaefdbalcoaaDoorInTp
namespace Go.Proofs.YtdfiaefdbalcoaaDoor
def wr (x : Int) : Int := IntKind.i64.wrap x
theorem wr_in {x : Int} (h : I64 x) : wr x = x := IntWalk.i64_in x h
theorem wr_i (x : Int) : I64 (wr x) := by
  unfold wr I64 IntKind.wrap
  simp [IntKind.bits, IntKind.signed]
  omega
def vloop (neg : Bool) : List UInt8 → Int → Nat → Int × Nat
  | [], n, i => (n, i)
  | c :: r, n, i => if digitB c = true ∧ i < 20 then vloop neg r (wr (wr (10 * n) + (if neg then -((c.toNat : Int) - 48) else (c.toNat : Int) - 48))) (i + 1) else (n, i)
def valueL (s : List UInt8) : Int × Nat := if s.head? = some 45 then vloop true (s.drop 1) 0 1 else vloop false s 0 0
theorem vloop_i (neg : Bool) : ∀ (l : List UInt8) (n : Int) (i : Nat), I64 n → I64 (vloop neg l n i).1 ∧ i ≤ (vloop neg l n i).2 ∧ (vloop neg l n i).2 ≤ i + l.length
  | [], n, i, h => ⟨h, Nat.le_refl _, by simp [vloop]⟩
  | c :: r, n, i, h => by
    unfold vloop
    split
    · have := vloop_i neg r _ (i + 1) (wr_i (wr (10 * n) + (if neg then -((c.toNat : Int) - 48) else (c.toNat : Int) - 48)))
      exact ⟨this.1, by omega, by rw [List.length_cons]; omega⟩
    · exact ⟨h, Nat.le_refl _, by simp⟩
theorem value_i (s : List UInt8) : I64 (valueL s).1 ∧ (valueL s).2 ≤ s.length := by
  have z : I64 0 := by unfold I64; omega
  unfold valueL
  split
  · next h =>
    have := vloop_i true (s.drop 1) 0 1 z
    rw [List.length_drop] at this
    have hs : 1 ≤ s.length := by cases s with
      | nil => cases h
      | cons a r => simp
    exact ⟨this.1, by omega⟩
  · have := vloop_i false s 0 0 z
    exact ⟨this.1, by omega⟩
theorem nd_le : ∀ (k u : Nat), u < 10 ^ (k + 1) → Lib.nDigits u ≤ k + 1
  | 0, u, h => by rw [Lib.nDigits_small (by simpa using h)]; exact Nat.le_refl _
  | k + 1, u, h => by
    by_cases h10 : u < 10
    · rw [Lib.nDigits_small h10]; omega
    · rw [Lib.nDigits_big h10]
      have := nd_le k (u / 10) (by rw [Nat.pow_succ] at h; omega)
      omega
theorem digits_ext (neg : Bool) (rest : List UInt8) (hr : StopN rest) : ∀ (l : List UInt8) (m i : Nat), (∀ c ∈ l, digitB c = true) → i + l.length ≤ 20 → m * 10 ^ l.length + digV l ≤ (if neg then 9223372036854775808 else 9223372036854775807) →
    vloop neg (l ++ rest) (if neg then -(m : Int) else (m : Int)) i = (if neg then -((m * 10 ^ l.length + digV l : Nat) : Int) else ((m * 10 ^ l.length + digV l : Nat) : Int), i + l.length)
  | [], m, i, _, _, _ => by
    rw [List.nil_append]
    have e : m * 10 ^ ([] : List UInt8).length + digV [] = m := by simp [digV]
    rw [e]
    rcases hr with rfl | ⟨c, r, rfl, hc⟩
    · rfl
    · unfold vloop
      rw [if_neg]; · rfl
      intro h
      have h1 := of_decide_eq_true h.1
      have h2 := of_decide_eq_false (show decide _ = false from hc)
      omega
  | c :: l, m, i, hd, hi, hv => by
    have hc := of_decide_eq_true (hd c (by simp))
    have e : m * 10 ^ (c :: l).length + digV (c :: l) = (m * 10 + (c.toNat - 48)) * 10 ^ l.length + digV l := by
      rw [List.length_cons, Nat.pow_succ]
      show m * (10 ^ l.length * 10) + ((c.toNat - 48) * 10 ^ l.length + digV l) = _
      rw [Nat.add_mul, Nat.mul_assoc m 10, Nat.mul_comm 10, Nat.add_assoc]
    rw [e] at hv ⊢
    rw [List.length_cons] at hi
    have hp1 : 1 ≤ 10 ^ l.length := Nat.one_le_pow _ _ (by decide)
    have hle : (m * 10 + (c.toNat - 48)) * 1 ≤ (m * 10 + (c.toNat - 48)) * 10 ^ l.length := Nat.mul_le_mul_left _ hp1
    have ih := digits_ext neg rest hr l (m * 10 + (c.toNat - 48)) (i + 1) (fun x hx => hd x (List.mem_cons_of_mem _ hx)) (by omega) hv
    rw [List.cons_append]
    unfold vloop
    rw [if_pos ⟨hd c (by simp), by omega⟩]
    have hn : wr (wr (10 * (if neg then -(m : Int) else (m : Int))) + (if neg then -((c.toNat : Int) - 48) else (c.toNat : Int) - 48)) = (if neg then -((m * 10 + (c.toNat - 48) : Nat) : Int) else ((m * 10 + (c.toNat - 48) : Nat) : Int)) := by
      cases neg
      · simp only [if_false, Bool.false_eq_true] at hv ⊢
        rw [wr_in (x := 10 * (m : Int)) (by unfold I64; omega), wr_in (by unfold I64; omega)]; omega
      · simp only [if_true] at hv ⊢
        rw [wr_in (x := 10 * -(m : Int)) (by unfold I64; omega), wr_in (by unfold I64; omega)]; omega
    rw [hn, ih, List.length_cons]
    simp only [Prod.mk.injEq, true_and]
    omega
theorem value_itoa (v : Int) (hv : I64 v) (rest : List UInt8) (hr : StopN rest) : valueL (Lib.itoa v ++ rest) = (v, (Lib.itoa v).length) := by
  have hl : ∀ u : Nat, u ≤ 9223372036854775808 → (Lib.decDigits u).length ≤ 19 := fun u hu => by
    rw [Lib.decDigits_length]
    exact nd_le 18 u (by have : (10 : Nat) ^ 19 = 10000000000000000000 := by decide
                         show u < 10 ^ 19
                         omega)
  obtain ⟨v0, v1⟩ := hv
  unfold Lib.itoa
  split
  · have hu : v.natAbs ≤ 9223372036854775808 := by omega
    obtain ⟨d1, d2, d3⟩ := dec_digits v.natAbs
    have hh := hl _ hu
    unfold valueL
    rw [if_pos (by rfl)]
    show vloop true (Lib.decDigits v.natAbs ++ rest) 0 1 = _
    have := digits_ext true rest hr (Lib.decDigits v.natAbs) 0 1 d1 (by omega) (by rw [Nat.zero_mul, Nat.zero_add, d2]; exact hu)
    simp only [if_true, Nat.zero_mul, Nat.zero_add, d2] at this
    rw [show (-((0 : Nat) : Int)) = 0 from rfl] at this
    rw [this, List.length_cons]
    simp only [Prod.mk.injEq]
    omega
  · have hu : v.toNat ≤ 9223372036854775807 := by omega
    obtain ⟨d1, d2, d3⟩ := dec_digits v.toNat
    have hh := hl v.toNat (by omega)
    unfold valueL
    have hne : (Lib.decDigits v.toNat ++ rest).head? ≠ some 45 := by
      cases hd : Lib.decDigits v.toNat with
      | nil => exact absurd hd d3
      | cons c l =>
        rw [hd] at d1
        have := of_decide_eq_true (d1 c (by simp))
        intro e
        have : c = 45 := by simpa using e
        subst this
        simp at *
    rw [if_neg hne]
    have := digits_ext false rest hr (Lib.decDigits v.toNat) 0 0 d1 (by omega) (by rw [Nat.zero_mul, Nat.zero_add, d2]; simpa using hu)
    simp only [if_false, Bool.false_eq_true, Nat.zero_mul, Nat.zero_add, d2] at this
    rw [show ((0 : Nat) : Int) = 0 from rfl] at this
    rw [this]
    simp only [Prod.mk.injEq, and_true]
    omega
/-! What is read. -/
def rnumL (s : List UInt8) : Int × Nat := if s = [] then (0, 1) else ((valueL (s.drop 1)).1, (valueL (s.drop 1)).2 + 1)
def rstepP (st : List UInt8 × In) (c : UInt8) : List UInt8 × In :=
  if c = 68 then (st.1.drop (rnumL st.1).2, { st.2 with d := (rnumL st.1).1 })
  else if c = 65 then (st.1.drop (rnumL st.1).2, { st.2 with a := (rnumL st.1).1 })
  else if c = 66 then (st.1.drop (rnumL st.1).2, { st.2 with b := (rnumL st.1).1 })
  else if c = 78 then (st.1.drop (valueL st.1).2, { st.2 with n := (valueL st.1).1 })
  else if c = 83 then (st.1.drop (valueL st.1).2, { st.2 with n := (valueL st.1).1 })
  else if c = 76 then ([], { st.2 with name := st.1 })
  else (st.1.drop 1, st.2)
def rfoldP (h : List UInt8) (st : List UInt8 × In) : List UInt8 × In := h.foldl rstepP st
def rest1 (H s : List UInt8) : List UInt8 := if H ≠ [] ∧ s ≠ [] then s.drop 1 else s
def rreadL (op : Int) (W H s : List UInt8) : In := if s.take W.length = W then (rfoldP H (rest1 H (s.drop W.length), ⟨op, 0, 0, 0, 0, []⟩)).2 else ⟨op, 0, 0, 0, 0, []⟩
theorem rnum_reg (v : Int) (hv : I64 v) (rest : List UInt8) (hr : StopN rest) : rnumL (120 :: (Lib.itoa v ++ rest)) = (v, (Lib.itoa v).length + 1) := by
  unfold rnumL
  rw [if_neg (by simp), List.drop_succ_cons, List.drop_zero, value_itoa v hv rest hr]
theorem rs68 (v : Int) (hv : I64 v) (rest : List UInt8) (hr : StopN rest) (x : In) : rstepP (120 :: (Lib.itoa v ++ rest), x) 68 = (rest, { x with d := v }) := by
  unfold rstepP
  rw [if_pos rfl]
  simp only
  rw [rnum_reg v hv rest hr]; simp
theorem rs65 (v : Int) (hv : I64 v) (rest : List UInt8) (hr : StopN rest) (x : In) : rstepP (120 :: (Lib.itoa v ++ rest), x) 65 = (rest, { x with a := v }) := by
  unfold rstepP
  rw [if_neg (by decide), if_pos rfl]
  simp only
  rw [rnum_reg v hv rest hr]; simp
theorem rs66 (v : Int) (hv : I64 v) (rest : List UInt8) (hr : StopN rest) (x : In) : rstepP (120 :: (Lib.itoa v ++ rest), x) 66 = (rest, { x with b := v }) := by
  unfold rstepP
  rw [if_neg (by decide), if_neg (by decide), if_pos rfl]
  simp only
  rw [rnum_reg v hv rest hr]; simp
theorem rs78 (v : Int) (hv : I64 v) (rest : List UInt8) (hr : StopN rest) (x : In) : rstepP (Lib.itoa v ++ rest, x) 78 = (rest, { x with n := v }) := by
  unfold rstepP
  rw [if_neg (by decide), if_neg (by decide), if_neg (by decide), if_pos rfl]
  simp only
  rw [value_itoa v hv rest hr]; simp
theorem rs83 (v : Int) (hv : I64 v) (rest : List UInt8) (hr : StopN rest) (x : In) : rstepP (Lib.itoa v ++ rest, x) 83 = (rest, { x with n := v }) := by
  unfold rstepP
  rw [if_neg (by decide), if_neg (by decide), if_neg (by decide), if_neg (by decide), if_pos rfl]
  simp only
  rw [value_itoa v hv rest hr]; simp
theorem rs76 (l : List UInt8) (x : In) : rstepP (l, x) 76 = ([], { x with name := l }) := by
  unfold rstepP
  rw [if_neg (by decide), if_neg (by decide), if_neg (by decide), if_neg (by decide), if_neg (by decide), if_pos rfl]
theorem rsO (c k : UInt8) (l : List UInt8) (x : In) (h : (c != 68 && c != 65 && c != 66 && c != 78 && c != 83 && c != 76) = true) : rstepP (k :: l, x) c = (l, x) := by
  simp only [Bool.and_eq_true, bne_iff_ne, ne_eq] at h
  unfold rstepP
  rw [if_neg h.1.1.1.1.1, if_neg h.1.1.1.1.2, if_neg h.1.1.1.2, if_neg h.1.1.2, if_neg h.1.2, if_neg h.2]
  rfl
theorem rread_args (x : In) (h : rightB x = true) (hn : I64 x.n) : (rfoldP (hasL x.op) (argsL x, ⟨x.op, 0, 0, 0, 0, []⟩)).2 = x := by
  rw [right_eq] at h
  unfold rightE at h
  have hop : isOp x.op = true := by
    simp only [Bool.and_eq_true] at h; exact h.1.1.1.1.1
  have hm := has_mem hop
  obtain ⟨op, d, a, b, n, name⟩ := x
  unfold argsL rfoldP
  simp only at *
  generalize hasL op = H at *
  simp only [hasAll, List.mem_cons, List.not_mem_nil, or_false] at hm
  rcases hm with rfl | rfl | rfl | rfl | rfl | rfl | rfl | rfl | rfl | rfl
  · have h' : isOp op = true ∧ regB d = true ∧ regB a = true ∧ regB b = true ∧ n = 0 ∧ name = [] := by simpa [sDAB, and_assoc] using h
    obtain ⟨_, h1, h2, h3, rfl, rfl⟩ := h'
    simp only [sDAB, List.flatMap_cons, List.flatMap_nil, piece68, piece65, piece66, piece44, piece32, List.cons_append, List.nil_append, List.foldl_cons, List.foldl_nil]
    rw [rs68 d (reg_i h1) _ (stop_c rfl), rsO 44 _ _ _ rfl, rsO 32 _ _ _ rfl, rs65 a (reg_i h2) _ (stop_c rfl), rsO 44 _ _ _ rfl, rsO 32 _ _ _ rfl, rs66 b (reg_i h3) _ stop_nil]
  · have h' : isOp op = true ∧ regB d = true ∧ regB a = true ∧ b = 0 ∧ n = 0 ∧ name = [] := by simpa [sDA, and_assoc] using h
    obtain ⟨_, h1, h2, rfl, rfl, rfl⟩ := h'
    simp only [sDA, List.flatMap_cons, List.flatMap_nil, piece68, piece65, piece44, piece32, List.cons_append, List.nil_append, List.foldl_cons, List.foldl_nil]
    rw [rs68 d (reg_i h1) _ (stop_c rfl), rsO 44 _ _ _ rfl, rsO 32 _ _ _ rfl, rs65 a (reg_i h2) _ stop_nil]
  · have h' : isOp op = true ∧ d = 0 ∧ regB a = true ∧ regB b = true ∧ n = 0 ∧ labelB name = true := by simpa [sABL, and_assoc] using h
    obtain ⟨_, rfl, h1, h2, rfl, h3⟩ := h'
    simp only [sABL, List.flatMap_cons, List.flatMap_nil, piece65, piece66, piece76, piece44, piece32, List.cons_append, List.nil_append, List.foldl_cons, List.foldl_nil, List.append_nil]
    rw [rs65 a (reg_i h1) _ (stop_c rfl), rsO 44 _ _ _ rfl, rsO 32 _ _ _ rfl, rs66 b (reg_i h2) _ (stop_c rfl), rsO 44 _ _ _ rfl, rsO 32 _ _ _ rfl, rs76 name]
  · have h' : isOp op = true ∧ regB d = true ∧ a = 0 ∧ b = 0 ∧ name = [] := by simpa [and_assoc] using h
    obtain ⟨_, h1, rfl, rfl, rfl⟩ := h'
    simp only [List.flatMap_cons, List.flatMap_nil, piece68, piece78, piece44, piece32, List.cons_append, List.nil_append, List.foldl_cons, List.foldl_nil]
    rw [rs68 d (reg_i h1) _ (stop_c rfl), rsO 44 _ _ _ rfl, rsO 32 _ _ _ rfl, rs78 n hn _ stop_nil]
  · have h' : isOp op = true ∧ regB d = true ∧ a = 0 ∧ b = 0 ∧ n = 0 ∧ labelB name = true := by simpa [and_assoc] using h
    obtain ⟨_, h1, rfl, rfl, rfl, h3⟩ := h'
    simp only [List.flatMap_cons, List.flatMap_nil, piece68, piece76, piece44, piece32, List.cons_append, List.nil_append, List.foldl_cons, List.foldl_nil, List.append_nil]
    rw [rs68 d (reg_i h1) _ (stop_c rfl), rsO 44 _ _ _ rfl, rsO 32 _ _ _ rfl, rs76 name]
  · have h' : isOp op = true ∧ regB d = true ∧ regB a = true ∧ b = 0 ∧ smallB n = true ∧ name = [] := by simpa [and_assoc] using h
    obtain ⟨_, h1, h2, rfl, h3, rfl⟩ := h'
    simp only [List.flatMap_cons, List.flatMap_nil, piece68, piece65, piece83, piece44, piece32, List.cons_append, List.nil_append, List.foldl_cons, List.foldl_nil]
    rw [rs68 d (reg_i h1) _ (stop_c rfl), rsO 44 _ _ _ rfl, rsO 32 _ _ _ rfl, rs65 a (reg_i h2) _ (stop_c rfl), rsO 44 _ _ _ rfl, rsO 32 _ _ _ rfl, rs83 n hn _ stop_nil]
  · have h' : isOp op = true ∧ regB d = true ∧ regB a = true ∧ b = 0 ∧ smallB n = true ∧ name = [] := by simpa [and_assoc] using h
    obtain ⟨_, h1, h2, rfl, h3, rfl⟩ := h'
    simp only [List.flatMap_cons, List.flatMap_nil, piece68, piece65, piece83, piece44, piece32, piece40, piece41, List.cons_append, List.nil_append, List.foldl_cons, List.foldl_nil]
    rw [rs68 d (reg_i h1) _ (stop_c rfl), rsO 44 _ _ _ rfl, rsO 32 _ _ _ rfl, rs83 n hn _ (stop_c rfl), rsO 40 _ _ _ rfl, rs65 a (reg_i h2) _ (stop_c rfl), rsO 41 _ _ _ rfl]
  · have h' : isOp op = true ∧ d = 0 ∧ regB a = true ∧ regB b = true ∧ smallB n = true ∧ name = [] := by simpa [and_assoc] using h
    obtain ⟨_, rfl, h1, h2, h3, rfl⟩ := h'
    simp only [List.flatMap_cons, List.flatMap_nil, piece66, piece65, piece83, piece44, piece32, piece40, piece41, List.cons_append, List.nil_append, List.foldl_cons, List.foldl_nil]
    rw [rs66 b (reg_i h2) _ (stop_c rfl), rsO 44 _ _ _ rfl, rsO 32 _ _ _ rfl, rs83 n hn _ (stop_c rfl), rsO 40 _ _ _ rfl, rs65 a (reg_i h1) _ (stop_c rfl), rsO 41 _ _ _ rfl]
  · have h' : isOp op = true ∧ d = 0 ∧ a = 0 ∧ b = 0 ∧ n = 0 ∧ labelB name = true := by simpa [and_assoc] using h
    obtain ⟨_, rfl, rfl, rfl, rfl, h3⟩ := h'
    simp only [List.flatMap_cons, List.flatMap_nil, piece76, List.foldl_cons, List.foldl_nil, List.append_nil]
    rw [rs76 name]
  · have h' : isOp op = true ∧ d = 0 ∧ a = 0 ∧ b = 0 ∧ n = 0 ∧ name = [] := by simpa [and_assoc] using h
    obtain ⟨_, rfl, rfl, rfl, rfl, rfl⟩ := h'
    rfl
theorem rread_back {x : In} (h : rightB x = true) (hn : I64 x.n) : rreadL x.op (nmL x.op) (hasL x.op) (txtL x) = x := by
  have ha := rread_args x h hn
  unfold rreadL txtL
  by_cases e : hasL x.op = []
  · rw [if_pos e, List.take_length, if_pos rfl, List.drop_length, e]
    rw [e] at ha
    have e2 : argsL x = [] := by unfold argsL; rw [e]; rfl
    rw [e2] at ha
    exact ha
  · rw [if_neg e, List.take_left' rfl, if_pos rfl, List.drop_left' rfl]
    have e2 : rest1 (hasL x.op) (32 :: argsL x) = argsL x := by unfold rest1; rw [if_pos ⟨e, by simp⟩]; rfl
    rw [e2]; exact ha
theorem rfoldP_i (L : Nat) : ∀ (h : List UInt8) (st : List UInt8 × In), st.1.length ≤ L → I64 st.2.n → st.2.name.length ≤ L → I64 (rfoldP h st).2.n ∧ (rfoldP h st).2.name.length ≤ L ∧ (rfoldP h st).2.op = st.2.op
  | [], st, _, h2, h3 => ⟨h2, h3, rfl⟩
  | c :: h, st, h1, h2, h3 => by
    have key : (rstepP st c).1.length ≤ L ∧ I64 (rstepP st c).2.n ∧ (rstepP st c).2.name.length ≤ L ∧ (rstepP st c).2.op = st.2.op := by
      unfold rstepP
      refine ⟨?_, ?_, ?_, ?_⟩
      · repeat' split
        all_goals first | (show (List.drop _ st.1).length ≤ L; rw [List.length_drop]; omega) | simp
      · repeat' split
        all_goals first | exact h2 | exact (value_i _).1
      · repeat' split
        all_goals first | exact h3 | exact h1
      · repeat' split
        all_goals rfl
    have := rfoldP_i L h (rstepP st c) key.1 key.2.1 key.2.2.1
    exact ⟨this.1, this.2.1, this.2.2.trans key.2.2.2⟩
theorem rread_i (op : Int) (W H s : List UInt8) : I64 (rreadL op W H s).n ∧ (rreadL op W H s).name.length ≤ s.length ∧ (rreadL op W H s).op = op := by
  have z : I64 0 := by unfold I64; omega
  unfold rreadL
  split
  · refine rfoldP_i s.length H _ ?_ z (Nat.zero_le _)
    show (rest1 H (s.drop W.length)).length ≤ _
    unfold rest1
    split
    · rw [List.length_drop, List.length_drop]; omega
    · rw [List.length_drop]; omega
  · exact ⟨z, Nat.zero_le _, rfl⟩
end Go.Proofs.YtdfiaefdbalcoaaDoor
