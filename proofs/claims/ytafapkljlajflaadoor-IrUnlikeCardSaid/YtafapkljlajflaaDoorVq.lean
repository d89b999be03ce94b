/- Unlike units have unlike texts: plain, to the end. -/
import Derived.Test.YtafapkljlajflaaDoorVp
namespace Go.Proofs.YtafapkljlajflaaDoor
open Go.RowKit
set_option linter.unusedVariables false
set_option linter.unusedSimpArgs false
def isNum (t : List UInt8) : Bool := digitB (t.getD 4 0) || (t.getD 4 0 == 45 && digitB (t.getD 5 0))
theorem tb_num : ∀ p ∈ TB, isNum p.2.2.2 = false := by decide +kernel
theorem dec_head (u : Nat) : ∃ c r, Lib.decDigits u = c :: r ∧ digitB c = true := by
  rw [Lib.decDigits]
  split
  · rename_i h
    refine ⟨_, [], rfl, ?_⟩
    unfold digitB
    rw [dig_of u h]
    exact decide_eq_true (by omega)
  · obtain ⟨c, r, e, h⟩ := dec_head (u / 10)
    rw [e]
    exact ⟨c, _, rfl, h⟩
termination_by u
decreasing_by omega
theorem num_shape (n : Int) : isNum ([118, 32, 61, 32] ++ Lib.itoa n) = true := by
  unfold Lib.itoa
  split
  · obtain ⟨c, r, e, h⟩ := dec_head n.natAbs
    rw [e]
    simp [isNum, h]
  · obtain ⟨c, r, e, h⟩ := dec_head n.toNat
    rw [e]
    simp [isNum, h]
theorem ins_inj (x y : Xn) (hx : Canon x) (hy : Canon y) (h : insT x = insT y) : x = y := by
  have hs : shX x = shX y := by rw [← shp_ins x hx.t, ← shp_ins y hy.t, h]
  have hw : wantL x = wantL y := by
    have h1 := scan_ins x hx.t [] rfl
    have h2 := scan_ins y hy.t [] rfl
    rw [← h1, ← h2, h]
  have key : x.kind = y.kind ∧ x.op = y.op ∧ x.name = y.name ∧ x.n = y.n := by
    by_cases h1 : x.kind = 1
    · by_cases h2 : y.kind = 1
      · have e1 : shX x = [118, 32, 61, 32] ++ Lib.itoa x.n := by unfold shX; rw [h1]; rfl
        have e2 : shX y = [118, 32, 61, 32] ++ Lib.itoa y.n := by unfold shX; rw [h2]; rfl
        rw [e1, e2] at hs
        have hn := itoa_inj hx.n64 hy.n64 (List.append_cancel_left hs)
        have o1 : x.op = 0 := by rcases hx.o with h | h | h <;> omega
        have o2 : y.op = 0 := by rcases hy.o with h | h | h <;> omega
        have m1 : x.name = [] := by rcases hx.m with ⟨h, _⟩ | ⟨h, _⟩ | ⟨_, _, _, h, _⟩ <;> first | exact h | omega
        have m2 : y.name = [] := by rcases hy.m with ⟨h, _⟩ | ⟨h, _⟩ | ⟨_, _, _, h, _⟩ <;> first | exact h | omega
        exact ⟨by rw [h1, h2], by rw [o1, o2], by rw [m1, m2], hn⟩
      · have e1 : shX x = [118, 32, 61, 32] ++ Lib.itoa x.n := by unfold shX; rw [h1]; rfl
        have t1 := tb_num _ (tb_mem y hy h2)
        have t1 : isNum (shX y) = false := t1
        rw [← hs, e1, num_shape] at t1
        cases t1
    · by_cases h2 : y.kind = 1
      · have e1 : shX y = [118, 32, 61, 32] ++ Lib.itoa y.n := by unfold shX; rw [h2]; rfl
        have t1 := tb_num _ (tb_mem x hx h1)
        have t1 : isNum (shX x) = false := t1
        rw [hs, e1, num_shape] at t1
        cases t1
      · have t1 := tb_one _ (tb_mem x hx h1) _ (tb_mem y hy h2) hs
        injection t1 with a1 a2
        injection a2 with a2 a3
        injection a3 with a3 a4
        exact ⟨a1, a2, a3, by rw [hx.n h1, hy.n h2]⟩
  obtain ⟨⟨xk, xd, xa, xb, xl, xn, xs⟩, xo, xm, xdd, xaa, xbb, xnn, x64⟩ := hx
  obtain ⟨⟨yk, yd, ya, yb, yl, yn, ys⟩, yo, ym, ydd, yaa, ybb, ynn, y64⟩ := hy
  obtain ⟨k, d, a, b, op, n, name, args⟩ := x
  obtain ⟨k', d', a', b', op', n', name', args'⟩ := y
  simp only at *
  obtain ⟨k1, k2, k3, k4⟩ := key
  subst k1 k2 k3 k4
  have hd0 := xd.1
  have hd1 := yd.1
  have ar : k ≠ 9 → args = args' := by
    intro h9
    have e1 : args = [] := by rcases xm with ⟨_, _, h⟩ | ⟨h, _⟩ | ⟨_, _, _, _, h⟩ <;> first | exact h | omega
    have e2 : args' = [] := by rcases ym with ⟨_, _, h⟩ | ⟨h, _⟩ | ⟨_, _, _, _, h⟩ <;> first | exact h | omega
    rw [e1, e2]
  rcases nine xk.1 xk.2 with e | e | e | e | e | e | e | e | e
  all_goals
    subst e
    simp [wantL, setsL, usesL, hD, hA, hB, hd0, hd1] at hw
  · have := ar (by decide); subst this; rw [hw, xaa (by decide), yaa (by decide), xbb (by decide) (by decide), ybb (by decide) (by decide)]
  · have := ar (by decide); subst this; rw [hw.1, hw.2, xbb (by decide) (by decide), ybb (by decide) (by decide)]
  · have := ar (by decide); subst this; rw [hw.1, hw.2, xbb (by decide) (by decide), ybb (by decide) (by decide)]
  · have := ar (by decide); subst this; rw [hw.1, hw.2.1, hw.2.2]
  · have := ar (by decide); subst this; rw [hw.1, hw.2, xbb (by decide) (by decide), ybb (by decide) (by decide)]
  · have := ar (by decide); subst this; rw [hw.1, hw.2, xdd (by decide), ydd (by decide)]
  · have := ar (by decide); subst this; rw [hw, xaa (by decide), yaa (by decide), xbb (by decide) (by decide), ybb (by decide) (by decide)]
  · have := ar (by decide); subst this; rw [hw, xdd (by decide), ydd (by decide), xbb (by decide) (by decide), ybb (by decide) (by decide)]
  · rw [hw.1, hw.2, xaa (by decide), yaa (by decide), xbb (by decide) (by decide), ybb (by decide) (by decide)]
theorem dig_inj {a b : Int} (ha : 0 ≤ a ∧ a < 10) (hb : 0 ≤ b ∧ b < 10) (h : UInt8.ofNat (48 + a.toNat) = UInt8.ofNat (48 + b.toNat)) : a = b := by
  have h1 := congrArg UInt8.toNat h
  rw [dig_of _ (by omega), dig_of _ (by omega)] at h1
  omega
structure CT (t : Tm) : Prop where
  k : 1 ≤ t.kind ∧ t.kind ≤ 4
  a : 0 ≤ t.a ∧ t.a < 10
  o : 0 ≤ t.to ∧ t.to < 10
  e : 0 ≤ t.els ∧ t.els < 10
  za : t.kind = 1 → t.a = 0
  zo : t.kind = 3 ∨ t.kind = 4 → t.to = 0
  ze : t.kind ≠ 2 → t.els = 0
theorem ctF (t : Tm) (n : Int) (h0 : 0 < n) (h : n ≤ 8) : CT (trmF t n) := by
  have k0 := pickN_lo t.kind 4 (by decide)
  have k1 := pickN_hi t.kind 4 (by decide)
  have a0 := pickN_lo t.a 10 (by decide)
  have a1 := pickN_hi t.a 10 (by decide)
  have o0 := pickN_lo t.to n h0
  have o1 := pickN_hi t.to n h0
  have e0 := pickN_lo t.els n h0
  have e1 := pickN_hi t.els n h0
  have ek : (trmF t n).kind = 1 + pickN t.kind 4 := rfl
  have ea : (trmF t n).a = if 1 + pickN t.kind 4 ≠ 1 then pickN t.a 10 else 0 := rfl
  have eo : (trmF t n).to = if 1 + pickN t.kind 4 ≤ 2 then pickN t.to n else 0 := rfl
  have ee : (trmF t n).els = if 1 + pickN t.kind 4 = 2 then pickN t.els n else 0 := rfl
  refine ⟨by rw [ek]; omega, ?_, ?_, ?_, fun hk => ?_, fun hk => ?_, fun hk => ?_⟩
  · rw [ea]; split <;> omega
  · rw [eo]; split <;> omega
  · rw [ee]; split <;> omega
  · rw [ek] at hk; rw [ea, if_neg (by omega)]
  · rw [ek] at hk; rw [eo, if_neg (by omega)]
  · rw [ek] at hk; rw [ee, if_neg (by omega)]
theorem trm_inj (t u : Tm) (ht : CT t) (hu : CT u) (h : trmT t = trmT u) : t = u := by
  obtain ⟨tk, ta, to, te, tza, tzo, tze⟩ := ht
  obtain ⟨uk, ua, uo, ue, uza, uzo, uze⟩ := hu
  obtain ⟨k, a, o, e⟩ := t
  obtain ⟨k', a', o', e'⟩ := u
  simp only at *
  have ja := dig_inj ta ua
  have jo := dig_inj to uo
  have je := dig_inj te ue
  have fa := itoa_dig a ta.1 ta.2
  have fo := itoa_dig o to.1 to.2
  have fe := itoa_dig e te.1 te.2
  have ga := itoa_dig a' ua.1 ua.2
  have go := itoa_dig o' uo.1 uo.2
  have ge := itoa_dig e' ue.1 ue.2
  generalize UInt8.ofNat (48 + a.toNat) = A at *
  generalize UInt8.ofNat (48 + o.toNat) = O at *
  generalize UInt8.ofNat (48 + e.toNat) = E at *
  generalize UInt8.ofNat (48 + a'.toNat) = A' at *
  generalize UInt8.ofNat (48 + o'.toNat) = O' at *
  generalize UInt8.ofNat (48 + e'.toNat) = E' at *
  rcases (by omega : k = 1 ∨ k = 2 ∨ k = 3 ∨ k = 4) with rfl | rfl | rfl | rfl <;> rcases (by omega : k' = 1 ∨ k' = 2 ∨ k' = 3 ∨ k' = 4) with rfl | rfl | rfl | rfl
  all_goals simp [trmT, valT, blkT, fa, fo, fe, ga, go, ge] at h
  · rw [jo h, tza rfl, uza rfl, tze (by decide), uze (by decide)]
  · rw [ja h.1, jo h.2.1, je h.2.2]
  · rw [ja h, tzo (by decide), uzo (by decide), tze (by decide), uze (by decide)]
  · rw [ja h, tzo (by decide), uzo (by decide), tze (by decide), uze (by decide)]
theorem line_eq : ∀ (l m r s : List UInt8), (∀ c ∈ l, c ≠ 10) → (∀ c ∈ m, c ≠ 10) → l ++ 10 :: r = m ++ 10 :: s → l = m ∧ r = s
  | [], [], r, s, _, _, h => by
    injection h with _ h
    exact ⟨rfl, h⟩
  | [], c :: m, r, s, _, hm, h => by
    injection h with h _
    exact absurd h.symm (hm c (by simp))
  | c :: l, [], r, s, hl, _, h => by
    injection h with h _
    exact absurd h (hl c (by simp))
  | c :: l, d :: m, r, s, hl, hm, h => by
    injection h with h1 h2
    obtain ⟨e1, e2⟩ := line_eq l m r s (fun x hx => hl x (List.mem_cons_of_mem _ hx)) (fun x hx => hm x (List.mem_cons_of_mem _ hx)) h2
    exact ⟨by rw [h1, e1], e2⟩
theorem no10 {l : List UInt8} (h : l.count 10 = 0) : ∀ c ∈ l, c ≠ 10 := fun c hc e => by
  subst e
  exact absurd hc (List.count_eq_zero.1 h)
theorem ins_head2 (x : Xn) (h : Canon x) : ∃ c t, insT x = c :: t ∧ (c = 118 ∨ c = 112 ∨ c = 97 ∨ c = 98) := by
  obtain ⟨ht, ho, hm, _, _, _, _, _⟩ := h
  obtain ⟨k1, k2⟩ := ht.k
  obtain ⟨k, d, a, b, op, n, name, args⟩ := x
  simp only at ho hm k1 k2
  rcases nine k1 k2 with e | e | e | e | e | e | e | e | e
  all_goals subst e
  · exact ⟨118, _, rfl, .inl rfl⟩
  · exact ⟨118, _, rfl, .inl rfl⟩
  · exact ⟨118, _, rfl, .inl rfl⟩
  · exact ⟨118, _, rfl, .inl rfl⟩
  · exact ⟨118, _, rfl, .inl rfl⟩
  · rcases hm with ⟨_, h, _⟩ | ⟨h, _⟩ | ⟨_, h, _⟩
    · rcases h with rfl | rfl
      · exact ⟨97, _, rfl, .inr (.inr (.inl rfl))⟩
      · exact ⟨98, _, rfl, .inr (.inr (.inr rfl))⟩
    · omega
    · omega
  · exact ⟨118, _, rfl, .inl rfl⟩
  · exact ⟨112, _, rfl, .inr (.inl rfl)⟩
  · exact ⟨118, _, rfl, .inl rfl⟩
theorem trm_head (t : Tm) (h : CT t) : ∃ c l, trmT t = c :: l ∧ (c = 106 ∨ c = 105 ∨ c = 114 ∨ c = 116) := by
  obtain ⟨hk, _⟩ := h
  obtain ⟨k, a, o, e⟩ := t
  simp only at hk
  rcases (by omega : k = 1 ∨ k = 2 ∨ k = 3 ∨ k = 4) with rfl | rfl | rfl | rfl
  · exact ⟨106, _, rfl, .inl rfl⟩
  · exact ⟨105, _, rfl, .inr (.inl rfl)⟩
  · exact ⟨114, _, rfl, .inr (.inr (.inl rfl))⟩
  · exact ⟨116, _, rfl, .inr (.inr (.inr rfl))⟩
theorem canon_nm (x : Xn) (h : Canon x) : x.name.count 10 = 0 := by
  rcases h.m with ⟨_, h, _⟩ | ⟨_, h⟩ | ⟨_, _, _, h, _⟩
  · rcases h with h | h <;> rw [h] <;> rfl
  · rcases h with ⟨h, _⟩ | ⟨h, _⟩ | ⟨h, _⟩ <;> rw [h] <;> rfl
  · rw [h]; rfl
theorem apart (x : Xn) (t : Tm) (hx : Canon x) (ht : CT t) : insT x ≠ trmT t := by
  obtain ⟨c, l, e1, h1⟩ := ins_head2 x hx
  obtain ⟨d, m, e2, h2⟩ := trm_head t ht
  rw [e1, e2]
  intro h
  injection h with h _
  subst h
  rcases h1 with rfl | rfl | rfl | rfl <;> revert h2 <;> decide
theorem body_inj : ∀ (X Y : List Xn) (t u : Tm) (R S : List UInt8), (∀ x ∈ X, Canon x) → (∀ y ∈ Y, Canon y) → CT t → CT u → X.flatMap insLn ++ (9 :: (trmT t ++ 10 :: R)) = Y.flatMap insLn ++ (9 :: (trmT u ++ 10 :: S)) → X = Y ∧ t = u ∧ R = S
  | [], [], t, u, R, S, _, _, ht, hu, h => by
    simp only [List.flatMap_nil, List.nil_append] at h
    injection h with _ h
    obtain ⟨e1, e2⟩ := line_eq _ _ _ _ (no10 (cnt_trm t)) (no10 (cnt_trm u)) h
    exact ⟨rfl, trm_inj t u ht hu e1, e2⟩
  | [], y :: Y, t, u, R, S, _, hY, ht, hu, h => by
    have hy := hY y (by simp)
    rw [List.flatMap_cons] at h
    have e : insLn y ++ Y.flatMap insLn ++ (9 :: (trmT u ++ 10 :: S)) = 9 :: (insT y ++ 10 :: (Y.flatMap insLn ++ (9 :: (trmT u ++ 10 :: S)))) := by unfold insLn; simp
    rw [e] at h
    simp only [List.flatMap_nil, List.nil_append] at h
    injection h with _ h
    obtain ⟨e1, _⟩ := line_eq _ _ _ _ (no10 (cnt_trm t)) (no10 (cnt_ins y (canon_nm y hy))) h
    exact absurd e1.symm (apart y t hy ht)
  | x :: X, [], t, u, R, S, hX, _, ht, hu, h => by
    have hx := hX x (by simp)
    rw [List.flatMap_cons] at h
    have e : insLn x ++ X.flatMap insLn ++ (9 :: (trmT t ++ 10 :: R)) = 9 :: (insT x ++ 10 :: (X.flatMap insLn ++ (9 :: (trmT t ++ 10 :: R)))) := by unfold insLn; simp
    rw [e] at h
    simp only [List.flatMap_nil, List.nil_append] at h
    injection h with _ h
    obtain ⟨e1, _⟩ := line_eq _ _ _ _ (no10 (cnt_ins x (canon_nm x hx))) (no10 (cnt_trm u)) h
    exact absurd e1 (apart x u hx hu)
  | x :: X, y :: Y, t, u, R, S, hX, hY, ht, hu, h => by
    have hx := hX x (by simp)
    have hy := hY y (by simp)
    rw [List.flatMap_cons, List.flatMap_cons] at h
    have e : insLn x ++ X.flatMap insLn ++ (9 :: (trmT t ++ 10 :: R)) = 9 :: (insT x ++ 10 :: (X.flatMap insLn ++ (9 :: (trmT t ++ 10 :: R)))) := by unfold insLn; simp
    have e' : insLn y ++ Y.flatMap insLn ++ (9 :: (trmT u ++ 10 :: S)) = 9 :: (insT y ++ 10 :: (Y.flatMap insLn ++ (9 :: (trmT u ++ 10 :: S)))) := by unfold insLn; simp
    rw [e, e'] at h
    injection h with _ h
    obtain ⟨e1, e2⟩ := line_eq _ _ _ _ (no10 (cnt_ins x (canon_nm x hx))) (no10 (cnt_ins y (canon_nm y hy))) h
    obtain ⟨f1, f2, f3⟩ := body_inj X Y t u R S (fun z hz => hX z (List.mem_cons_of_mem _ hz)) (fun z hz => hY z (List.mem_cons_of_mem _ hz)) ht hu e2
    exact ⟨by rw [ins_inj x y hx hy e1, f1], f2, f3⟩
def CB (b : Bk) : Prop := (∀ x ∈ b.ins, Canon x) ∧ CT b.term
theorem bk_txt (i : Nat) (b : Bk) (R : List UInt8) : bkT i b ++ R = 98 :: (Lib.itoa i ++ ([58, 10] ++ (b.ins.flatMap insLn ++ (9 :: (trmT b.term ++ 10 :: R))))) := by
  unfold bkT blkT
  simp
theorem bks_inj : ∀ (L M : List Bk) (i : Nat) (R S : List UInt8), (∀ b ∈ L, CB b) → (∀ b ∈ M, CB b) → R.head? ≠ some 98 → S.head? ≠ some 98 → bksT L i ++ R = bksT M i ++ S → L = M ∧ R = S
  | [], [], i, R, S, _, _, _, _, h => ⟨rfl, h⟩
  | [], b :: M, i, R, S, _, _, hR, _, h => by
    unfold bksT at h
    rw [List.append_assoc, bk_txt] at h
    rw [List.nil_append] at h
    rw [h] at hR
    exact absurd rfl hR
  | b :: L, [], i, R, S, _, _, _, hS, h => by
    unfold bksT at h
    rw [List.append_assoc, bk_txt] at h
    rw [List.nil_append] at h
    rw [← h] at hS
    exact absurd rfl hS
  | b :: L, c :: M, i, R, S, hL, hM, hR, hS, h => by
    unfold bksT at h
    rw [List.append_assoc, List.append_assoc, bk_txt, bk_txt] at h
    injection h with _ h
    have h := List.append_cancel_left (List.append_cancel_left h)
    have hb := hL b (by simp)
    have hc := hM c (by simp)
    obtain ⟨e1, e2, e3⟩ := body_inj b.ins c.ins b.term c.term _ _ hb.1 hc.1 hb.2 hc.2 h
    obtain ⟨f1, f2⟩ := bks_inj L M (i + 1) R S (fun z hz => hL z (List.mem_cons_of_mem _ hz)) (fun z hz => hM z (List.mem_cons_of_mem _ hz)) hR hS e3
    have eb : b = c := by
      obtain ⟨bi, bt⟩ := b
      obtain ⟨ci, ct⟩ := c
      simp only at e1 e2
      rw [e1, e2]
    exact ⟨by rw [eb, f1], f2⟩
theorem cb_fit (raw : List Bk) (hr : ∀ b ∈ raw, AllK b) (k : Nat) : ∀ b ∈ (flwF raw k).blocks, CB b := by
  intro b hb
  obtain ⟨r, h1, rfl⟩ := flwF_blk raw k hb
  refine ⟨fun x hx => ?_, ?_⟩
  · obtain ⟨y, hy, rfl⟩ := List.mem_map.1 hx
    have hy := List.mem_of_mem_take hy
    refine canonF y ?_
    rcases bksOf_raw raw k r h1 with rfl | h2
    · cases hy
    · exact ((hr r h2).1 y hy).2.2.2.2.2
  · have hl : (flwF raw k).blocks.length = (bksOf raw k).length := flwF_len raw k
    have := bksOf_len raw k
    exact ctF _ _ (by omega) (by omega)
/-- Unlike units have unlike texts. -/
theorem unit_inj (r s : List Bk) (hr : ∀ b ∈ r, AllK b) (hs : ∀ b ∈ s, AllK b) (h : unT (fitU r) = unT (fitU s)) : fitU r = fitU s := by
  have e : ∀ q : List Bk, unT (fitU q) = arrsAB.flatMap arrT ++ (flHead ⟨mainN, 0, 10, []⟩ ++ (bksT (flwF q 0).blocks 0 ++ (flHead ⟨[102], 1, 10, []⟩ ++ (bksT (flwF q 1).blocks 0 ++ (flHead ⟨[103], 2, 10, []⟩ ++ (bksT (flwF q 2).blocks 0 ++ [])))))) := by
    intro q
    show arrsAB.flatMap arrT ++ ((flHead ⟨mainN, 0, 10, []⟩ ++ bksT (flwF q 0).blocks 0) ++ ((flHead ⟨[102], 1, 10, []⟩ ++ bksT (flwF q 1).blocks 0) ++ ((flHead ⟨[103], 2, 10, []⟩ ++ bksT (flwF q 2).blocks 0) ++ []))) = _
    simp only [List.append_assoc]
  rw [e r, e s] at h
  have h := List.append_cancel_left (List.append_cancel_left h)
  have hh : ∀ (f : Fl) (t : List UInt8), (flHead f ++ t).head? ≠ some 98 := fun f t hq => by
    have : (flHead f ++ t).head? = some 102 := rfl
    rw [this] at hq
    cases hq
  obtain ⟨b0, h⟩ := bks_inj _ _ _ _ _ (cb_fit r hr 0) (cb_fit s hs 0) (hh _ _) (hh _ _) h
  have h := List.append_cancel_left h
  obtain ⟨b1, h⟩ := bks_inj _ _ _ _ _ (cb_fit r hr 1) (cb_fit s hs 1) (hh _ _) (hh _ _) h
  have h := List.append_cancel_left h
  obtain ⟨b2, _⟩ := bks_inj _ _ _ _ _ (cb_fit r hr 2) (cb_fit s hs 2) (by simp) (by simp) h
  have f : ∀ k, (flwF r k).blocks = (flwF s k).blocks → flwF r k = flwF s k := fun k hb => by
    have e1 : flwF r k = ⟨(flwF r k).name, (flwF r k).params, (flwF r k).values, (flwF r k).blocks⟩ := rfl
    rw [e1, hb]
    rfl
  unfold fitU
  rw [f 0 b0, f 1 b1, f 2 b2]
end Go.Proofs.YtafapkljlajflaaDoor
