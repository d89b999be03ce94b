/- Unlike units have unlike texts: plain. -/
import Derived.Test.YtafapkljlajflaaDoorUe
import Derived.Test.YtafapkljlajflaaDoorVk
namespace Go.Proofs.YtafapkljlajflaaDoor
open Go.RowKit
set_option linter.unusedVariables false
set_option linter.unusedSimpArgs false
/-- A text without the digits behind a v. -/
def shp : List UInt8 → List UInt8
  | c :: d :: r => if c = 118 ∧ digitB d = true then 118 :: shp r else c :: shp (d :: r)
  | l => l
theorem shp_skip : ∀ (l r : List UInt8), (∀ c ∈ l, c ≠ 118) → shp (l ++ r) = l ++ shp r
  | [], r, _ => rfl
  | [c], [], _ => rfl
  | [c], d :: r, h => by
    show shp (c :: d :: r) = c :: shp (d :: r)
    rw [shp, if_neg (fun k => h c (by simp) k.1)]
  | c :: d :: l, r, h => by
    show shp (c :: d :: (l ++ r)) = c :: (d :: l ++ shp r)
    rw [shp, if_neg (fun k => h c (by simp) k.1)]
    exact congrArg _ (shp_skip (d :: l) r (fun x hx => h x (List.mem_cons_of_mem _ hx)))
theorem shp_val (d : Int) (h0 : 0 ≤ d) (h1 : d < 10) (r : List UInt8) : shp (valT d ++ r) = 118 :: shp r := by
  unfold valT
  rw [itoa_dig d h0 h1]
  have hd := dig_of d.toNat (by omega)
  have hdb : digitB (UInt8.ofNat (48 + d.toNat)) = true := by unfold digitB; rw [hd]; exact decide_eq_true (by omega)
  show shp (118 :: UInt8.ofNat (48 + d.toNat) :: r) = _
  rw [shp, if_pos ⟨rfl, hdb⟩]
def joinS : Nat → List UInt8
  | 0 => []
  | 1 => [118]
  | n + 2 => [118, 44, 32] ++ joinS (n + 1)
theorem shp_join : ∀ (l : List Int), (∀ v ∈ l, 0 ≤ v ∧ v < 10) → ∀ r, shp (joinV l ++ r) = joinS l.length ++ shp r
  | [], _, r => rfl
  | [v], h, r => by
    have := h v (by simp)
    exact shp_val v this.1 this.2 r
  | v :: w :: l, h, r => by
    have hv := h v (by simp)
    unfold joinV
    rw [List.append_assoc, List.append_assoc, shp_val v hv.1 hv.2, shp_skip [44, 32] _ (by decide), shp_join (w :: l) (fun x hx => h x (List.mem_cons_of_mem _ hx)) r]
    rfl
/-- What is made of a raw instruction. -/
structure Canon (x : Xn) : Prop where
  t : Tens x
  o : (x.kind = 3 ∧ 17 ≤ x.op ∧ x.op ≤ 19) ∨ (x.kind = 4 ∧ 1 ≤ x.op ∧ x.op ≤ 16) ∨ (x.kind ≠ 3 ∧ x.kind ≠ 4 ∧ x.op = 0)
  m : ((x.kind = 5 ∨ x.kind = 6) ∧ (x.name = [97] ∨ x.name = [98]) ∧ x.args = []) ∨ (x.kind = 9 ∧ ((x.name = mainN ∧ x.args.length = 0) ∨ (x.name = [102] ∧ x.args.length = 1) ∨ (x.name = [103] ∧ x.args.length = 2))) ∨ (x.kind ≠ 5 ∧ x.kind ≠ 6 ∧ x.kind ≠ 9 ∧ x.name = [] ∧ x.args = [])
  d : x.kind = 6 ∨ x.kind = 8 → x.d = 0
  a : x.kind = 1 ∨ x.kind = 7 ∨ x.kind = 9 → x.a = 0
  b : x.kind ≠ 4 → x.kind ≠ 6 → x.b = 0
  n : x.kind ≠ 1 → x.n = 0
  n64 : -9223372036854775808 ≤ x.n ∧ x.n ≤ 9223372036854775807
theorem canonF (r : Xn) (hr : I64 r.n) : Canon (insF r) := by
  have k0 := pickN_lo r.kind 9 (by decide)
  have k1 := pickN_hi r.kind 9 (by decide)
  have m0 := pickN_lo r.n 2 (by decide)
  have m1 := pickN_hi r.n 2 (by decide)
  have c0 := pickN_lo r.n 3 (by decide)
  have c1 := pickN_hi r.n 3 (by decide)
  have o0 := pickN_lo r.op 3 (by decide)
  have o1 := pickN_hi r.op 3 (by decide)
  have p0 := pickN_lo r.op 16 (by decide)
  have p1 := pickN_hi r.op 16 (by decide)
  have ek : (insF r).kind = 1 + pickN r.kind 9 := rfl
  have eo : (insF r).op = if 1 + pickN r.kind 9 = 3 then 17 + pickN r.op 3 else if 1 + pickN r.kind 9 = 4 then 1 + pickN r.op 16 else 0 := rfl
  have em : (insF r).name = if 1 + pickN r.kind 9 = 5 ∨ 1 + pickN r.kind 9 = 6 then abL.getD (pickN r.n 2).toNat [] else if 1 + pickN r.kind 9 = 9 then namesL.getD (pickN r.n 3).toNat [] else [] := rfl
  have ea : (insF r).args = if 1 + pickN r.kind 9 = 9 then argsOf (pickN r.n 3).toNat r.a r.b else [] := rfl
  refine ⟨tens_fit r, ?_, ?_, fun h => ?_, fun h => ?_, fun h h' => ?_, fun h => ?_, ?_⟩
  · rw [eo, ek]
    by_cases h3 : 1 + pickN r.kind 9 = 3
    · left; rw [if_pos h3]; omega
    · by_cases h4 : 1 + pickN r.kind 9 = 4
      · right; left; rw [if_neg h3, if_pos h4]; omega
      · right; right; rw [if_neg h3, if_neg h4]; omega
  · rw [em, ea, ek]
    by_cases h5 : 1 + pickN r.kind 9 = 5 ∨ 1 + pickN r.kind 9 = 6
    · left
      rw [if_pos h5, if_neg (by omega)]
      refine ⟨h5, ?_, rfl⟩
      rcases (by omega : pickN r.n 2 = 0 ∨ pickN r.n 2 = 1) with h | h <;> rw [h]
      · exact .inl rfl
      · exact .inr rfl
    · rw [if_neg h5]
      by_cases h9 : 1 + pickN r.kind 9 = 9
      · right; left
        rw [if_pos h9, if_pos h9, argsOf_len]
        refine ⟨h9, ?_⟩
        rcases (by omega : pickN r.n 3 = 0 ∨ pickN r.n 3 = 1 ∨ pickN r.n 3 = 2) with h | h | h <;> rw [h]
        · exact .inl ⟨rfl, rfl⟩
        · exact .inr (.inl ⟨rfl, rfl⟩)
        · exact .inr (.inr ⟨rfl, rfl⟩)
      · right; right
        rw [if_neg h9, if_neg h9]
        exact ⟨by omega, by omega, by omega, rfl, rfl⟩
  · rw [ek] at h
    show (if 1 + pickN r.kind 9 ≠ 6 ∧ 1 + pickN r.kind 9 ≠ 8 then pickN r.d 10 else 0) = 0
    rw [if_neg (by omega)]
  · rw [ek] at h
    show (if 1 + pickN r.kind 9 ≠ 1 ∧ 1 + pickN r.kind 9 ≠ 7 ∧ 1 + pickN r.kind 9 ≠ 9 then pickN r.a 10 else 0) = 0
    rw [if_neg (by omega)]
  · rw [ek] at h h'
    show (if 1 + pickN r.kind 9 = 4 ∨ 1 + pickN r.kind 9 = 6 then pickN r.b 10 else 0) = 0
    rw [if_neg (by omega)]
  · rw [ek] at h
    show (if 1 + pickN r.kind 9 = 1 then r.n else 0) = 0
    rw [if_neg h]
  · show -9223372036854775808 ≤ (if 1 + pickN r.kind 9 = 1 then r.n else 0) ∧ (if 1 + pickN r.kind 9 = 1 then r.n else 0) ≤ 9223372036854775807
    split
    · exact hr
    · omega
/-- The shape of an instruction's text. -/
def shX (x : Xn) : List UInt8 :=
  if x.kind = 6 then x.name ++ [91, 118, 93, 32, 61, 32, 118]
  else if x.kind = 8 then [112, 114, 105, 110, 116, 32, 118]
  else if x.kind = 1 then [118, 32, 61, 32] ++ Lib.itoa x.n
  else if x.kind = 2 then [118, 32, 61, 32, 118]
  else if x.kind = 3 then [118, 32, 61, 32] ++ signL x.op ++ [32, 118]
  else if x.kind = 4 then [118, 32, 61, 32, 118, 32] ++ signL x.op ++ [32, 118]
  else if x.kind = 5 then [118, 32, 61, 32] ++ x.name ++ [91, 118, 93]
  else if x.kind = 7 then [118, 32, 61, 32, 114, 101, 97, 100]
  else [118, 32, 61, 32] ++ x.name ++ [40] ++ joinS x.args.length ++ [41]
theorem shp_ins (x : Xn) (h : Tens x) : shp (insT x) = shX x := by
  obtain ⟨hk, hd, ha, hb, hl, hn, _⟩ := h
  obtain ⟨k, d, a, b, op, n, name, args⟩ := x
  simp only at hk hd ha hb hl hn
  have sd : ∀ t, shp (valT d ++ t) = 118 :: shp t := shp_val d hd.1 hd.2
  have sa : ∀ t, shp (valT a ++ t) = 118 :: shp t := shp_val a ha.1 ha.2
  have sb : ∀ t, shp (valT b ++ t) = 118 :: shp t := shp_val b hb.1 hb.2
  have sa0 : shp (valT a) = [118] := by have := sa []; rw [List.append_nil] at this; exact this
  have sb0 : shp (valT b) = [118] := by have := sb []; rw [List.append_nil] at this; exact this
  have sj := shp_join args hl
  have eq3 : ∀ t, shp (32 :: 61 :: 32 :: t) = 32 :: 61 :: 32 :: shp t := fun t => shp_skip [32, 61, 32] t (by decide)
  have sp : ∀ t, shp (32 :: t) = 32 :: shp t := fun t => shp_skip [32] t (by decide)
  have sn : ∀ t, shp (name ++ t) = name ++ shp t := fun t => shp_skip name t hn
  have ss : ∀ t, shp (signL op ++ t) = signL op ++ shp t := fun t => shp_skip _ t (no_sign op)
  have si : shp (Lib.itoa n) = Lib.itoa n := by have := shp_skip (Lib.itoa n) [] (no_itoa n); rw [List.append_nil] at this; rw [this]; simp [shp]
  have s91 : ∀ t, shp (91 :: t) = 91 :: shp t := fun t => shp_skip [91] t (by decide)
  have s93e : shp [93] = [93] := rfl
  have s93 : ∀ t, shp (93 :: 32 :: 61 :: 32 :: t) = 93 :: 32 :: 61 :: 32 :: shp t := fun t => shp_skip [93, 32, 61, 32] t (by decide)
  have s40 : ∀ t, shp (40 :: t) = 40 :: shp t := fun t => shp_skip [40] t (by decide)
  have s41 : shp [41] = [41] := rfl
  have spr : ∀ t, shp (112 :: 114 :: 105 :: 110 :: 116 :: 32 :: t) = 112 :: 114 :: 105 :: 110 :: 116 :: 32 :: shp t := fun t => shp_skip [112, 114, 105, 110, 116, 32] t (by decide)
  have srd : shp [114, 101, 97, 100] = [114, 101, 97, 100] := rfl
  rcases nine hk.1 hk.2 with e | e | e | e | e | e | e | e | e
  all_goals
    subst e
    simp [insT, shX, setT, sd, sa, sb, sa0, sb0, sj, eq3, sp, sn, ss, si, s91, s93, s93e, s40, s41, spr, srd]
/-- Kinds, operators, names and shapes. -/
def TB : List (Int × Int × List UInt8 × List UInt8) :=
  [(2, 0, [], [118, 32, 61, 32, 118]), (7, 0, [], [118, 32, 61, 32, 114, 101, 97, 100]), (8, 0, [], [112, 114, 105, 110, 116, 32, 118]),
   (5, 0, [97], [118, 32, 61, 32, 97, 91, 118, 93]), (5, 0, [98], [118, 32, 61, 32, 98, 91, 118, 93]), (6, 0, [97], [97, 91, 118, 93, 32, 61, 32, 118]), (6, 0, [98], [98, 91, 118, 93, 32, 61, 32, 118]),
   (9, 0, mainN, [118, 32, 61, 32] ++ mainN ++ [40, 41]), (9, 0, [102], [118, 32, 61, 32, 102, 40, 118, 41]), (9, 0, [103], [118, 32, 61, 32, 103, 40, 118, 44, 32, 118, 41])]
  ++ [17, 18, 19].map (fun o : Int => (3, o, [], [118, 32, 61, 32] ++ signL o ++ [32, 118]))
  ++ [1, 2, 3, 4, 5, 6, 7, 8, 9, 10, 11, 12, 13, 14, 15, 16].map (fun o : Int => (4, o, [], [118, 32, 61, 32, 118, 32] ++ signL o ++ [32, 118]))
theorem tb_one : ∀ p ∈ TB, ∀ q ∈ TB, p.2.2.2 = q.2.2.2 → p = q := by decide +kernel
theorem tb_mem (x : Xn) (h : Canon x) (hk : x.kind ≠ 1) : (x.kind, x.op, x.name, shX x) ∈ TB := by
  obtain ⟨ht, ho, hm, _, _, _, _, _⟩ := h
  obtain ⟨k1, k2⟩ := ht.k
  obtain ⟨k, d, a, b, op, n, name, args⟩ := x
  simp only at hk ho hm k1 k2
  rcases nine k1 k2 with e | e | e | e | e | e | e | e | e
  · exact absurd e hk
  all_goals subst e
  · have h1 : op = 0 := by omega
    have h2 : name = [] := by rcases hm with ⟨h, _⟩ | ⟨h, _⟩ | ⟨_, _, _, h, _⟩ <;> first | exact h | omega
    subst h1 h2
    simp [shX, TB]
  · have h2 : name = [] := by rcases hm with ⟨h, _⟩ | ⟨h, _⟩ | ⟨_, _, _, h, _⟩ <;> first | exact h | omega
    subst h2
    rcases (by omega : op = 17 ∨ op = 18 ∨ op = 19) with rfl | rfl | rfl <;> simp [shX, TB]
  · have h2 : name = [] := by rcases hm with ⟨h, _⟩ | ⟨h, _⟩ | ⟨_, _, _, h, _⟩ <;> first | exact h | omega
    subst h2
    rcases (by omega : op = 1 ∨ op = 2 ∨ op = 3 ∨ op = 4 ∨ op = 5 ∨ op = 6 ∨ op = 7 ∨ op = 8 ∨ op = 9 ∨ op = 10 ∨ op = 11 ∨ op = 12 ∨ op = 13 ∨ op = 14 ∨ op = 15 ∨ op = 16) with rfl | rfl | rfl | rfl | rfl | rfl | rfl | rfl | rfl | rfl | rfl | rfl | rfl | rfl | rfl | rfl <;> simp [shX, TB]
  · have h1 : op = 0 := by omega
    subst h1
    rcases hm with ⟨_, h, _⟩ | ⟨h, _⟩ | ⟨h, _⟩
    · rcases h with rfl | rfl <;> simp [shX, TB]
    · omega
    · omega
  · have h1 : op = 0 := by omega
    subst h1
    rcases hm with ⟨_, h, _⟩ | ⟨h, _⟩ | ⟨_, h, _⟩
    · rcases h with rfl | rfl <;> simp [shX, TB]
    · omega
    · omega
  · have h1 : op = 0 := by omega
    have h2 : name = [] := by rcases hm with ⟨h, _⟩ | ⟨h, _⟩ | ⟨_, _, _, h, _⟩ <;> first | exact h | omega
    subst h1 h2
    simp [shX, TB]
  · have h1 : op = 0 := by omega
    have h2 : name = [] := by rcases hm with ⟨h, _⟩ | ⟨h, _⟩ | ⟨_, _, _, h, _⟩ <;> first | exact h | omega
    subst h1 h2
    simp [shX, TB]
  · have h1 : op = 0 := by omega
    subst h1
    rcases hm with ⟨h, _⟩ | ⟨_, h⟩ | ⟨_, _, h, _⟩
    · omega
    · rcases h with ⟨rfl, h⟩ | ⟨rfl, h⟩ | ⟨rfl, h⟩ <;> simp [shX, TB, h, joinS, mainN]
    · omega
end Go.Proofs.YtafapkljlajflaaDoor
