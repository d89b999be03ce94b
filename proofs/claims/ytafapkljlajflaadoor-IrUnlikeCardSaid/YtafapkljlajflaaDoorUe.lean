/- The places that an instruction's text names: plain. -/
import Derived.Test.YtafapkljlajflaaDoorUd
namespace Go.Proofs.YtafapkljlajflaaDoor
open Go.RowKit
/-- The digits behind a v, a byte's look ahead. -/
def scanV : List UInt8 → List Int
  | c :: d :: r => if c = 118 ∧ digitB d = true then ((d.toNat : Int) - 48) :: scanV (d :: r) else scanV (d :: r)
  | _ => []
theorem scanV_skip : ∀ (l r : List UInt8), (∀ c ∈ l, c ≠ 118) → scanV (l ++ r) = scanV r
  | [], r, _ => rfl
  | [c], [], _ => rfl
  | [c], d :: r, h => by
    show scanV (c :: d :: r) = _
    rw [scanV, if_neg (fun k => h c (by simp) k.1)]
  | c :: d :: l, r, h => by
    show scanV (c :: d :: (l ++ r)) = _
    rw [scanV, if_neg (fun k => h c (by simp) k.1)]
    exact scanV_skip (d :: l) r (fun x hx => h x (List.mem_cons_of_mem _ hx))
theorem itoa_dig (d : Int) (h0 : 0 ≤ d) (h1 : d < 10) : Lib.itoa d = [UInt8.ofNat (48 + d.toNat)] := by
  unfold Lib.itoa
  rw [if_neg (by omega), Lib.decDigits, dif_pos (by omega)]
theorem scanV_val (d : Int) (h0 : 0 ≤ d) (h1 : d < 10) (r : List UInt8) : scanV (valT d ++ r) = d :: scanV r := by
  unfold valT
  rw [itoa_dig d h0 h1]
  have hd := dig_of d.toNat (by omega)
  have hdb : digitB (UInt8.ofNat (48 + d.toNat)) = true := by unfold digitB; rw [hd]; exact decide_eq_true (by omega)
  show scanV (118 :: UInt8.ofNat (48 + d.toNat) :: r) = _
  rw [scanV, if_pos ⟨rfl, hdb⟩, hd]
  have e : scanV (UInt8.ofNat (48 + d.toNat) :: r) = scanV r := by
    refine scanV_skip [UInt8.ofNat (48 + d.toNat)] r (fun c hc => ?_)
    rw [List.mem_singleton.1 hc]
    intro k
    have := congrArg UInt8.toNat k
    rw [hd] at this
    have : (118 : UInt8).toNat = 118 := rfl
    omega
  rw [e]
  congr 1; omega
theorem no_itoa (v : Int) : ∀ c ∈ Lib.itoa v, c ≠ 118 := by
  intro c hc e
  subst e
  have := itoa_in v 118 hc
  revert this; decide
theorem no_sign (k : Int) : ∀ c ∈ signL k, c ≠ 118 := by
  by_cases h : 1 ≤ k ∧ k ≤ 19
  · rcases (by omega : k = 1 ∨ k = 2 ∨ k = 3 ∨ k = 4 ∨ k = 5 ∨ k = 6 ∨ k = 7 ∨ k = 8 ∨ k = 9 ∨ k = 10 ∨ k = 11 ∨ k = 12 ∨ k = 13 ∨ k = 14 ∨ k = 15 ∨ k = 16 ∨ k = 17 ∨ k = 18 ∨ k = 19) with h | h | h | h | h | h | h | h | h | h | h | h | h | h | h | h | h | h | h <;> subst h <;> decide
  · have e : signL k = [] := by
      unfold signL
      repeat rw [if_neg (by omega)]
    rw [e]; simp
theorem scanV_join : ∀ (l : List Int), (∀ v ∈ l, 0 ≤ v ∧ v < 10) → ∀ r, scanV (joinV l ++ r) = l ++ scanV r
  | [], _, r => rfl
  | [v], h, r => by
    have := h v (by simp)
    exact scanV_val v this.1 this.2 r
  | v :: w :: l, h, r => by
    have hv := h v (by simp)
    unfold joinV
    rw [List.append_assoc, List.append_assoc, scanV_val v hv.1 hv.2, scanV_skip [44, 32] _ (by decide), scanV_join (w :: l) (fun x hx => h x (List.mem_cons_of_mem _ hx)) r]
    rfl
def wantL (x : Xn) : List Int := (if 0 ≤ setsL x then [setsL x] else []) ++ usesL x
theorem nmv_fit (r : Xn) : ∀ c ∈ (insF r).name, c ≠ 118 := by
  have m0 := pickN_lo r.n 2 (by decide)
  have m1 := pickN_hi r.n 2 (by decide)
  have c0 := pickN_lo r.n 3 (by decide)
  have c1 := pickN_hi r.n 3 (by decide)
  unfold insF
  simp only
  split
  · rcases (by omega : pickN r.n 2 = 0 ∨ pickN r.n 2 = 1) with h | h <;> rw [h] <;> decide
  · split
    · rcases (by omega : pickN r.n 3 = 0 ∨ pickN r.n 3 = 1 ∨ pickN r.n 3 = 2) with h | h | h <;> rw [h] <;> decide
    · simp
theorem pk10 (c : Int) : 0 ≤ pickN c 10 ∧ pickN c 10 < 10 := ⟨pickN_lo c 10 (by decide), pickN_hi c 10 (by decide)⟩
structure Tens (x : Xn) : Prop where
  k : 1 ≤ x.kind ∧ x.kind ≤ 9
  d : 0 ≤ x.d ∧ x.d < 10
  a : 0 ≤ x.a ∧ x.a < 10
  b : 0 ≤ x.b ∧ x.b < 10
  l : ∀ v ∈ x.args, 0 ≤ v ∧ v < 10
  n : ∀ c ∈ x.name, c ≠ 118
  s : x.kind = 6 ∨ x.kind = 9 → x.name ≠ []
theorem tens_fit (r : Xn) : Tens (insF r) := by
  have k0 := pickN_lo r.kind 9 (by decide)
  have k1 := pickN_hi r.kind 9 (by decide)
  have m0 := pickN_lo r.n 2 (by decide)
  have m1 := pickN_hi r.n 2 (by decide)
  have c0 := pickN_lo r.n 3 (by decide)
  have c1 := pickN_hi r.n 3 (by decide)
  have z : (0 : Int) ≤ 0 ∧ (0 : Int) < 10 := by decide
  refine ⟨by show 1 ≤ 1 + pickN r.kind 9 ∧ 1 + pickN r.kind 9 ≤ 9; omega, ?_, ?_, ?_, ?_, nmv_fit r, ?_⟩
  · show 0 ≤ (if _ then pickN r.d 10 else 0) ∧ (if _ then pickN r.d 10 else 0) < 10
    split
    · exact pk10 _
    · exact z
  · show 0 ≤ (if _ then pickN r.a 10 else 0) ∧ (if _ then pickN r.a 10 else 0) < 10
    split
    · exact pk10 _
    · exact z
  · show 0 ≤ (if _ then pickN r.b 10 else 0) ∧ (if _ then pickN r.b 10 else 0) < 10
    split
    · exact pk10 _
    · exact z
  · intro v hv
    unfold insF at hv
    simp only at hv
    split at hv
    · obtain ⟨i, _, rfl⟩ := List.mem_map.1 hv
      exact pk10 _
    · cases hv
  · intro hk
    have hk' : 1 + pickN r.kind 9 = 6 ∨ 1 + pickN r.kind 9 = 9 := hk
    show (if 1 + pickN r.kind 9 = 5 ∨ 1 + pickN r.kind 9 = 6 then abL.getD (pickN r.n 2).toNat [] else if 1 + pickN r.kind 9 = 9 then namesL.getD (pickN r.n 3).toNat [] else []) ≠ []
    split
    · rcases (by omega : pickN r.n 2 = 0 ∨ pickN r.n 2 = 1) with h | h <;> rw [h] <;> decide
    · rw [if_pos (by omega)]
      rcases (by omega : pickN r.n 3 = 0 ∨ pickN r.n 3 = 1 ∨ pickN r.n 3 = 2) with h | h | h <;> rw [h] <;> decide
theorem scan_ins (x : Xn) (h : Tens x) (r : List UInt8) (hr : scanV r = []) : scanV (insT x ++ r) = wantL x := by
  obtain ⟨hk, hd, ha, hb, hl, hn, _⟩ := h
  obtain ⟨k, d, a, b, op, n, name, args⟩ := x
  simp only at hk hd ha hb hl hn
  have sd : ∀ t, scanV (valT d ++ t) = d :: scanV t := scanV_val d hd.1 hd.2
  have sa : ∀ t, scanV (valT a ++ t) = a :: scanV t := scanV_val a ha.1 ha.2
  have sb : ∀ t, scanV (valT b ++ t) = b :: scanV t := scanV_val b hb.1 hb.2
  have sj := scanV_join args hl
  have eq3 : ∀ t, scanV (32 :: 61 :: 32 :: t) = scanV t := fun t => scanV_skip [32, 61, 32] t (by decide)
  have sp : ∀ t, scanV (32 :: t) = scanV t := fun t => scanV_skip [32] t (by decide)
  have sn : ∀ t, scanV (name ++ t) = scanV t := fun t => scanV_skip name t hn
  have ss : ∀ t, scanV (signL op ++ t) = scanV t := fun t => scanV_skip _ t (no_sign op)
  have si : ∀ t, scanV (Lib.itoa n ++ t) = scanV t := fun t => scanV_skip _ t (no_itoa n)
  have s91 : ∀ t, scanV (91 :: t) = scanV t := fun t => scanV_skip [91] t (by decide)
  have s93 : ∀ t, scanV (93 :: t) = scanV t := fun t => scanV_skip [93] t (by decide)
  have s40 : ∀ t, scanV (40 :: t) = scanV t := fun t => scanV_skip [40] t (by decide)
  have s41 : ∀ t, scanV (41 :: t) = scanV t := fun t => scanV_skip [41] t (by decide)
  have spr : ∀ t, scanV (112 :: 114 :: 105 :: 110 :: 116 :: 32 :: t) = scanV t := fun t => scanV_skip [112, 114, 105, 110, 116, 32] t (by decide)
  have srd : ∀ t, scanV (114 :: 101 :: 97 :: 100 :: t) = scanV t := fun t => scanV_skip [114, 101, 97, 100] t (by decide)
  have hd0 := hd.1
  rcases nine hk.1 hk.2 with e | e | e | e | e | e | e | e | e
  all_goals
    subst e
    simp [insT, setT, wantL, setsL, usesL, hD, hA, hB, sd, sa, sb, sj, eq3, sp, sn, ss, si, s91, s93, s40, s41, spr, srd, hr, hd0]
theorem nb_itoa (v : Int) : ∀ c ∈ Lib.itoa v, c ≠ 106 := by
  intro c hc e
  subst e
  have := itoa_in v 106 hc
  revert this; decide
/-- An instruction's text does not begin as a jump does. -/
theorem ins_head (x : Xn) (h : Tens x) (hab : x.kind = 6 → x.name.getD 0 0 ≠ 106) : ∃ c t, insT x = c :: t ∧ c ≠ 106 := by
  obtain ⟨hk, _, _, _, _, _, hs⟩ := h
  obtain ⟨k, d, a, b, op, n, name, args⟩ := x
  simp only at hk hs hab
  rcases nine hk.1 hk.2 with e | e | e | e | e | e | e | e | e
  all_goals subst e
  · exact ⟨118, _, rfl, by decide⟩
  · exact ⟨118, _, rfl, by decide⟩
  · exact ⟨118, _, rfl, by decide⟩
  · exact ⟨118, _, rfl, by decide⟩
  · exact ⟨118, _, rfl, by decide⟩
  · cases name with
    | nil => exact absurd rfl (hs (.inl rfl))
    | cons c t => exact ⟨c, _, rfl, hab rfl⟩
  · exact ⟨118, _, rfl, by decide⟩
  · exact ⟨112, _, rfl, by decide⟩
  · exact ⟨118, _, rfl, by decide⟩
theorem st_fit (r : Xn) : (insF r).kind = 6 → (insF r).name.getD 0 0 ≠ 106 := by
  intro hk
  have m0 := pickN_lo r.n 2 (by decide)
  have m1 := pickN_hi r.n 2 (by decide)
  have hk' : 1 + pickN r.kind 9 = 6 := hk
  show (if 1 + pickN r.kind 9 = 5 ∨ 1 + pickN r.kind 9 = 6 then abL.getD (pickN r.n 2).toNat [] else if 1 + pickN r.kind 9 = 9 then namesL.getD (pickN r.n 3).toNat [] else []).getD 0 0 ≠ 106
  rw [if_pos (.inr hk')]
  rcases (by omega : pickN r.n 2 = 0 ∨ pickN r.n 2 = 1) with h | h <;> rw [h] <;> decide
/-- The unit of no raw blocks, with an instruction in its first block; its text. -/
def oneU (L : List Xn) : Un := mkU fun k => if k = 0 then [⟨L, ⟨1, 0, 0, 0⟩⟩] else [⟨[], ⟨1, 0, 0, 0⟩⟩]
theorem one_nil : fitU [] = oneU [] := by
  rw [fit_mkU]
  unfold oneU
  congr 1
  funext k
  show (bksOf [] k).map (fun b => blkF b (bksOf [] k).length) = _
  have e : bksOf [] k = [zeroK] := by
    unfold bksOf
    rw [if_pos]
    show min 8 ((0 + 2 - k) / 3) = 0
    have : (0 + 2 - k) / 3 = 0 := Nat.div_eq_of_lt (by omega)
    rw [this]; rfl
  rw [e]
  split <;> rfl
def preT : List UInt8 := arrsAB.flatMap arrT ++ flHead ⟨mainN, 0, 10, []⟩ ++ (blkT 0 ++ [58, 10]) ++ [9]
def postT : List UInt8 := trmT ⟨1, 0, 0, 0⟩ ++ [10] ++ flT (flK (fun _ => [⟨[], ⟨1, 0, 0, 0⟩⟩]) 1) ++ flT (flK (fun _ => [⟨[], ⟨1, 0, 0, 0⟩⟩]) 2)
theorem one_txt0 : unT (oneU []) = preT ++ postT := by kernel_rfl
theorem one_txt (x : Xn) : unT (oneU [x]) = preT ++ (insT x ++ ([10, 9] ++ postT)) := by
  show arrsAB.flatMap arrT ++ ((flHead ⟨mainN, 0, 10, []⟩ ++ ((blkT 0 ++ [58, 10] ++ (insLn x ++ []) ++ ([9] ++ trmT ⟨1, 0, 0, 0⟩ ++ [10])) ++ [])) ++ (flT (flK (fun _ => [⟨[], ⟨1, 0, 0, 0⟩⟩]) 1) ++ (flT (flK (fun _ => [⟨[], ⟨1, 0, 0, 0⟩⟩]) 2) ++ []))) = _
  unfold preT postT insLn
  simp only [List.append_assoc, List.append_nil]
  rfl
theorem post_head : postT.head? = some 106 := by kernel_rfl
end Go.Proofs.YtafapkljlajflaaDoor
