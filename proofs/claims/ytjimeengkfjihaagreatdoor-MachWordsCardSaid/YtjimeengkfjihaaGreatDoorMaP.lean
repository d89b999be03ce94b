/- The machine, in plain words. -/
import Derived.Test.YtjimeengkfjihaaGreatDoorAs4
import Derived.Test.YtjimeengkfjihaaGreatDoorMrF
import Derived.Test.YtjimeengkfjihaaGreatDoorMapN
namespace Go.Proofs.YtjimeengkfjihaaGreatDoor
open Go.RowKit
set_option linter.unusedVariables false
structure Mac where
  regs : Int → Int
  mem : Int → Option Int
  ins : List Int
  pc : Nat
  stat : Int
  code : Int
  out : List Int
  steps : Nat
def getR (m : Mac) (r : Int) : Int := m.regs r
def setR (m : Mac) (r v : Int) : Mac := { m with regs := fun x => if x = r then v else m.regs x }
def wordN (W p : Int) : Int :=
  if p % 8 ≠ 0 then -1 else if 65536 ≤ p ∧ p < 65536 + 8 * W then (p - 65536) / 8 else if 1073709056 ≤ p ∧ p < 1073741824 then W + (p - 1073709056) / 8 else -1
def opN (op : Int) : Int := if op = 1 then 1 else if op = 2 then 2 else if op = 3 then 3 else if op = 6 then 6 else if op = 7 then 7 else if op = 8 then 8 else if op = 9 then 9 else if op = 10 then 10 else 11
def madeI (op n a b : Int) : Int :=
  if op = 4 then divV a b else if op = 5 then remV a b else if op = 12 then bi (lessV a b) else if op = 13 then bi (a == 0) else if op = 14 then bi (a != 0) else if op = 15 then a else if op = 16 then n else if op = 18 then wrap64 (a + n) else twoV (opN op) a b
def faultM (m : Mac) : Mac := { m with stat := 6 }
def turnM (T : List Int) (m : Mac) (does : Bool) : Mac := if does then { m with pc := (T.getD (m.pc - 1) 0).toNat } else m
def backB (L : List In) (t : Int) : Bool := decide (t % 4 = 0 ∧ 1 ≤ t / 4 ∧ t / 4 ≤ (L.length : Int)) && decide ((L.getD ((t / 4).toNat - 1) zeroI).op = 26)
def backM (L : List In) (m : Mac) : Mac := if backB L (getR m 1) then { m with pc := (getR m 1 / 4).toNat } else faultM m
def readM (m : Mac) : Mac := match m.ins with
  | [] => setR m 10 (-1)
  | x :: r => setR { m with ins := r } 10 x
def callM (m : Mac) : Mac :=
  if getR m 17 = 1 then { m with out := m.out ++ [getR m 10] } else if getR m 17 = 2 then readM m else if getR m 17 = 3 then { m with stat := 1, code := getR m 10 }
  else if getR m 17 = 4 then (if getR m 10 = 2 ∨ getR m 10 = 3 ∨ getR m 10 = 4 then { m with stat := getR m 10 } else faultM m)
  else if getR m 17 = 5 then { m with stat := 5, code := getR m 10 } else faultM m
def moveM (W : Int) (m : Mac) (x : In) (p : Int) : Mac :=
  if wordN W p < 0 then faultM m else if x.op = 19 then setR m x.d ((m.mem p).getD 0) else { m with mem := putN m.mem p (getR m x.b) }
def stepM (F : List UInt8 → Option Int) (W : Int) (L : List In) (T : List Int) (m0 : Mac) (x : In) : Mac :=
  let a := getR m0 x.a
  let b := getR m0 x.b
  let m := { m0 with pc := m0.pc + 1 }
  if x.op = 17 then setR m x.d ((F x.name).getD 0) else if x.op = 19 ∨ x.op = 20 then moveM W m x (wrap64 (a + x.n))
  else if x.op = 21 then turnM T m (a == b) else if x.op = 22 then turnM T m (a != b) else if x.op = 23 then turnM T m (decide (a < b)) else if x.op = 24 then turnM T m (decide (b ≤ a))
  else if x.op = 25 then turnM T m true else if x.op = 26 then turnM T (setR m 1 (4 * (m.pc : Int))) true else if x.op = 27 then backM L m else if x.op = 28 then callM m
  else setR m x.d (madeI x.op x.n a b)
def zeroM (m : Mac) : Mac := setR m 0 0
def roundM (F : List UInt8 → Option Int) (W : Int) (L : List In) (T : List Int) (m : Mac) : Mac := zeroM (stepM F W L T { m with steps := m.steps + 1 } (L.getD m.pc zeroI))
def goM (F : List UInt8 → Option Int) (W : Int) (L : List In) (T : List Int) : Nat → Mac → Mac
  | 0, m => if m.stat = 0 ∧ L.length ≤ m.pc then faultM m else m
  | n + 1, m => if m.stat ≠ 0 then m else if L.length ≤ m.pc then faultM m else goM F W L T n (roundM F W L T m)
def wordsL (rs : List Ar) : Int := (rs.map (·.size)).sum
def beginsL : List Ar → Int → (List UInt8 → Option Int) → List UInt8 → Option Int
  | [], _, F => F
  | a :: r, p, F => beginsL r (p + 8 * a.size) (putF F a.name p)
def begL (c : Cd) : List UInt8 → Option Int := beginsL c.arrays 65536 (fun _ => none)
def mac0 (ins : List Int) : Mac := ⟨fun r => if r = 2 then 1073741824 else 0, fun _ => none, ins, 0, 0, 0, [], 0⟩
/-- What a run is. -/
structure Rn where
  stat : Int
  code : Int
  out : List Int
  steps : Int
deriving DecidableEq
def Mac.rn (m : Mac) : Rn := ⟨m.stat, m.code, m.out, m.steps⟩
def runL (c : Cd) (ins : List Int) (n : Int) : Rn := if (faultL c).1 ≠ 0 then ⟨0, 0, [], 0⟩ else (goM (begL c) (wordsL c.arrays) (flatI c.lines) ((flatI c.lines).map (toL c)) n.toNat (mac0 ins)).rn
/-! What is kept. -/
structure GoodM (L : List In) (m : Mac) : Prop where
  regs : ∀ r, I64 (m.regs r)
  mem : ∀ p v, m.mem p = some v → I64 v
  ins : ∀ v ∈ m.ins, I64 v
  pc : m.pc ≤ L.length
structure GoodC (F : List UInt8 → Option Int) (W : Int) (L : List In) (T : List Int) : Prop where
  len : L.length ≤ 40000
  tos : T.length = L.length
  words : 0 ≤ W ∧ W ≤ 1099511627776
  begs : ∀ n v, F n = some v → I64 v
  right : ∀ x ∈ L, rightB x = true ∧ I64 x.n
  turn : ∀ i (h : i < L.length), 21 ≤ (L[i]'h).op → (L[i]'h).op ≤ 26 → ∃ k : Nat, T.getD i 0 = (k : Int) ∧ k ≤ L.length
theorem i64_of {a b : Int} (h : a = b) (k : I64 b) : I64 a := h ▸ k
theorem i64_0 : I64 0 := ⟨by decide, by decide⟩
theorem i64_wrap (v : Int) : I64 (wrap64 v) := by
  unfold I64 wrap64; omega
theorem getR_i64 {L : List In} {m : Mac} (h : GoodM L m) (r : Int) : I64 (getR m r) := h.regs r
theorem setR_good {L : List In} {m : Mac} (h : GoodM L m) (r : Int) {v : Int} (hv : I64 v) : GoodM L (setR m r v) :=
  ⟨fun x => by
    show I64 (if x = r then v else m.regs x)
    by_cases e : x = r
    · rw [if_pos e]; exact hv
    · rw [if_neg e]; exact h.regs x, h.mem, h.ins, h.pc⟩
theorem i64_bi (c : Bool) : I64 (bi c) := by cases c <;> exact ⟨by decide, by decide⟩
theorem i64_kw (v : Int) : I64 (IntKind.i64.wrap v) := by
  rw [IntKind.wrap_i64]
  unfold I64; omega
theorem i64_and (a b : Int) : I64 (bits .and .i64 a b) := i64_kw _
theorem i64_or (a b : Int) : I64 (bits .or .i64 a b) := i64_kw _
theorem i64_xor (a b : Int) : I64 (bits .xor .i64 a b) := i64_kw _
theorem i64_tmod {a : Int} (h : I64 a) (b : Int) : I64 (a.tmod b) := by
  unfold I64 at *
  have h2 : (a.tmod b).natAbs ≤ a.natAbs := by rw [Int.natAbs_tmod]; exact Nat.mod_le _ _
  by_cases h0 : 0 ≤ a
  · have := Int.tmod_nonneg b h0
    omega
  · have : 0 ≤ (-a).tmod b := Int.tmod_nonneg b (by omega)
    rw [Int.neg_tmod] at this
    omega
theorem i64_div {a : Int} (h : I64 a) {d : Int} (hd : 0 < d) : I64 (a / d) := by
  unfold I64 at *
  by_cases h0 : 0 ≤ a
  · have h1 := Int.ediv_nonneg h0 (Int.le_of_lt hd)
    have h2 := Int.ediv_le_self d h0
    omega
  · have h1 : a ≤ a / d := by
      refine (Int.le_ediv_iff_mul_le hd).2 ?_
      have : a * d ≤ a * 1 := Int.mul_le_mul_of_nonpos_left (by omega) (by omega)
      omega
    have h2 : a / d < 0 := Int.ediv_neg_of_neg_of_pos (by omega) hd
    omega
theorem i64_ite {c : Prop} [Decidable c] {x y : Int} (hx : I64 x) (hy : I64 y) : I64 (if c then x else y) := by
  by_cases h : c
  · rw [if_pos h]; exact hx
  · rw [if_neg h]; exact hy
theorem i64_shr {a : Int} (h : I64 a) (b : Int) : I64 (a / 2 ^ sh b) := i64_div h (Int.pow_pos (by decide))
theorem i64_two (op a b : Int) (ha : I64 a) : I64 (twoV op a b) := by
  unfold twoV
  repeat' (with_reducible apply i64_ite)
  all_goals first | with_reducible exact i64_wrap _ | with_reducible exact i64_0 | with_reducible exact i64_tmod ha _ | with_reducible exact i64_and _ _ | with_reducible exact i64_or _ _ | with_reducible exact i64_xor _ _ | with_reducible exact i64_bi _ | with_reducible exact i64_shr ha b
theorem i64_made (op : Int) {n a : Int} (b : Int) (hn : I64 n) (ha : I64 a) : I64 (madeI op n a b) := by
  unfold madeI divV remV
  repeat' (with_reducible apply i64_ite)
  all_goals first | with_reducible exact i64_wrap _ | with_reducible exact ha | with_reducible exact hn | exact (⟨by decide, by decide⟩ : I64 (-1)) | with_reducible exact i64_tmod ha _ | with_reducible exact i64_bi _ | with_reducible exact i64_two _ _ _ ha
theorem fault_good {L : List In} {m : Mac} (h : GoodM L m) : GoodM L (faultM m) := ⟨h.regs, h.mem, h.ins, h.pc⟩
theorem right_regs {x : In} (h : rightB x = true) : (0 ≤ x.d ∧ x.d < 32) ∧ (0 ≤ x.a ∧ x.a < 32) ∧ (0 ≤ x.b ∧ x.b < 32) ∧ 1 ≤ x.op ∧ x.op ≤ 28 := by
  have ho := right_op h
  rw [right_eq] at h
  unfold rightE at h
  simp only [Bool.and_eq_true] at h
  have key : ∀ (c : Bool) (v : Int), (if c = true then regB v else v == 0) = true → 0 ≤ v ∧ v < 32 := by
    intro c v h
    cases c
    · have : v = 0 := by simpa using h
      omega
    · have : regB v = true := h
      exact of_decide_eq_true this
  unfold isOp at ho
  have ho := of_decide_eq_true ho
  exact ⟨key _ _ h.1.1.1.1.2, key _ _ h.1.1.1.2, key _ _ h.1.1.2, ho⟩
theorem turn_good {L : List In} {T : List Int} {m : Mac} (h : GoodM L m) {k : Nat} (hk : T.getD (m.pc - 1) 0 = (k : Int)) (hl : k ≤ L.length) (does : Bool) : GoodM L (turnM T m does) := by
  unfold turnM
  split
  · exact ⟨h.regs, h.mem, h.ins, by show (T.getD (m.pc - 1) 0).toNat ≤ _; rw [hk]; simpa using hl⟩
  · exact h
theorem back_good {L : List In} {m : Mac} (h : GoodM L m) : GoodM L (backM L m) := by
  unfold backM
  split
  · rename_i hb
    refine ⟨h.regs, h.mem, h.ins, ?_⟩
    show (getR m 1 / 4).toNat ≤ _
    unfold backB at hb
    have := (of_decide_eq_true (Bool.and_eq_true_iff.1 hb).1).2.2
    omega
  · exact fault_good h
theorem read_good {L : List In} {m : Mac} (h : GoodM L m) : GoodM L (readM m) := by
  unfold readM
  split
  · exact setR_good h _ ⟨by decide, by decide⟩
  · rename_i x r e
    have hx := h.ins x (by rw [e]; simp)
    refine setR_good (m := { m with ins := r }) ⟨h.regs, h.mem, fun v hv => h.ins v (by rw [e]; exact List.mem_cons_of_mem _ hv), h.pc⟩ _ hx
theorem call_good {L : List In} {m : Mac} (h : GoodM L m) : GoodM L (callM m) := by
  unfold callM
  repeat' split
  all_goals first | exact read_good h | exact fault_good h | exact ⟨h.regs, h.mem, h.ins, h.pc⟩
theorem move_good {L : List In} {m : Mac} (h : GoodM L m) (W : Int) (x : In) (p : Int) : GoodM L (moveM W m x p) := by
  unfold moveM
  split
  · exact fault_good h
  · split
    · refine setR_good h _ ?_
      cases e : m.mem p with
      | none => exact i64_0
      | some v => exact h.mem _ _ e
    · refine ⟨h.regs, fun q v hv => ?_, h.ins, h.pc⟩
      have hv : putN m.mem p (getR m x.b) q = some v := hv
      unfold putN at hv
      split at hv
      · injection hv with hv; subst hv; exact getR_i64 h _
      · exact h.mem _ _ hv
theorem step_good {F : List UInt8 → Option Int} {W : Int} {L : List In} {T : List Int} (hc : GoodC F W L T) {m : Mac} (h : GoodM L m) (hp : m.pc < L.length) : GoodM L (stepM F W L T m (L.getD m.pc zeroI)) := by
  have hx : L.getD m.pc zeroI = L[m.pc]'hp := by rw [List.getD_eq_getElem?_getD, List.getElem?_eq_getElem hp]; rfl
  have hr := hc.right _ (List.getElem_mem hp)
  have ht := hc.turn _ hp
  rw [← hx] at hr ht
  generalize L.getD m.pc zeroI = x at *
  obtain ⟨m1, hm1⟩ : ∃ m1, { m with pc := m.pc + 1 } = m1 := ⟨_, rfl⟩
  have h1 : GoodM L m1 := by rw [← hm1]; exact ⟨h.regs, h.mem, h.ins, hp⟩
  have hp1 : m1.pc = m.pc + 1 := by rw [← hm1]
  have hl := hc.len
  have ga := getR_i64 h x.a
  have hF : I64 ((F x.name).getD 0) := by
    cases e : F x.name with
    | none => exact i64_0
    | some v => exact hc.begs _ _ e
  have hM := i64_made x.op (getR m x.b) hr.2 ga
  have key : ∀ k : Nat, T.getD m.pc 0 = (k : Int) → k ≤ L.length → ∀ does, GoodM L (turnM T m1 does) := fun k hk hk2 does => turn_good h1 (by rw [hp1]; simpa using hk) hk2 does
  have key2 : ∀ k : Nat, T.getD m.pc 0 = (k : Int) → k ≤ L.length → ∀ does, GoodM L (turnM T (setR m1 1 (4 * (m1.pc : Int))) does) := fun k hk hk2 does => turn_good (setR_good h1 1 (by unfold I64; omega)) (by show T.getD (m1.pc - 1) 0 = _; rw [hp1]; simpa using hk) hk2 does
  unfold stepM
  simp only [hm1]
  clear hm1 hx
  by_cases e : 21 ≤ x.op ∧ x.op ≤ 26
  · obtain ⟨k, hk, hk2⟩ := ht e.1 e.2
    have key := key k hk hk2
    have key2 := key2 k hk hk2
    rw [if_neg (by omega), if_neg (by omega)]
    clear hM hF ga hk
    by_cases e1 : x.op = 21
    · rw [if_pos e1]; exact key _
    rw [if_neg e1]
    by_cases e1 : x.op = 22
    · rw [if_pos e1]; exact key _
    rw [if_neg e1]
    by_cases e1 : x.op = 23
    · rw [if_pos e1]; exact key _
    rw [if_neg e1]
    by_cases e1 : x.op = 24
    · rw [if_pos e1]; exact key _
    rw [if_neg e1]
    by_cases e1 : x.op = 25
    · rw [if_pos e1]; exact key _
    rw [if_neg e1, if_pos (by omega)]
    have k2 := key2 true
    rw [hp1] at k2
    exact k2
  · clear key key2 ht
    by_cases e1 : x.op = 17
    · rw [if_pos e1]; exact setR_good h1 _ hF
    rw [if_neg e1]
    by_cases e1 : x.op = 19 ∨ x.op = 20
    · rw [if_pos e1]; exact move_good h1 _ _ _
    rw [if_neg e1, if_neg (by omega), if_neg (by omega), if_neg (by omega), if_neg (by omega), if_neg (by omega), if_neg (by omega)]
    by_cases e1 : x.op = 27
    · rw [if_pos e1]; exact back_good h1
    rw [if_neg e1]
    by_cases e1 : x.op = 28
    · rw [if_pos e1]; exact call_good h1
    rw [if_neg e1]
    exact setR_good h1 _ hM
theorem zero_good {L : List In} {m : Mac} (h : GoodM L m) : GoodM L (zeroM m) := setR_good h _ i64_0
theorem round_good {F : List UInt8 → Option Int} {W : Int} {L : List In} {T : List Int} (hc : GoodC F W L T) {m : Mac} (h : GoodM L m) (hp : m.pc < L.length) : GoodM L (roundM F W L T m) :=
  zero_good (step_good hc (m := { m with steps := m.steps + 1 }) ⟨h.regs, h.mem, h.ins, h.pc⟩ hp)
theorem mac0_good (L : List In) (ins : List Int) (h : ∀ v ∈ ins, I64 v) : GoodM L (mac0 ins) :=
  ⟨fun r => by
    show I64 (if r = 2 then 1073741824 else 0)
    by_cases e : r = 2
    · rw [if_pos e]; exact ⟨by decide, by decide⟩
    · rw [if_neg e]; exact i64_0, fun p v h => (by cases h), h, Nat.zero_le _⟩
end Go.Proofs.YtjimeengkfjihaaGreatDoor
