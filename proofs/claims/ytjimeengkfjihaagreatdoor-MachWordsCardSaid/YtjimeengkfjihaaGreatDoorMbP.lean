/- What small codes do, in plain words. -/
import Derived.Test.YtjimeengkfjihaaGreatDoorRows
import Derived.WalkKit
import Derived.ProofKit
import Derived.KernelRfl
import Derived.Test.YtjimeengkfjihaaGreatDoorMaX
import Derived.Test.YtjimeengkfjihaaGreatDoorMbA
namespace Go.Proofs.YtjimeengkfjihaaGreatDoor
open Go.ChangeShapes Go.WideShapes Go.ChangeAt Go.RowKit
set_option linter.unusedVariables false
set_option linter.unusedSimpArgs false
set_option maxRecDepth 100000
theorem rn_of {c : Cd} {ins : List Int} {n : Int} {F : List UInt8 → Option Int} {W : Int} {L : List In} {T : List Int} {k : Nat} (hf : (faultL c).1 = 0) (hF : begL c = F) (hW : wordsL c.arrays = W) (hL : flatI c.lines = L) (hT : (flatI c.lines).map (toL c) = T) (hk : n.toNat = k) : runL c ins n = (goM F W L T k (mac0 ins)).rn := by
  unfold runL
  rw [if_neg (by rw [hf]; simp), hF, hW, hT, hL, hk]
def liL (d n : Int) : Ln := ⟨[], ⟨16, d, 0, 0, n, []⟩⟩
def ecL : Ln := ⟨[], ⟨28, 0, 0, 0, 0, []⟩⟩
def farS : List UInt8 := [102, 97, 114]
def brC (op a b : Int) : Cd := ⟨[liL 5 a, liL 6 b, liL 17 3, ⟨[], ⟨op, 0, 5, 6, 0, farS⟩⟩, ecL, ⟨farS, zeroI⟩, liL 10 1, ecL], []⟩
theorem br_flat (op a b : Int) : flatI (brC op a b).lines = [⟨16, 5, 0, 0, a, []⟩, ⟨16, 6, 0, 0, b, []⟩, ⟨16, 17, 0, 0, 3, []⟩, ⟨op, 0, 5, 6, 0, farS⟩, ⟨28, 0, 0, 0, 0, []⟩, ⟨16, 10, 0, 0, 1, []⟩, ⟨28, 0, 0, 0, 0, []⟩] := rfl
theorem br_21 (a b : Int) : (faultL (brC 21 a b)).1 = 0 ∧ (flatI (brC 21 a b).lines).map (toL (brC 21 a b)) = [-1, -1, -1, 5, -1, -1, -1] := ⟨by kernel_rfl, by kernel_rfl⟩
theorem br_run21 (a b : Int) (g : Bool) (h : (a == b) = g) : runL (brC 21 a b) [] 9 = if g then ⟨1, 1, [], 6⟩ else ⟨1, 0, [], 5⟩ := by
  rw [rn_of (br_21 a b).1 rfl rfl (br_flat _ _ _) (br_21 a b).2 (show (9 : Int).toNat = 9 from rfl)]
  cases g <;> simp [goM, roundM, stepM, zeroM, setR, getR, turnM, callM, madeI, mac0, Mac.rn, h]
theorem br_22 (a b : Int) : (faultL (brC 22 a b)).1 = 0 ∧ (flatI (brC 22 a b).lines).map (toL (brC 22 a b)) = [-1, -1, -1, 5, -1, -1, -1] := ⟨by kernel_rfl, by kernel_rfl⟩
theorem br_run22 (a b : Int) (g : Bool) (h : (a != b) = g) : runL (brC 22 a b) [] 9 = if g then ⟨1, 1, [], 6⟩ else ⟨1, 0, [], 5⟩ := by
  rw [rn_of (br_22 a b).1 rfl rfl (br_flat _ _ _) (br_22 a b).2 (show (9 : Int).toNat = 9 from rfl)]
  cases g <;> simp [goM, roundM, stepM, zeroM, setR, getR, turnM, callM, madeI, mac0, Mac.rn, h]
theorem br_23 (a b : Int) : (faultL (brC 23 a b)).1 = 0 ∧ (flatI (brC 23 a b).lines).map (toL (brC 23 a b)) = [-1, -1, -1, 5, -1, -1, -1] := ⟨by kernel_rfl, by kernel_rfl⟩
theorem br_run23 (a b : Int) (g : Bool) (h : decide (a < b) = g) : runL (brC 23 a b) [] 9 = if g then ⟨1, 1, [], 6⟩ else ⟨1, 0, [], 5⟩ := by
  rw [rn_of (br_23 a b).1 rfl rfl (br_flat _ _ _) (br_23 a b).2 (show (9 : Int).toNat = 9 from rfl)]
  cases g <;> simp [goM, roundM, stepM, zeroM, setR, getR, turnM, callM, madeI, mac0, Mac.rn, h]
theorem br_24 (a b : Int) : (faultL (brC 24 a b)).1 = 0 ∧ (flatI (brC 24 a b).lines).map (toL (brC 24 a b)) = [-1, -1, -1, 5, -1, -1, -1] := ⟨by kernel_rfl, by kernel_rfl⟩
theorem br_run24 (a b : Int) (g : Bool) (h : decide (b ≤ a) = g) : runL (brC 24 a b) [] 9 = if g then ⟨1, 1, [], 6⟩ else ⟨1, 0, [], 5⟩ := by
  rw [rn_of (br_24 a b).1 rfl rfl (br_flat _ _ _) (br_24 a b).2 (show (9 : Int).toNat = 9 from rfl)]
  cases g <;> simp [goM, roundM, stepM, zeroM, setR, getR, turnM, callM, madeI, mac0, Mac.rn, h]
theorem lab_fit {L : List Ln} {A : List Ar} (h1 : ∀ l ∈ L, l.label.length ≤ 100 ∧ l.ins.name.length ≤ 100) (h2 : ∀ a ∈ A, a.name.length ≤ 100) : CdFit ⟨L, A⟩ :=
  ⟨fun l hl => ⟨by have := (h1 l hl).1; omega, by have := (h1 l hl).2; omega⟩, fun a ha => by have := h2 a ha; omega⟩
theorem br_fit (op a b : Int) : CdFit (brC op a b) := lab_fit (fun l hl => by
  simp [liL, ecL, farS, zeroI] at hl
  rcases hl with rfl | rfl | rfl | rfl | rfl | rfl | rfl | rfl <;> simp) (fun a ha => by cases ha)
theorem br_n64 (op : Int) {a b : Int} (ha : I64 a) (hb : I64 b) : ∀ l ∈ (brC op a b).lines, I64 l.ins.n := fun l hl => by
  simp [brC, liL, ecL, farS, zeroI] at hl
  rcases hl with rfl | rfl | rfl | rfl | rfl | rfl | rfl | rfl <;> first | exact ha | exact hb | exact (show I64 0 from ⟨by decide, by decide⟩) | exact (show I64 1 from ⟨by decide, by decide⟩) | exact (show I64 3 from ⟨by decide, by decide⟩)
theorem pick_nat9 (c : Int) (n : Nat) (hn : 0 < n) : ∃ k : Nat, pickN c n = (k : Int) ∧ k < n := by
  have h1 := pickN_lo c n (by omega)
  have h2 := pickN_hi c n (by omega)
  exact ⟨(pickN c n).toNat, by omega, by omega⟩
end Go.Proofs.YtjimeengkfjihaaGreatDoor
/- What small codes do, in plain words: without labels. -/
namespace Go.Proofs.YtjimeengkfjihaaGreatDoor
open Go.ChangeShapes Go.WideShapes Go.ChangeAt Go.RowKit
set_option linter.unusedVariables false
set_option linter.unusedSimpArgs false
set_option maxRecDepth 100000
def plainC (L : List In) (A : List Ar) : Cd := ⟨L.map fun x => ⟨[], x⟩, A⟩
theorem plain_flat (L : List In) (A : List Ar) : flatI (plainC L A).lines = L := by
  unfold flatI plainC
  rw [List.filter_eq_self.2 (fun l hl => by obtain ⟨x, _, rfl⟩ := List.mem_map.1 hl; exact decide_eq_true rfl), List.map_map]
  exact List.map_id' L
theorem plain_ok {L : List In} {A : List Ar} (hA : A.any badArr = false) (hA2 : arrsE A [] = false) (hl : L.length ≤ 40000) (h : ∀ x ∈ L, rightB x = true ∧ (x.name ≠ [] → x.op = 17 ∧ hasArr A x.name = true)) : (faultL (plainC L A)).1 = 0 := by
  have : faultL (plainC L A) = (0, -1) := by
    refine fault_ok (by unfold plainC; simpa using hl) hA hA2 (fun j hj => ?_)
    have hm := List.getElem_mem hj
    generalize (plainC L A).lines[j]'hj = l at *
    obtain ⟨x, hx, rfl⟩ := List.mem_map.1 hm
    obtain ⟨h1, h2⟩ := h x hx
    refine lineE_ok (fun k => absurd rfl k) (fun _ => ⟨h1, fun hn => ?_⟩)
    obtain ⟨h3, h4⟩ := h2 hn
    rw [if_pos h3]; exact h4
  rw [this]
theorem plain_fit {L : List In} {A : List Ar} (h1 : ∀ x ∈ L, x.name.length ≤ 100) (h2 : ∀ a ∈ A, a.name.length ≤ 100) : CdFit (plainC L A) := lab_fit (fun l hl => by
  obtain ⟨x, hx, rfl⟩ := List.mem_map.1 hl
  exact ⟨by simp, h1 x hx⟩) h2
theorem plain_n64 {L : List In} {A : List Ar} (h : ∀ x ∈ L, I64 x.n) : ∀ l ∈ (plainC L A).lines, I64 l.ins.n := fun l hl => by
  obtain ⟨x, hx, rfl⟩ := List.mem_map.1 hl
  exact h x hx
theorem plain_run {L : List In} {A : List Ar} (hf : (faultL (plainC L A)).1 = 0) (n : Int) {F : List UInt8 → Option Int} {W : Int} {k : Nat} (hF : begL (plainC L A) = F) (hW : wordsL A = W) (hk : n.toNat = k) : ∃ T, runL (plainC L A) [] n = (goM F W L T k (mac0 [])).rn := ⟨_, rn_of hf hF hW (plain_flat L A) rfl hk⟩
theorem right_ld {d a n : Int} (hd : regB d = true) (ha : regB a = true) (hn : smallB n = true) : rightB ⟨19, d, a, 0, n, []⟩ = true := by
  rw [right_eq]
  have : rightE ⟨19, d, a, 0, n, []⟩ = (true && regB d && regB a && true && smallB n && true) := rfl
  rw [this, hd, ha, hn]; rfl
theorem right_sd {b a n : Int} (hd : regB b = true) (ha : regB a = true) (hn : smallB n = true) : rightB ⟨20, 0, a, b, n, []⟩ = true := by
  rw [right_eq]
  have : rightE ⟨20, 0, a, b, n, []⟩ = (true && true && regB a && regB b && smallB n && true) := rfl
  rw [this, hd, ha, hn]; rfl
theorem right_li {d : Int} (hd : regB d = true) (n : Int) : rightB ⟨16, d, 0, 0, n, []⟩ = true := by
  rw [right_eq]
  have : rightE ⟨16, d, 0, 0, n, []⟩ = (true && regB d && true && true && true && true) := rfl
  rw [this, hd]; rfl
theorem right_mv {d a : Int} (hd : regB d = true) (ha : regB a = true) : rightB ⟨15, d, a, 0, 0, []⟩ = true := by
  rw [right_eq]
  have : rightE ⟨15, d, a, 0, 0, []⟩ = (true && regB d && regB a && true && true && true) := rfl
  rw [this, hd, ha]; rfl
theorem begA (n : Int) : beginsL [⟨[97], n⟩] 65536 (fun _ => none) [97] = some 65536 := rfl
/-! Layer 9's MachFaults. -/
def faL (k : Nat) (n : Int) : List In :=
  match k with
  | 0 => [⟨16, 5, 0, 0, 65616 + 8 * n, []⟩, ⟨19, 6, 5, 0, 0, []⟩]
  | 1 => [⟨17, 5, 0, 0, 0, [97]⟩, ⟨20, 0, 5, 5, 1 + n % 7, []⟩]
  | 2 => [⟨16, 17, 0, 0, 6 + n, []⟩, ⟨28, 0, 0, 0, 0, []⟩]
  | 3 => [⟨16, 1, 0, 0, n, []⟩, ⟨27, 0, 0, 0, 0, []⟩]
  | 4 => [⟨16, 10, 0, 0, 5 + n, []⟩, ⟨16, 17, 0, 0, 4, []⟩, ⟨28, 0, 0, 0, 0, []⟩]
  | _ => [⟨16, 10, 0, 0, n, []⟩, ⟨15, 0, 10, 0, 0, []⟩]
def faA : List Ar := [⟨[97], 10⟩]
theorem fa_ok (k : Nat) {n : Int} (h0 : 0 ≤ n) (h1 : n < 1000) : (faultL (plainC (faL k n) faA)).1 = 0 := by
  have hr : regB 5 = true ∧ regB 6 = true := ⟨by decide, by decide⟩
  refine plain_ok (by decide) (by decide) ?_ ?_
  · unfold faL; split <;> simp
  · intro x hx
    unfold faL at hx
    split at hx
    · rcases List.mem_cons.1 hx with rfl | hx
      · exact ⟨right_li (by decide) _, fun h => absurd rfl h⟩
      · rw [List.mem_singleton.1 hx]; exact ⟨by kernel_rfl, fun h => absurd rfl h⟩
    · rcases List.mem_cons.1 hx with rfl | hx
      · exact ⟨by kernel_rfl, fun _ => ⟨rfl, by decide⟩⟩
      · rw [List.mem_singleton.1 hx]; exact ⟨right_sd (by decide) (by decide) (decide_eq_true (by omega)), fun h => absurd rfl h⟩
    · rcases List.mem_cons.1 hx with rfl | hx
      · exact ⟨right_li (by decide) _, fun h => absurd rfl h⟩
      · rw [List.mem_singleton.1 hx]; exact ⟨by kernel_rfl, fun h => absurd rfl h⟩
    · rcases List.mem_cons.1 hx with rfl | hx
      · exact ⟨right_li (by decide) _, fun h => absurd rfl h⟩
      · rw [List.mem_singleton.1 hx]; exact ⟨by kernel_rfl, fun h => absurd rfl h⟩
    · rcases List.mem_cons.1 hx with rfl | hx
      · exact ⟨right_li (by decide) _, fun h => absurd rfl h⟩
      · rcases List.mem_cons.1 hx with rfl | hx
        · exact ⟨by kernel_rfl, fun h => absurd rfl h⟩
        · rw [List.mem_singleton.1 hx]; exact ⟨by kernel_rfl, fun h => absurd rfl h⟩
    · rcases List.mem_cons.1 hx with rfl | hx
      · exact ⟨right_li (by decide) _, fun h => absurd rfl h⟩
      · rw [List.mem_singleton.1 hx]; exact ⟨by kernel_rfl, fun h => absurd rfl h⟩
theorem fa_run0 {n : Int} (h0 : 0 ≤ n) (h1 : n < 1000) : runL (plainC (faL 0 n) faA) [] 99 = ⟨6, 0, [], 2⟩ := by
  obtain ⟨T, e⟩ := plain_run (fa_ok 0 h0 h1) 99 rfl (show wordsL faA = 10 from rfl) (show (99 : Int).toNat = 99 from rfl)
  have hw : wordN 10 (wrap64 (65616 + 8 * n)) = -1 := by
    have : wrap64 (65616 + 8 * n) = 65616 + 8 * n := by unfold wrap64; omega
    rw [this]; unfold wordN; rw [if_neg (by omega), if_neg (by omega), if_neg (by omega)]
  rw [e]
  simp [faL, goM, roundM, stepM, zeroM, setR, getR, moveM, faultM, madeI, mac0, Mac.rn, hw]
theorem fa_run1 {n : Int} (h0 : 0 ≤ n) (h1 : n < 1000) : runL (plainC (faL 1 n) faA) [] 99 = ⟨6, 0, [], 2⟩ := by
  obtain ⟨T, e⟩ := plain_run (fa_ok 1 h0 h1) 99 rfl (show wordsL faA = 10 from rfl) (show (99 : Int).toNat = 99 from rfl)
  have hb : begL (plainC (faL 1 n) faA) [97] = some 65536 := rfl
  have hw : wordN 10 (wrap64 (65536 + (1 + n % 7))) = -1 := by
    have : wrap64 (65536 + (1 + n % 7)) = 65536 + (1 + n % 7) := by unfold wrap64; omega
    rw [this]; unfold wordN; rw [if_pos (by omega)]
  rw [e]
  generalize begL (plainC (faL 1 n) faA) = F at *
  simp [faL, goM, roundM, stepM, zeroM, setR, getR, moveM, faultM, madeI, mac0, Mac.rn, hw, hb]
theorem fa_run2 {n : Int} (h0 : 0 ≤ n) (h1 : n < 1000) : runL (plainC (faL 2 n) faA) [] 99 = ⟨6, 0, [], 2⟩ := by
  obtain ⟨T, e⟩ := plain_run (fa_ok 2 h0 h1) 99 rfl (show wordsL faA = 10 from rfl) (show (99 : Int).toNat = 99 from rfl)
  have c1 : ¬ (6 + n = 1) := by omega
  have c2 : ¬ (6 + n = 2) := by omega
  have c3 : ¬ (6 + n = 3) := by omega
  have c4 : ¬ (6 + n = 4) := by omega
  have c5 : ¬ (6 + n = 5) := by omega
  rw [e]
  simp [faL, goM, roundM, stepM, zeroM, setR, getR, callM, faultM, madeI, mac0, Mac.rn, c1, c2, c3, c4, c5]
theorem fa_run3 {n : Int} (h0 : 0 ≤ n) (h1 : n < 1000) : runL (plainC (faL 3 n) faA) [] 99 = ⟨6, 0, [], 2⟩ := by
  obtain ⟨T, e⟩ := plain_run (fa_ok 3 h0 h1) 99 rfl (show wordsL faA = 10 from rfl) (show (99 : Int).toNat = 99 from rfl)
  have hb : backB [⟨16, 1, 0, 0, n, []⟩, ⟨27, 0, 0, 0, 0, []⟩] n = false := by
    unfold backB
    have : ∀ q : Nat, ([⟨16, 1, 0, 0, n, []⟩, ⟨27, 0, 0, 0, 0, []⟩] : List In).getD q zeroI = ⟨16, 1, 0, 0, n, []⟩ ∨ ([⟨16, 1, 0, 0, n, []⟩, ⟨27, 0, 0, 0, 0, []⟩] : List In).getD q zeroI = ⟨27, 0, 0, 0, 0, []⟩ ∨ ([⟨16, 1, 0, 0, n, []⟩, ⟨27, 0, 0, 0, 0, []⟩] : List In).getD q zeroI = zeroI := by
      intro q
      match q with
      | 0 => exact .inl rfl
      | 1 => exact .inr (.inl rfl)
      | q + 2 => exact .inr (.inr rfl)
    rcases this ((n / 4).toNat - 1) with h | h | h <;> rw [h] <;> simp [zeroI]
  rw [e]
  simp [faL, goM, roundM, stepM, zeroM, setR, getR, backM, faultM, madeI, mac0, Mac.rn, hb]
theorem fa_run4 {n : Int} (h0 : 0 ≤ n) (h1 : n < 1000) : runL (plainC (faL 4 n) faA) [] 99 = ⟨6, 0, [], 3⟩ := by
  obtain ⟨T, e⟩ := plain_run (fa_ok 4 h0 h1) 99 rfl (show wordsL faA = 10 from rfl) (show (99 : Int).toNat = 99 from rfl)
  have c2 : ¬ (5 + n = 2) := by omega
  have c3 : ¬ (5 + n = 3) := by omega
  have c4 : ¬ (5 + n = 4) := by omega
  rw [e]
  simp [faL, goM, roundM, stepM, zeroM, setR, getR, callM, faultM, madeI, mac0, Mac.rn, c2, c3, c4]
theorem fa_run5 {n : Int} (h0 : 0 ≤ n) (h1 : n < 1000) : runL (plainC (faL 5 n) faA) [] 99 = ⟨6, 0, [], 2⟩ := by
  obtain ⟨T, e⟩ := plain_run (fa_ok 5 h0 h1) 99 rfl (show wordsL faA = 10 from rfl) (show (99 : Int).toNat = 99 from rfl)
  rw [e]
  simp [faL, goM, roundM, stepM, zeroM, setR, getR, callM, faultM, madeI, mac0, Mac.rn]
end Go.Proofs.YtjimeengkfjihaaGreatDoor
/- What the code of MachMoves does, in plain words. -/
namespace Go.Proofs.YtjimeengkfjihaaGreatDoor
open Go.ChangeShapes Go.WideShapes Go.ChangeAt Go.RowKit
set_option linter.unusedVariables false
set_option linter.unusedSimpArgs false
set_option maxRecDepth 100000
def moL (n a b k s : Int) : List In := [⟨17, 5, 0, 0, 0, [97]⟩, ⟨16, a, 0, 0, n, []⟩, ⟨15, b, a, 0, 0, []⟩, ⟨16, a, 0, 0, 3, []⟩, ⟨20, 0, 5, b, k, []⟩, ⟨19, a, 5, 0, k, []⟩, ⟨20, 0, 2, a, s, []⟩, ⟨19, 10, 2, 0, s, []⟩, ⟨16, 17, 0, 0, 1, []⟩, ⟨28, 0, 0, 0, 0, []⟩,
  ⟨19, 10, 5, 0, (k + 8) % 80, []⟩, ⟨28, 0, 0, 0, 0, []⟩, ⟨19, 10, 2, 0, s - 8, []⟩, ⟨16, 17, 0, 0, 3, []⟩, ⟨28, 0, 0, 0, 0, []⟩]
theorem mo_ok {n a b k s : Int} (ha : 18 ≤ a ∧ a ≤ 24) (hb : 25 ≤ b ∧ b ≤ 31) (hk : 0 ≤ k ∧ k ≤ 72) (hs : -1600 ≤ s ∧ s ≤ -8) : (faultL (plainC (moL n a b k s) faA)).1 = 0 := by
  have ra : regB a = true := decide_eq_true (by omega)
  have rb : regB b = true := decide_eq_true (by omega)
  have sk : smallB k = true := decide_eq_true (by omega)
  have ss : smallB s = true := decide_eq_true (by omega)
  have s2 : smallB ((k + 8) % 80) = true := decide_eq_true (by omega)
  have s3 : smallB (s - 8) = true := decide_eq_true (by omega)
  have r5 : regB 5 = true := by decide
  have r2 : regB 2 = true := by decide
  have r10 : regB 10 = true := by decide
  have r17 : regB 17 = true := by decide
  refine plain_ok (by decide) (by decide) (by show 15 ≤ 40000; decide) (fun x hx => ?_)
  simp only [moL, List.mem_cons, List.not_mem_nil, or_false] at hx
  rcases hx with rfl | rfl | rfl | rfl | rfl | rfl | rfl | rfl | rfl | rfl | rfl | rfl | rfl | rfl | rfl
  · exact ⟨by kernel_rfl, fun _ => ⟨rfl, by decide⟩⟩
  · exact ⟨right_li ra _, fun h => absurd rfl h⟩
  · exact ⟨right_mv rb ra, fun h => absurd rfl h⟩
  · exact ⟨right_li ra _, fun h => absurd rfl h⟩
  · exact ⟨right_sd rb r5 sk, fun h => absurd rfl h⟩
  · exact ⟨right_ld ra r5 sk, fun h => absurd rfl h⟩
  · exact ⟨right_sd ra r2 ss, fun h => absurd rfl h⟩
  · exact ⟨right_ld r10 r2 ss, fun h => absurd rfl h⟩
  · exact ⟨right_li r17 _, fun h => absurd rfl h⟩
  · exact ⟨by kernel_rfl, fun h => absurd rfl h⟩
  · exact ⟨right_ld r10 r5 s2, fun h => absurd rfl h⟩
  · exact ⟨by kernel_rfl, fun h => absurd rfl h⟩
  · exact ⟨right_ld r10 r2 s3, fun h => absurd rfl h⟩
  · exact ⟨right_li r17 _, fun h => absurd rfl h⟩
  · exact ⟨by kernel_rfl, fun h => absurd rfl h⟩
theorem word_arr {p : Int} (h : p % 8 = 0) (h0 : 65536 ≤ p) (h1 : p < 65616) : ¬ wordN 10 p < 0 := by unfold wordN; rw [if_neg (by omega), if_pos (by omega)]; omega
theorem word_st {p : Int} (h : p % 8 = 0) (h0 : 1073709056 ≤ p) (h1 : p < 1073741824) : ¬ wordN 10 p < 0 := by unfold wordN; rw [if_neg (by omega), if_neg (by omega), if_pos (by omega)]; omega
theorem wrap_in {v : Int} (h : -9223372036854775808 ≤ v ∧ v ≤ 9223372036854775807) : wrap64 v = v := by unfold wrap64; omega
set_option maxHeartbeats 1000000 in
theorem mo_run {n a b k s : Int} (ha : 18 ≤ a ∧ a ≤ 24) (hb : 25 ≤ b ∧ b ≤ 31) (hk : 0 ≤ k ∧ k ≤ 72) (hk8 : k % 8 = 0) (hs : -1600 ≤ s ∧ s ≤ -8) (hs8 : s % 8 = 0) : runL (plainC (moL n a b k s) faA) [] 99 = ⟨1, 0, [n, 0], 15⟩ := by
  obtain ⟨T, e⟩ := plain_run (mo_ok (n := n) ha hb hk hs) 99 rfl (show wordsL faA = 10 from rfl) (show (99 : Int).toNat = 99 from rfl)
  have hF : begL (plainC (moL n a b k s) faA) [97] = some 65536 := rfl
  obtain ⟨p1, hp1⟩ : ∃ p, wrap64 (65536 + k) = p := ⟨_, rfl⟩
  obtain ⟨p2, hp2⟩ : ∃ p, wrap64 (1073741824 + s) = p := ⟨_, rfl⟩
  obtain ⟨p3, hp3⟩ : ∃ p, wrap64 (65536 + (k + 8) % 80) = p := ⟨_, rfl⟩
  obtain ⟨p4, hp4⟩ : ∃ p, wrap64 (1073741824 + (s - 8)) = p := ⟨_, rfl⟩
  have e1 := wrap_in (v := 65536 + k) (by omega)
  have e2 := wrap_in (v := 1073741824 + s) (by omega)
  have e3 := wrap_in (v := 65536 + (k + 8) % 80) (by omega)
  have e4 := wrap_in (v := 1073741824 + (s - 8)) (by omega)
  have w1 : ¬ wordN 10 p1 < 0 := by rw [← hp1, e1]; exact word_arr (by omega) (by omega) (by omega)
  have w2 : ¬ wordN 10 p2 < 0 := by rw [← hp2, e2]; exact word_st (by omega) (by omega) (by omega)
  have w3 : ¬ wordN 10 p3 < 0 := by rw [← hp3, e3]; exact word_arr (by omega) (by omega) (by omega)
  have w4 : ¬ wordN 10 p4 < 0 := by rw [← hp4, e4]; exact word_st (by omega) (by omega) (by omega)
  have n31 : ¬ p3 = p1 := by rw [← hp3, ← hp1, e3, e1]; omega
  have n32 : ¬ p3 = p2 := by rw [← hp3, ← hp2, e3, e2]; omega
  have n41 : ¬ p4 = p1 := by rw [← hp4, ← hp1, e4, e1]; omega
  have n42 : ¬ p4 = p2 := by rw [← hp4, ← hp2, e4, e2]; omega
  have n12 : ¬ p1 = p2 := by rw [← hp1, ← hp2, e1, e2]; omega
  have n21 : ¬ p2 = p1 := by rw [← hp1, ← hp2, e1, e2]; omega
  have q1 : ¬ a = 5 := by omega
  have q2 : ¬ (5 : Int) = a := by omega
  have q3 : ¬ a = b := by omega
  have q4 : ¬ b = a := by omega
  have q5 : ¬ b = 5 := by omega
  have q6 : ¬ (5 : Int) = b := by omega
  have q7 : ¬ a = 0 := by omega
  have q8 : ¬ b = 0 := by omega
  have q9 : ¬ (2 : Int) = a := by omega
  have qa : ¬ (2 : Int) = b := by omega
  have qb : ¬ (10 : Int) = a := by omega
  have qc : ¬ (10 : Int) = b := by omega
  have qd : ¬ (17 : Int) = a := by omega
  have qe : ¬ (17 : Int) = b := by omega
  have qf : ¬ (0 : Int) = a := by omega
  have qg : ¬ (0 : Int) = b := by omega
  have qh : ¬ a = 2 := by omega
  have qi : ¬ a = 10 := by omega
  have qj : ¬ a = 17 := by omega
  have qk : ¬ b = 2 := by omega
  have ql : ¬ b = 10 := by omega
  have qm : ¬ b = 17 := by omega
  rw [e]
  generalize begL (plainC (moL n a b k s) faA) = F at *
  clear e e1 e2 e3 e4
  simp [moL, goM, roundM, stepM, zeroM, setR, getR, moveM, callM, putN, madeI, mac0, Mac.rn, hF, hp1, hp2, hp3, hp4, w1, w2, w3, w4, n31, n32, n41, n42, n12, n21, q1, q2, q3, q4, q5, q6, q7, q8, q9, qa, qb, qc, qd, qe, qf, qg, qh, qi, qj, qk, ql, qm]
end Go.Proofs.YtjimeengkfjihaaGreatDoor
/- What the code of MachCounts does, in plain words. -/
namespace Go.Proofs.YtjimeengkfjihaaGreatDoor
open Go.ChangeShapes Go.WideShapes Go.ChangeAt Go.RowKit
set_option linter.unusedVariables false
set_option linter.unusedSimpArgs false
set_option maxRecDepth 100000
theorem rn_blk1 {w : World} {b : Nat} {x : Int} (h : w.heap[b]? = some (.cells #[.int .i64 x] 3 (0, 0))) (s c t : Int) : RnAt w (.agg #[.int .i64 s, .int .i64 c, .slice (some ⟨b, 0, none⟩) 1 1, .int .i64 t]) ⟨s, c, [x], t⟩ :=
  ⟨_, _, rfl, fun i y hi => by
    cases i with
    | zero => refine ⟨_, rfl, ?_⟩; simp at hi; subst hi; simp [World.cell?, Addr.add, h]
    | succ i => simp at hi⟩
theorem rn_blk2 {w : World} {b : Nat} {x y : Int} (h : w.heap[b]? = some (.cells #[.int .i64 x, .int .i64 y] 3 (0, 0))) (s c t : Int) : RnAt w (.agg #[.int .i64 s, .int .i64 c, .slice (some ⟨b, 0, none⟩) 2 2, .int .i64 t]) ⟨s, c, [x, y], t⟩ :=
  ⟨_, _, rfl, fun i z hi => by
    match i, hi with
    | 0, hi => refine ⟨_, rfl, ?_⟩; simp at hi; subst hi; simp [World.cell?, Addr.add, h]
    | 1, hi => refine ⟨_, rfl, ?_⟩; simp at hi; subst hi; simp [World.cell?, Addr.add, h]
    | i + 2, hi => simp at hi⟩
def coT : List Int := [-1, -1, -1, 9, -1, -1, -1, -1, -1, -1, 14, -1, -1, 10, -1]
def sumS : List UInt8 := [115, 117, 109]
def loopS : List UInt8 := [108, 111, 111, 112]
def endS : List UInt8 := [101, 110, 100]
def coL : List In := [⟨16, 17, 0, 0, 2, []⟩, ⟨28, 0, 0, 0, 0, []⟩, ⟨15, 5, 10, 0, 0, []⟩, ⟨26, 0, 0, 0, 0, sumS⟩, ⟨16, 17, 0, 0, 1, []⟩, ⟨28, 0, 0, 0, 0, []⟩, ⟨16, 17, 0, 0, 3, []⟩, ⟨16, 10, 0, 0, 9, []⟩, ⟨28, 0, 0, 0, 0, []⟩,
  ⟨16, 10, 0, 0, 0, []⟩, ⟨21, 0, 5, 0, 0, endS⟩, ⟨1, 10, 10, 5, 0, []⟩, ⟨18, 5, 5, 0, -1, []⟩, ⟨25, 0, 0, 0, 0, loopS⟩, ⟨27, 0, 0, 0, 0, []⟩]
def coM (j s : Int) (t : Nat) : Mac := ⟨fun x => if x = 10 then s else if x = 5 then j else if x = 1 then 16 else if x = 17 then 2 else if x = 2 then 1073741824 else 0, fun _ => none, [], 10, 0, 0, [], t⟩
def coG (n : Nat) (m : Mac) : Mac := goM (fun _ => none) 0 coL coT n m
theorem mac_eq {r1 r2 : Int → Int} {m : Int → Option Int} {i : List Int} {p : Nat} {s c : Int} {o : List Int} {t : Nat} (h : ∀ x, r1 x = r2 x) : (⟨r1, m, i, p, s, c, o, t⟩ : Mac) = ⟨r2, m, i, p, s, c, o, t⟩ := by rw [funext h]
theorem co_start (k : Int) (r : Nat) : coG (r + 5) (mac0 [k]) = coG r (coM k 0 5) := by
  unfold coG
  have hL : ∃ L, coL = L := ⟨_, rfl⟩
  simp [goM, roundM, stepM, zeroM, setR, getR, turnM, callM, readM, madeI, mac0, coM, coL, coT]
  congr 1
  refine mac_eq fun x => ?_
  by_cases h0 : x = 0 <;> by_cases h1 : x = 1 <;> by_cases h2 : x = 2 <;> by_cases h5 : x = 5 <;> by_cases h10 : x = 10 <;> by_cases h17 : x = 17 <;> simp_all
theorem co_loop (j s : Int) (t r : Nat) (hj : 0 < j) (hj2 : j ≤ 200) (hs : 0 ≤ s ∧ s ≤ 100000) : coG (r + 4) (coM j s t) = coG r (coM (j - 1) (s + j) (t + 4)) := by
  unfold coG
  have n0 : ¬ j = 0 := by omega
  have e1 : twoV 1 s j = s + j := by
    show wrap64 (s + j) = _
    exact wrap_in (by omega)
  have e2 : wrap64 (j + -1) = j - 1 := by rw [wrap_in (by omega)]; omega
  simp [goM, roundM, stepM, zeroM, setR, getR, turnM, callM, readM, madeI, mac0, coM, coL, coT, n0, e2, opN, e1]
  congr 1
  refine mac_eq fun x => ?_
  by_cases h0 : x = 0 <;> by_cases h1 : x = 1 <;> by_cases h2 : x = 2 <;> by_cases h5 : x = 5 <;> by_cases h10 : x = 10 <;> by_cases h17 : x = 17 <;> simp_all
theorem goM_stop {F : List UInt8 → Option Int} {W : Int} {L : List In} {T : List Int} {n : Nat} {m : Mac} (h : m.stat ≠ 0) : goM F W L T n m = m := by
  cases n with
  | zero => unfold goM; rw [if_neg (fun k => h k.1)]
  | succ n => unfold goM; rw [if_pos h]
theorem co_end (s : Int) (t r : Nat) : (coG (r + 7) (coM 0 s t)).rn = ⟨1, 9, [s], (t : Int) + 7⟩ := by
  unfold coG
  simp [goM, roundM, stepM, zeroM, setR, getR, turnM, callM, readM, madeI, mac0, coM, coL, coT, backM, backB]
  rw [goM_stop (by simp)]
  rfl
theorem co_iter (k : Nat) : ∀ (s : Int) (t r : Nat), k ≤ 200 → 0 ≤ s → s + k * 200 ≤ 100000 → (coG (r + 4 * k + 7) (coM k s t)).rn = ⟨1, 9, [s + ((k * (k + 1) / 2 : Nat) : Int)], (t : Int) + 4 * k + 7⟩ := by
  induction k with
  | zero => intro s t r _ _ _; have := co_end s t r; simpa using this
  | succ k ih =>
    intro s t r h1 h2 h3
    have e : r + 4 * (k + 1) + 7 = (r + 4 * k + 7) + 4 := by omega
    rw [e, co_loop ((k + 1 : Nat) : Int) s t _ (by omega) (by omega) (by omega)]
    have e2 : ((k + 1 : Nat) : Int) - 1 = (k : Int) := by omega
    rw [e2, ih _ _ r (by omega) (by omega) (by omega)]
    have e3 : (k + 1) * (k + 1 + 1) / 2 = k * (k + 1) / 2 + (k + 1) := by
      have : (k + 1) * (k + 1 + 1) = k * (k + 1) + 2 * (k + 1) := by
        rw [Nat.mul_comm k (k + 1), Nat.mul_comm 2 (k + 1), ← Nat.mul_add]
      rw [this]; omega
    rw [e3]
    have e4 : s + ((k + 1 : Nat) : Int) + ((k * (k + 1) / 2 : Nat) : Int) = s + ((k * (k + 1) / 2 + (k + 1) : Nat) : Int) := by omega
    rw [e4]
    have e5 : ((t + 4 : Nat) : Int) + 4 * (k : Int) + 7 = (t : Int) + 4 * ((k + 1 : Nat) : Int) + 7 := by omega
    rw [e5]
theorem co_run (k : Nat) (h : k ≤ 200) : (coG 2000 (mac0 [(k : Int)])).rn = ⟨1, 9, [((k * (k + 1) / 2 : Nat) : Int)], 12 + 4 * (k : Int)⟩ := by
  have e : 2000 = (1988 - 4 * k + 4 * k + 7) + 5 := by omega
  rw [e, co_start, co_iter k 0 5 _ h (by omega) (by omega)]
  rw [Int.zero_add, show ((5 : Nat) : Int) + 4 * (k : Int) + 7 = 12 + 4 * (k : Int) by omega]
end Go.Proofs.YtjimeengkfjihaaGreatDoor
/- What the code of MachOps does, in plain words. -/
namespace Go.Proofs.YtjimeengkfjihaaGreatDoor
open Go.ChangeShapes Go.WideShapes Go.ChangeAt Go.RowKit
set_option linter.unusedVariables false
set_option linter.unusedSimpArgs false
set_option maxRecDepth 100000
def opsL (op B a b : Int) : List In := [⟨16, 5, 0, 0, a, []⟩, ⟨16, 6, 0, 0, b, []⟩, ⟨op, 10, 5, B, 0, []⟩, ⟨16, 17, 0, 0, 3, []⟩, ⟨28, 0, 0, 0, 0, []⟩]
theorem ops_ok {op B : Int} (a b : Int) (h : rightB ⟨op, 10, 5, B, 0, []⟩ = true) : (faultL (plainC (opsL op B a b) [])).1 = 0 := by
  refine plain_ok (by decide) (by decide) (by simp [opsL]) (fun x hx => ?_)
  simp [opsL] at hx
  rcases hx with rfl | rfl | rfl | rfl | rfl
  · exact ⟨right_li (by decide) _, fun h => absurd rfl h⟩
  · exact ⟨right_li (by decide) _, fun h => absurd rfl h⟩
  · exact ⟨h, fun h => absurd rfl h⟩
  · exact ⟨right_li (by decide) _, fun h => absurd rfl h⟩
  · exact ⟨by kernel_rfl, fun h => absurd rfl h⟩
theorem ops_r {op B a b b2 : Int} (h : rightB ⟨op, 10, 5, B, 0, []⟩ = true) (h1 : 1 ≤ op ∧ op ≤ 15) (hB : B = 6 ∧ b2 = b ∨ B = 0 ∧ b2 = 0) : runL (plainC (opsL op B a b) []) [] 9 = ⟨1, madeI op 0 a b2, [], 5⟩ := by
  obtain ⟨T, e⟩ := plain_run (ops_ok a b h) 9 rfl (show wordsL [] = 0 from rfl) (show (9 : Int).toNat = 9 from rfl)
  rw [e]
  have q1 : ¬ op = 17 := by omega
  have q2 : ¬ op = 19 := by omega
  have q3 : ¬ op = 20 := by omega
  have q4 : ¬ op = 21 := by omega
  have q5 : ¬ op = 22 := by omega
  have q6 : ¬ op = 23 := by omega
  have q7 : ¬ op = 24 := by omega
  have q8 : ¬ op = 25 := by omega
  have q9 : ¬ op = 26 := by omega
  have qa : ¬ op = 27 := by omega
  have qb : ¬ op = 28 := by omega
  have m1 : ∀ x a b, madeI 16 x a b = x := fun _ _ _ => rfl
  have m2 : ∃ f, madeI = f := ⟨_, rfl⟩
  obtain ⟨f, hf⟩ := m2
  rw [hf] at m1
  rw [hf]
  clear e
  rcases hB with ⟨rfl, rfl⟩ | ⟨rfl, rfl⟩
  · simp only [opsL, goM, roundM, stepM, hf]
    simp [zeroM, setR, getR, callM, m1, mac0, Mac.rn, q1, q2, q3, q4, q5, q6, q7, q8, q9, qa, qb]
  · simp only [opsL, goM, roundM, stepM, hf]
    simp [zeroM, setR, getR, callM, m1, mac0, Mac.rn, q1, q2, q3, q4, q5, q6, q7, q8, q9, qa, qb]
theorem ops_lo {p a b : Int} (h : 0 ≤ p ∧ p < 12) : runL (plainC (opsL (p + 1) 6 a b) []) [] 9 = ⟨1, madeI (p + 1) 0 a b, [], 5⟩ := by
  refine ops_r ?_ (by omega) (.inl ⟨rfl, rfl⟩)
  rcases (show p = 0 ∨ p = 1 ∨ p = 2 ∨ p = 3 ∨ p = 4 ∨ p = 5 ∨ p = 6 ∨ p = 7 ∨ p = 8 ∨ p = 9 ∨ p = 10 ∨ p = 11 by omega) with rfl | rfl | rfl | rfl | rfl | rfl | rfl | rfl | rfl | rfl | rfl | rfl <;> kernel_rfl
theorem ops_hi {p a b : Int} (h : 12 ≤ p ∧ p < 15) : runL (plainC (opsL (p + 1) 0 a b) []) [] 9 = ⟨1, madeI (p + 1) 0 a 0, [], 5⟩ := by
  refine ops_r ?_ (by omega) (.inr ⟨rfl, rfl⟩)
  rcases (show p = 12 ∨ p = 13 ∨ p = 14 by omega) with rfl | rfl | rfl <;> kernel_rfl
theorem ops_n64 {op B a b : Int} (ha : I64 a) (hb : I64 b) : ∀ x ∈ opsL op B a b, I64 x.n := fun x hx => by
  simp [opsL] at hx
  rcases hx with rfl | rfl | rfl | rfl | rfl <;> first | exact ha | exact hb | exact (show I64 0 from ⟨by decide, by decide⟩) | exact (show I64 3 from ⟨by decide, by decide⟩)
theorem ops_fit {op B a b : Int} : CdFit (plainC (opsL op B a b) []) := plain_fit (by simp [opsL]) (fun a h => by cases h)
end Go.Proofs.YtjimeengkfjihaaGreatDoor
