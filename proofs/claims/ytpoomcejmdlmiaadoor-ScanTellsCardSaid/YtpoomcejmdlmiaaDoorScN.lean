/- The law's own helpers: two lists of tokens, held against one another. -/
import Derived.Test.YtpoomcejmdlmiaaDoorRows
import Derived.WalkKit
import Derived.ProofKit
import Derived.OpenShut
import Derived.WalkLawsBesides
import Derived.WalkSpells
import Derived.Outline
import Derived.Handy
import Derived.Lib.Hide
import Derived.Lib.OthersKept
import Derived.Test.YtpoomcejmdlmiaaDoorSc0
import Derived.RegionTactic
import Derived.BigRegion
import Derived.Deep.RegionHeld3
import Derived.Test.YtpoomcejmdlmiaaDoorScG
namespace Go.Proofs.YtpoomcejmdlmiaaDoor
open Go.ChangeShapes Go.WideShapes Go.ChangeAt Go.RowKit
set_option linter.unusedVariables false
/-- A value is a row of tokens. -/
def RowAt (w : World) (v : Value) (L : List Tk) : Prop :=
  (v = .slice none 0 0 ∧ L = []) ∨ ∃ b cap, v = .slice (some ⟨b, 0, none⟩) L.length cap ∧ b < w.heap.size ∧ ∀ i (h : i < L.length),
    w.cell? ⟨b, i * 4, none⟩ = some (.int .i64 (L[i]'h).kind) ∧ w.cell? ⟨b, i * 4 + 1, none⟩ = some (.string (L[i]'h).text) ∧ w.cell? ⟨b, i * 4 + 2, none⟩ = some (.int .i64 (L[i]'h).n) ∧ w.cell? ⟨b, i * 4 + 3, none⟩ = some (.int .i64 (L[i]'h).line)
theorem RowAt.ext {w w' : World} {v : Value} {L : List Tk} (h : RowAt w v L) (g : Below w.heap.size w w') : RowAt w' v L := by
  rcases h with h | ⟨b, cap, h1, h2, h3⟩
  · exact .inl h
  · refine .inr ⟨b, cap, h1, Nat.lt_of_lt_of_le h2 g.size, fun i hi => ?_⟩
    obtain ⟨c0, c1, c2, c3⟩ := h3 i hi
    exact ⟨(g.cell (p := ⟨b, i * 4, none⟩) h2).trans c0, (g.cell (p := ⟨b, i * 4 + 1, none⟩) h2).trans c1, (g.cell (p := ⟨b, i * 4 + 2, none⟩) h2).trans c2, (g.cell (p := ⟨b, i * 4 + 3, none⟩) h2).trans c3⟩
theorem RowAt.cells {w : World} {b n c : Nat} {L : List Tk} (h : RowAt w (.slice (some ⟨b, 0, none⟩) n c) L) (i : Nat) (hi : i < L.length) :
    (w.cell? ⟨b, i * 4, none⟩ = some (.int .i64 (L[i]'hi).kind) ∧ w.cell? ⟨b, i * 4 + 1, none⟩ = some (.string (L[i]'hi).text) ∧ w.cell? ⟨b, i * 4 + 2, none⟩ = some (.int .i64 (L[i]'hi).n) ∧ w.cell? ⟨b, i * 4 + 3, none⟩ = some (.int .i64 (L[i]'hi).line)) ∧ b < w.heap.size := by
  rcases h with ⟨h, _⟩ | ⟨g, cap, h, h2, h3⟩
  · cases h
  · cases h; exact ⟨h3 i hi, h2⟩
def eqT (lines : Bool) (x y : Tk) : Bool := x.kind == y.kind && x.text.toList == y.text.toList && x.n == y.n && (!lines || x.line == y.line)
def sameB (lines : Bool) : List Tk → List Tk → Bool
  | [], [] => true
  | x :: A, y :: B => eqT lines x y && sameB lines A B
  | _, _ => false
theorem sameB_len (lines : Bool) : ∀ (A B : List Tk), A.length ≠ B.length → sameB lines A B = false
  | [], [], h => absurd rfl h
  | [], _ :: _, _ => rfl
  | _ :: _, [], _ => rfl
  | x :: A, y :: B, h => by
    rw [sameB, sameB_len lines A B (by simpa using h), Bool.and_false]
theorem sameB_at (lines : Bool) (A B : List Tk) (i : Nat) (ha : i < A.length) (hb : i < B.length) :
    sameB lines (A.drop i) (B.drop i) = (eqT lines (A[i]'ha) (B[i]'hb) && sameB lines (A.drop (i + 1)) (B.drop (i + 1))) := by
  rw [List.drop_eq_getElem_cons ha, List.drop_eq_getElem_cons hb]; rfl
theorem same_len (va vb : Value) (A B : List Tk) (lines : Bool) (w : World) (ha : RowAt w va A) (hb : RowAt w vb B) (hA : A.length ≤ 20001) (hB : B.length ≤ 20001) (hl : A.length ≠ B.length) :
    Calls Tryd.prog 7 #[va, vb, .bool lines] w fun e w' => e = .returned (.bool false) ∧ Below w.heap.size w w' := by
  have ea : ∃ p c, va = .slice p A.length c := by
    rcases ha with ⟨rfl, rfl⟩ | ⟨b, cap, rfl, _⟩ <;> exact ⟨_, _, rfl⟩
  have eb : ∃ p c, vb = .slice p B.length c := by
    rcases hb with ⟨rfl, rfl⟩ | ⟨b, cap, rfl, _⟩ <;> exact ⟨_, _, rfl⟩
  obtain ⟨p, c, rfl⟩ := ea
  obtain ⟨q, d, rfl⟩ := eb
  clear ha hb
  have hne : ((A.length : Int) == (B.length : Int)) = false := by rw [beq_eq_false_iff_ne]; omega
  generalize A.length = a at *
  generalize B.length = b at *
  go_enter Tryd.func7, Tryd.ntmps7
  go_wp2_with fail
  go_ret
  exact ⟨rfl, Below.refl _ _⟩
set_option maxRecDepth 100000 in
theorem same_walk (pa pb : Nat) (ca cb : Nat) (A B : List Tk) (w : World) (lines : Bool) (ha : RowAt w (.slice (some ⟨pa, 0, none⟩) A.length ca) A) (hb' : RowAt w (.slice (some ⟨pb, 0, none⟩) B.length cb) B) (hA : A.length ≤ 20001) (hl : A.length = B.length) :
    Calls Tryd.prog 7 #[.slice (some ⟨pa, 0, none⟩) A.length ca, .slice (some ⟨pb, 0, none⟩) B.length cb, .bool lines] w fun e w' => e = .returned (.bool (sameB lines A B)) ∧ Below w.heap.size w w' := by
  go_enter Tryd.func7, Tryd.ntmps7
  go_wp2_with fail
  go_loopw [7] (fun v wr => ∃ i : Nat, v = .int .i64 i ∧ i ≤ A.length ∧ Below w.heap.size w wr ∧ sameB lines A B = sameB lines (A.drop i) (B.drop i)) (fun v wr => A.length - (match v with | .int _ k => k.toNat | _ => 0))
  case atStart => exact ⟨0, rfl, Nat.zero_le _, Below.refl _ _, rfl⟩
  case round =>
    obtain ⟨i, rfl, hi, hb, hs⟩ := hrel
    have HS := Lib.hid hs; clear hs
    by_cases h : i < A.length
    · have hB : i < B.length := by omega
      have hst := sameB_at lines A B i h hB
      obtain ⟨⟨a0, a1, a2, a3⟩, pa1⟩ := (ha.ext hb).cells i h
      obtain ⟨⟨b0, b1, b2, b3⟩, pb1⟩ := (hb'.ext hb).cells i hB
      generalize A[i]'h = x at *
      generalize B[i]'hB = y at *
      rcases x with ⟨x0, x1, x2, x3⟩
      rcases y with ⟨y0, y1, y2, y3⟩
      have HST := Lib.hid hst; clear hst
      have HA := Lib.hid ha; clear ha
      have HB := Lib.hid hb'; clear hb'
      dsimp only at *
      clear HA HB
      cases lines
      · by_cases h0 : x0 = y0
        case neg =>
          have E : eqT false ⟨x0, x1, x2, x3⟩ ⟨y0, y1, y2, y3⟩ = false := by unfold eqT; simp [h0]
          rw [E] at HST
          go_wp2_with fail
          go_region
          go_wp2_with fail
          go_ret
          exact ⟨by rw [HS.out, HST.out]; rfl, ext_drew (ext_alloc hb _)⟩
        by_cases h1 : x1.toList = y1.toList
        case neg =>
          have E : eqT false ⟨x0, x1, x2, x3⟩ ⟨y0, y1, y2, y3⟩ = false := by unfold eqT; simp [h1, h0]
          rw [E] at HST
          go_wp2_with fail
          go_region
          go_wp2_with fail
          go_ret
          exact ⟨by rw [HS.out, HST.out]; rfl, ext_drew (ext_alloc hb _)⟩
        by_cases h2 : x2 = y2
        case neg =>
          have E : eqT false ⟨x0, x1, x2, x3⟩ ⟨y0, y1, y2, y3⟩ = false := by unfold eqT; simp [h2, h0, h1]
          rw [E] at HST
          go_wp2_with fail
          go_region
          go_wp2_with fail
          go_ret
          exact ⟨by rw [HS.out, HST.out]; rfl, ext_drew (ext_alloc hb _)⟩
        have E : eqT false ⟨x0, x1, x2, x3⟩ ⟨y0, y1, y2, y3⟩ = true := by unfold eqT; simp [h0, h1, h2]
        rw [E] at HST
        go_wp2_with fail
        go_region
        go_wp2_with fail
        go_roundw
        case rel => exact ⟨i + 1, rfl, by omega, ext_drew (ext_alloc hb _), by rw [HS.out, HST.out]; rfl⟩
        case measure => simp; omega
      · by_cases h0 : x0 = y0
        case neg =>
          have E : eqT true ⟨x0, x1, x2, x3⟩ ⟨y0, y1, y2, y3⟩ = false := by unfold eqT; simp [h0]
          rw [E] at HST
          go_wp2_with fail
          go_region
          go_wp2_with fail
          go_ret
          exact ⟨by rw [HS.out, HST.out]; rfl, ext_drew (ext_alloc hb _)⟩
        by_cases h1 : x1.toList = y1.toList
        case neg =>
          have E : eqT true ⟨x0, x1, x2, x3⟩ ⟨y0, y1, y2, y3⟩ = false := by unfold eqT; simp [h1, h0]
          rw [E] at HST
          go_wp2_with fail
          go_region
          go_wp2_with fail
          go_ret
          exact ⟨by rw [HS.out, HST.out]; rfl, ext_drew (ext_alloc hb _)⟩
        by_cases h2 : x2 = y2
        case neg =>
          have E : eqT true ⟨x0, x1, x2, x3⟩ ⟨y0, y1, y2, y3⟩ = false := by unfold eqT; simp [h2, h0, h1]
          rw [E] at HST
          go_wp2_with fail
          go_region
          go_wp2_with fail
          go_ret
          exact ⟨by rw [HS.out, HST.out]; rfl, ext_drew (ext_alloc hb _)⟩
        by_cases h3 : x3 = y3
        case neg =>
          have E : eqT true ⟨x0, x1, x2, x3⟩ ⟨y0, y1, y2, y3⟩ = false := by unfold eqT; simp [h3, h0, h1, h2]
          rw [E] at HST
          go_wp2_with fail
          go_region
          go_wp2_with fail
          go_ret
          exact ⟨by rw [HS.out, HST.out]; rfl, ext_drew (ext_alloc hb _)⟩
        have E : eqT true ⟨x0, x1, x2, x3⟩ ⟨y0, y1, y2, y3⟩ = true := by unfold eqT; simp [h0, h1, h2, h3]
        rw [E] at HST
        go_wp2_with fail
        go_region
        go_wp2_with fail
        go_roundw
        case rel => exact ⟨i + 1, rfl, by omega, ext_drew (ext_alloc hb _), by rw [HS.out, HST.out]; rfl⟩
        case measure => simp; omega
    · have hi2 : i = A.length := by omega
      have e1 : A.drop i = [] := by rw [hi2]; exact List.drop_length
      have e2 : B.drop i = [] := by rw [hi2, hl]; exact List.drop_length
      rw [e1, e2] at HS
      clear e1 e2 hi2
      go_wp2_with fail
      go_ret
      exact ⟨by rw [HS.out]; rfl, hb⟩
theorem same_nil (p q : Option Addr) (c d : Nat) (lines : Bool) (w : World) :
    Calls Tryd.prog 7 #[.slice p 0 c, .slice q 0 d, .bool lines] w fun e w' => e = .returned (.bool true) ∧ Below w.heap.size w w' := by
  go_enter Tryd.func7, Tryd.ntmps7
  go_wp2_with fail
  go_loopw [7] (fun v wr => v = .int .i64 0 ∧ Below w.heap.size w wr) (fun v wr => 0)
  case atStart => exact ⟨rfl, Below.refl _ _⟩
  case round =>
    obtain ⟨rfl, hb⟩ := hrel
    go_wp2_with fail
    go_ret
    exact ⟨rfl, hb⟩
theorem same_calls (va vb : Value) (A B : List Tk) (lines : Bool) (w : World) (ha : RowAt w va A) (hb : RowAt w vb B) (hA : A.length ≤ 20001) (hB : B.length ≤ 20001) :
    Calls Tryd.prog 7 #[va, vb, .bool lines] w fun e w' => e = .returned (.bool (sameB lines A B)) ∧ Below w.heap.size w w' := by
  by_cases hl : A.length = B.length
  · rcases ha with ⟨rfl, rfl⟩ | ⟨b, cap, rfl, h1, h2⟩
    · obtain rfl : B = [] := List.length_eq_zero_iff.1 (by rw [← hl]; rfl)
      rcases hb with ⟨rfl, _⟩ | ⟨b, cap, rfl, _⟩
      all_goals exact same_nil _ _ _ _ _ _
    · rcases hb with ⟨rfl, rfl⟩ | ⟨b', cap', rfl, k1, k2⟩
      · obtain rfl : A = [] := List.length_eq_zero_iff.1 hl
        exact same_nil _ _ _ _ _ _
      · exact same_walk b b' cap cap' A B w lines (.inr ⟨b, cap, rfl, h1, h2⟩) (.inr ⟨b', cap', rfl, k1, k2⟩) hA hl
  · rw [sameB_len lines A B hl]
    exact same_len va vb A B lines w ha hb hA hB hl
end Go.Proofs.YtpoomcejmdlmiaaDoor
