/- The document's own answer: tokens, in plain words. -/
import Derived.Test.YtpoomcejmdlmiaaDoorScFc
namespace Go.Proofs.YtpoomcejmdlmiaaDoor
open Go.ChangeShapes Go.WideShapes Go.ChangeAt Go.RowKit
set_option linter.unusedVariables false
def spW (p : Int → Bool) (l : List UInt8) : List UInt8 := l.takeWhile (fun c => p (c.toNat : Int))
theorem spW_all (p : Int → Bool) (l : List UInt8) : ∀ c ∈ spW p l, p (c.toNat : Int) = true := fun c hc => List.all_eq_true.1 (List.all_takeWhile (p := fun c : UInt8 => p (c.toNat : Int)) (l := l)) c hc
theorem spW_plain (p : Int → Bool) (hp : ∀ r : Int, 128 ≤ r → p r = false) (l : List UInt8) : Plain p (spW p l) := fun c hc => by
  have := spW_all p l c hc
  refine ⟨?_, this⟩
  rcases Nat.lt_or_ge c.toNat 128 with h | h
  · exact h
  · rw [hp _ (by omega)] at this; cases this
theorem spW_take (p : Int → Bool) (l : List UInt8) : l.take (spW p l).length = spW p l := by
  have h : spW p l ++ l.dropWhile (fun c => p (c.toNat : Int)) = l := List.takeWhile_append_dropWhile
  have e : (spW p l ++ l.dropWhile (fun c => p (c.toNat : Int))).take (spW p l).length = spW p l := List.take_left
  rw [h] at e
  exact e
theorem spW_rest (p : Int → Bool) (l : List UInt8) : l.dropWhile (fun c => p (c.toNat : Int)) = [] ∨ ∃ b r, l.dropWhile (fun c => p (c.toNat : Int)) = b :: r ∧ p (b.toNat : Int) = false := by
  induction l with
  | nil => exact .inl rfl
  | cons c r ih =>
    rw [List.dropWhile_cons]
    by_cases e : p (c.toNat : Int) = true
    · rw [if_pos e]; exact ih
    · rw [if_neg e]
      exact .inr ⟨c, r, rfl, by cases k : p (c.toNat : Int); rfl; exact absurd k e⟩
theorem spW_span (p : Int → Bool) (hp : ∀ r : Int, 128 ≤ r → p r = false) (l : List UInt8) : spanL p (mk l) = (spW p l).length := by
  have h : spW p l ++ l.dropWhile (fun c => p (c.toNat : Int)) = l := List.takeWhile_append_dropWhile
  rcases spW_rest p l with e | ⟨b, r, e, hb⟩
  · rw [e, List.append_nil] at h
    rw [(plain_iff p hp l).2 (by rw [← h]; exact spW_all p l), h]
  · rw [e] at h
    have := span_first p hp (spW p l) b r (spW_plain p hp l) hb
    rw [h] at this
    exact this
theorem spW_le (p : Int → Bool) (l : List UInt8) : (spW p l).length ≤ l.length := (List.takeWhile_sublist _).length_le
/-- The byte behind, and the bytes within. -/
theorem spW_at (p : Int → Bool) (l : List UInt8) : (∀ k (h : k < l.length), k < (spW p l).length → p ((l[k]'h).toNat : Int) = true) ∧ (∀ h : (spW p l).length < l.length, p ((l[(spW p l).length]'h).toNat : Int) = false) := by
  have e : spW p l ++ l.dropWhile (fun c => p (c.toNat : Int)) = l := List.takeWhile_append_dropWhile
  refine ⟨fun k h h1 => ?_, fun h => ?_⟩
  · have g : l[k]? = (spW p l)[k]? := by
      conv => lhs; rw [← e]
      rw [List.getElem?_append_left h1]
    rw [List.getElem?_eq_getElem h, List.getElem?_eq_getElem h1] at g
    rw [Option.some.inj g]
    exact spW_all p l _ (List.getElem_mem _)
  · have g : l[(spW p l).length]? = (l.dropWhile (fun c => p (c.toNat : Int)))[0]? := by
      conv => lhs; rw [← e]
      rw [List.getElem?_append_right (by rw [e]; exact Nat.le_refl _)]
      congr 1
      rw [e]; exact Nat.sub_self _
    rw [List.getElem?_eq_getElem h] at g
    rcases spW_rest p l with k | ⟨b, r, k, hb⟩
    · rw [k] at g; cases g
    · rw [k] at g
      rw [Option.some.inj g]; exact hb
theorem spW_pos (p : Int → Bool) (c : UInt8) (r : List UInt8) (h : p (c.toNat : Int) = true) : 1 ≤ (spW p (c :: r)).length ∧ (spW p (c :: r)).getD 0 0 = c := by
  unfold spW
  rw [List.takeWhile_cons, if_pos h]
  exact ⟨by simp, rfl⟩
theorem in_high : ∀ r : Int, 128 ≤ r → inNameR r = false := fun r h => (high_not r h).1
theorem dig_high : ∀ r : Int, 128 ≤ r → digitR r = false := fun r h => (high_not r h).2.1
theorem let_lt (x : Int) (h : letterR x = true) : x < 128 := by
  rcases Int.lt_or_le x 128 with k | k
  · exact k
  · rw [(high_not x k).2.2] at h; cases h
theorem dig_lt (x : Int) (h : digitR x = true) : x < 128 := by
  rcases Int.lt_or_le x 128 with k | k
  · exact k
  · rw [(high_not x k).2.1] at h; cases h
theorem name_eq {w : List UInt8} (h0 : 1 ≤ w.length) (hall : ∀ c ∈ w, inNameR (c.toNat : Int) = true) (hf : letterR ((w.getD 0 0).toNat : Int) = true) : nameB (mk w) = (decide (w.length ≤ 20) && !wordB (mk w)) := by
  unfold nameB
  rw [mk_size, mk_list, hf, (plain_iff inNameR in_high w).2 hall, decide_eq_true h0]
  simp
theorem name_dig {w : List UInt8} (hf : letterR ((w.getD 0 0).toNat : Int) = false) : nameB (mk w) = false := by
  unfold nameB
  rw [mk_list, hf]
  simp
theorem word_dig {w : List UInt8} (h0 : 1 ≤ w.length) (hf : letterR ((w.getD 0 0).toNat : Int) = false) : wordB (mk w) = false := by
  cases e : wordB (mk w) with
  | false => rfl
  | true =>
    cases w with
    | nil => simp at h0
    | cons c r =>
      have := word_letters ((wordB_mem _).1 e) c (by simp)
      have hf : letterR (c.toNat : Int) = false := hf
      rw [this] at hf; cases hf
theorem digV_big {c : UInt8} {r : List UInt8} (hc : digitR (c.toNat : Int) = true) (h48 : c ≠ 48) : 10 ^ r.length ≤ digV (c :: r) := by
  have h := of_decide_eq_true (show decide _ = true from hc)
  have : c.toNat ≠ 48 := fun e => h48 (UInt8.toNat_inj.1 e)
  show 10 ^ r.length ≤ (c.toNat - 48) * 10 ^ r.length + digV r
  have h1 : 1 ≤ c.toNat - 48 := by omega
  have := Nat.mul_le_mul_right (10 ^ r.length) h1
  omega
theorem head_take (p : Int → Bool) (c : UInt8) (r : List UInt8) (h : p (c.toNat : Int) = true) : (mk (c :: r)).extract 0 (spW p (c :: r)).length = mk (spW p (c :: r)) := by rw [take_mk, spW_take]
theorem num_eq {c : UInt8} {r : List UInt8} (hc : digitR (c.toNat : Int) = true) : numberP (mk (c :: r)) = if 0 ≤ numV (spW digitR (c :: r)) then some ⟨(spW digitR (c :: r)).length, 3, mk (spW digitR (c :: r)), numV (spW digitR (c :: r))⟩ else none := by
  obtain ⟨h1, h2⟩ := spW_pos digitR c r hc
  have hpl := spW_plain digitR dig_high (c :: r)
  unfold numberP
  rw [spW_span digitR dig_high, head_take digitR c r hc, mk_list, mk_list]
  have hg : (c :: r).getD 0 0 = c := rfl
  rw [hg]
  generalize spW digitR (c :: r) = w at *
  have hne : w ≠ [] := fun e => by rw [e] at h1; simp at h1
  obtain ⟨a1, a2⟩ := atoi_digits hpl hne
  by_cases hm : digV w ≤ 9223372036854775807
  · rw [a1 hm]
    simp only
    by_cases hk : w.length = 1 ∨ c ≠ 48
    · have h19 : w.length ≤ 19 := by
        rcases hk with k | k
        · omega
        · cases w with
          | nil => simp at h1
          | cons a t =>
            have ea : a = c := h2
            subst ea
            have hb := digV_big (hpl a (by simp)).2 k (r := t)
            rcases Nat.lt_or_ge t.length 19 with q | q
            · simp; omega
            · have := Nat.pow_le_pow_right (show 0 < 10 by decide) q
              have e19 : (10 : Nat) ^ 19 = 10000000000000000000 := by decide
              omega
      have hv : numV w = (digV w : Nat) := by
        unfold numV
        rw [if_pos ⟨h19, by rw [h2]; exact hk, hm⟩]
      have hcond : (c != 48 || w.length == 1) = true := by
        rcases hk with k | k
        · rw [k]; simp
        · have : (c != 48) = true := bne_iff_ne.2 k
          rw [this]; rfl
      rw [hv, if_pos hcond, if_pos (by omega)]
    · have hv : numV w = -1 := by
        unfold numV
        rw [if_neg (fun q => hk (by rw [h2] at q; exact q.2.1))]
      have e1 : (c != 48) = false := by
        cases e : (c != 48) with
        | false => rfl
        | true => exact absurd (.inr (bne_iff_ne.1 e)) hk
      have e2 : (w.length == 1) = false := beq_eq_false_iff_ne.2 (fun e => hk (.inl e))
      rw [hv, e1, e2, if_neg (by simp), if_neg (by omega)]
  · have hv : numV w = -1 := by
      unfold numV
      rw [if_neg (fun q => hm q.2.2)]
    rw [hv, if_neg (by omega)]
    cases e : Lib.atoiAll w with
    | ok v => exact absurd e (a2 (by omega) v)
    | _ => rfl
theorem piece_open {c : UInt8} {r : List UInt8} (hs : slB (c :: r) = false) : ∃ h0 : 0 < (mk (c :: r)).size, pieceQ (mk (c :: r)) (rnL (c :: r)) = if letterR (c.toNat : Int) = true then wordP (mk (c :: r)) else if digitR (c.toNat : Int) = true then numberP (mk (c :: r)) else if ((c.toNat : Int) == 39) = true then charP (mk (c :: r))
    else if 0 < signN (mk (c :: r)) h0 then some ⟨signN (mk (c :: r)) h0, 4, (mk (c :: r)).extract 0 (signN (mk (c :: r)) h0), 0⟩ else none := by
  have h0 : 0 < (mk (c :: r)).size := by rw [mk_size]; simp
  refine ⟨h0, ?_⟩
  unfold pieceQ
  rw [dif_pos h0]
  unfold pieceP
  rw [if_neg (show ¬ slashes (mk (c :: r)) = true from fun k => by rw [show slashes (mk (c :: r)) = slB (c :: r) from rfl, hs] at k; cases k)]
  have e3 : (rnL (c :: r) == 39) = ((c.toNat : Int) == 39) := asc_pred (fun x => x == 39) (fun x h => by have := beq_iff_eq.1 h; omega) c r
  rw [asc_pred letterR let_lt, asc_pred digitR dig_lt, e3]
theorem word_eq {c : UInt8} {r : List UInt8} (hc : letterR (c.toNat : Int) = true) : wordP (mk (c :: r)) = if wordB (mk (spW inNameR (c :: r))) = true then some ⟨(spW inNameR (c :: r)).length, 2, mk (spW inNameR (c :: r)), 0⟩ else if (spW inNameR (c :: r)).length ≤ 20 then some ⟨(spW inNameR (c :: r)).length, 1, mk (spW inNameR (c :: r)), 0⟩ else none := by
  unfold wordP
  rw [spW_span inNameR in_high, head_take inNameR c r (by unfold inNameR; rw [hc]; rfl)]
def twoL : List (List UInt8) := [[61, 61], [33, 61], [60, 61], [62, 61], [60, 60], [62, 62]]
theorem two_iff (l : List UInt8) : two (mk l) = true ↔ l.take 2 ∈ twoL := by
  unfold two
  rw [take_mk, mk_tl, mk_size]
  match l with
  | [] => simp [twoL]
  | [a] => simp [twoL]
  | a :: b :: r => simp [twoL, or_assoc]
theorem sign_mem (c : UInt8) : 0 ≤ Lib.indexByte signs c ↔ c ∈ signs := by
  constructor
  · intro h
    obtain ⟨o, e⟩ := Int.eq_ofNat_of_zero_le h
    exact List.mem_of_getElem? (Lib.indexByte_some e).1
  · intro h
    obtain ⟨k, hk⟩ := List.getElem?_of_mem h
    have h1 := Lib.indexByte_ge signs c
    rcases (by omega : Lib.indexByte signs c = -1 ∨ 0 ≤ Lib.indexByte signs c) with e | e
    · exact absurd hk (Lib.indexByte_none e k)
    · exact e
/-- What the document's own token answers. -/
def TkR (P : Option Piece) (e : Ending) : Prop := ∃ (k n : Int) (t : ByteArray) (m : Int), e = .returned (.tuple #[.agg #[.int .i64 k, .string t, .int .i64 n, .int .i64 0], .int .i64 m]) ∧ (match P with | some p => k = p.kind ∧ t = p.text ∧ n = p.n ∧ m = (p.len : Int) | none => m = 0)
theorem charP_text {s : ByteArray} {p : Piece} (h : charP s = some p) : p.kind = 3 ∧ p.text = s.extract 0 p.len := by
  unfold charP at h
  split at h
  · cases h; exact ⟨rfl, rfl⟩
  · cases h
end Go.Proofs.YtpoomcejmdlmiaaDoor
