/- Numbers and characters that are tokens. -/
import Derived.Test.YtpoomcejmdlmiaaDoorScL
namespace Go.Proofs.YtpoomcejmdlmiaaDoor
open Go.ChangeShapes Go.WideShapes Go.ChangeAt Go.RowKit
set_option linter.unusedVariables false
theorem parse_ok : ∀ (l : List UInt8) (acc : Nat), Plain digitR l → acc * 10 ^ l.length + digV l ≤ 9223372036854775807 → Lib.parseUint10 acc l = .ok (acc * 10 ^ l.length + digV l)
  | [], acc, _, _ => by simp [Lib.parseUint10, digV]
  | c :: r, acc, hp, hv => by
    have hc := (hp c (by simp)).2
    unfold digitR at hc
    have hc := of_decide_eq_true hc
    have e : acc * 10 ^ (c :: r).length + digV (c :: r) = (acc * 10 + (c.toNat - 48)) * 10 ^ r.length + digV r := by
      rw [List.length_cons, Nat.pow_succ]
      show acc * (10 ^ r.length * 10) + ((c.toNat - 48) * 10 ^ r.length + digV r) = _
      rw [Nat.add_mul, Nat.mul_assoc acc 10, Nat.mul_comm 10, Nat.add_assoc]
    rw [e] at hv ⊢
    have hp1 : 1 ≤ 10 ^ r.length := Nat.one_le_pow _ _ (by decide)
    have hle : acc * 10 + (c.toNat - 48) ≤ (acc * 10 + (c.toNat - 48)) * 10 ^ r.length := Nat.le_mul_of_pos_right _ hp1
    rw [Lib.parseUint10, if_pos (by omega), if_neg (by omega), if_neg (by omega)]
    exact parse_ok r _ (fun c hc => hp c (List.mem_cons_of_mem _ hc)) hv
theorem num_atoi {l : List UInt8} {m : Nat} (h : IsNum l m) (hm : m ≤ 9223372036854775807) : Lib.atoiAll l = .ok (m : Int) := by
  obtain ⟨h1, h2, h3, _⟩ := h
  cases l with
  | nil => exact absurd rfl h2
  | cons c r =>
    have hc := (h1 c (by simp)).2
    unfold digitR at hc
    have hc := of_decide_eq_true hc
    have hk := parse_ok (c :: r) 0 h1 (by rw [Nat.zero_mul, Nat.zero_add, h3]; exact hm)
    rw [Nat.zero_mul, Nat.zero_add, h3] at hk
    have hmag : Lib.parseMag (c :: r) = .ok m := by unfold Lib.parseMag; rw [if_neg (by simp)]; exact hk
    rw [Lib.atoiAll_plain c r (by omega) (by omega), hmag]
    unfold Lib.signless
    simp only
    rw [if_neg (by omega)]
theorem tok_num {l : List UInt8} {m : Nat} (h : IsNum l m) (hm : m ≤ 9223372036854775807) : Tok l 3 m := by
  have ha := num_atoi h hm
  obtain ⟨h1, h2, h3, h4⟩ := h
  cases l with
  | nil => exact absurd rfl h2
  | cons c r =>
    refine tok_digits c r m h1 ha ?_
    rcases h4 with h4 | h4
    · exact .inl h4
    · exact .inr (List.length_eq_zero_iff.1 (by simpa using h4))
theorem sep_nil : Sep [] := .inl rfl
theorem scan_num {l : List UInt8} {m : Nat} (h : IsNum l m) (hm : m ≤ 9223372036854775807) : scanL (mk l) = ([⟨3, mk l, m, 1⟩, endT 1], true, 0) := by
  have := scanA_tok (tok_num h hm) sep_nil 1 []
  rw [List.append_nil] at this
  rw [scanL_A, mk_list, this]; rfl
theorem scan_zero {l : List UInt8} {m : Nat} (h : IsNum l m) : scanL (mk (48 :: l)) = ([], false, 1) := by
  have hp : Plain digitR (48 :: l) := fun c hc => by
    rcases List.mem_cons.1 hc with rfl | k
    · decide
    · exact h.1 c k
  have := bad_digits 48 l [] hp sep_nil (.inr ⟨rfl, h.2.1⟩) 1 []
  rw [List.append_nil] at this
  rw [scanL_A, mk_list, this]
theorem scan_most : scanL (mk [57, 50, 50, 51, 51, 55, 50, 48, 51, 54, 56, 53, 52, 55, 55, 53, 56, 48, 56]) = ([], false, 1) := by kernel_rfl
/-- A character between quotes. -/
def charW (r : Nat) : List UInt8 := 39 :: ((Utf8.encode (r : Int)).data.toList ++ [39])
theorem enc_two (r : Nat) (h1 : 128 ≤ r) (h2 : r < 2048) : (Utf8.encode (r : Int)).data.toList = [UInt8.ofNat (192 + r / 64), UInt8.ofNat (128 + r % 64)] := by
  have hv : Utf8.valid (r : Int) = true := by unfold Utf8.valid; simp; omega
  unfold Utf8.encode
  simp only [hv, if_true, Int.toNat_natCast]
  rw [if_neg (by omega), if_pos h2]
theorem enc_three (r : Nat) (h1 : 2048 ≤ r) (h2 : r < 55296) : (Utf8.encode (r : Int)).data.toList = [UInt8.ofNat (224 + r / 4096), UInt8.ofNat (128 + r / 64 % 64), UInt8.ofNat (128 + r % 64)] := by
  have hv : Utf8.valid (r : Int) = true := by unfold Utf8.valid; simp; omega
  unfold Utf8.encode
  simp only [hv, if_true, Int.toNat_natCast]
  rw [if_neg (by omega), if_neg (by omega), if_pos (by omega)]
theorem of_nat (n : Nat) (h : n < 256) : (UInt8.ofNat n).toNat = n := by rw [UInt8.toNat_ofNat', Nat.mod_eq_of_lt (by omega)]
theorem dec_two (r : Nat) (h1 : 128 ≤ r) (h2 : r < 2048) (x : List UInt8) : Lib.decodeL (UInt8.ofNat (192 + r / 64) :: UInt8.ofNat (128 + r % 64) :: x) = (r, 2) := by
  rw [Lib.decodeL_N]
  have e0 : ((UInt8.ofNat (192 + r / 64) :: UInt8.ofNat (128 + r % 64) :: x).getD 0 0).toNat = 192 + r / 64 := of_nat _ (by omega)
  have e1 : ((UInt8.ofNat (192 + r / 64) :: UInt8.ofNat (128 + r % 64) :: x).getD 1 0).toNat = 128 + r % 64 := of_nat _ (by omega)
  rw [e0, e1]
  have hl : 1 < (UInt8.ofNat (192 + r / 64) :: UInt8.ofNat (128 + r % 64) :: x).length := by simp
  unfold Lib.decodeN
  rw [if_neg (by omega), if_pos ⟨by omega, hl, by omega⟩, if_pos (by omega)]
  congr 1
  omega
theorem dec_three (r : Nat) (h1 : 2048 ≤ r) (h2 : r < 55296) (x : List UInt8) : Lib.decodeL (UInt8.ofNat (224 + r / 4096) :: UInt8.ofNat (128 + r / 64 % 64) :: UInt8.ofNat (128 + r % 64) :: x) = (r, 3) := by
  rw [Lib.decodeL_N]
  have e0 : ((UInt8.ofNat (224 + r / 4096) :: UInt8.ofNat (128 + r / 64 % 64) :: UInt8.ofNat (128 + r % 64) :: x).getD 0 0).toNat = 224 + r / 4096 := of_nat _ (by omega)
  have e1 : ((UInt8.ofNat (224 + r / 4096) :: UInt8.ofNat (128 + r / 64 % 64) :: UInt8.ofNat (128 + r % 64) :: x).getD 1 0).toNat = 128 + r / 64 % 64 := of_nat _ (by omega)
  have e2 : ((UInt8.ofNat (224 + r / 4096) :: UInt8.ofNat (128 + r / 64 % 64) :: UInt8.ofNat (128 + r % 64) :: x).getD 2 0).toNat = 128 + r % 64 := of_nat _ (by omega)
  rw [e0, e1, e2]
  have hl : 1 < (UInt8.ofNat (224 + r / 4096) :: UInt8.ofNat (128 + r / 64 % 64) :: UInt8.ofNat (128 + r % 64) :: x).length := by simp
  have hl2 : 2 < (UInt8.ofNat (224 + r / 4096) :: UInt8.ofNat (128 + r / 64 % 64) :: UInt8.ofNat (128 + r % 64) :: x).length := by simp
  unfold Lib.decodeN
  rw [if_neg (by omega), if_neg (by omega), if_pos ⟨by omega, ⟨hl, by omega⟩, hl2, by omega⟩, if_pos (by omega)]
  congr 1
  omega
theorem rnL_dec {l : List UInt8} {r k : Nat} (h : Lib.decodeL l = (r, k)) : rnL l = (r : Int) ∧ wdL l = k := by
  unfold Lib.decodeL at h
  have h' : Utf8.decode (mk l) 0 = (r, k) := h
  unfold rnL wdL rn wd
  rw [h']; exact ⟨rfl, rfl⟩
theorem enc_dec (r : Nat) (h1 : 161 ≤ r) (h2 : r < 8353) : ∃ k, (Utf8.encode (r : Int)).data.toList.length = k ∧ 2 ≤ k ∧ k ≤ 3 ∧ ∀ x, rnL ((Utf8.encode (r : Int)).data.toList ++ x) = (r : Int) ∧ wdL ((Utf8.encode (r : Int)).data.toList ++ x) = k := by
  by_cases h : r < 2048
  · rw [enc_two r (by omega) h]
    exact ⟨2, rfl, by decide, by decide, fun x => rnL_dec (dec_two r (by omega) h x)⟩
  · rw [enc_three r (by omega) (by omega)]
    exact ⟨3, rfl, by decide, by decide, fun x => rnL_dec (dec_three r (by omega) (by omega) x)⟩
theorem char_piece (r k : Nat) (E rest : List UInt8) (hk : E.length = k) (d1 : rnL (E ++ 39 :: rest) = (r : Int)) (d2 : wdL (E ++ 39 :: rest) = k) (hbad : badC (r : Int) = false) :
    pieceQ (mk (39 :: (E ++ 39 :: rest))) (rnL (39 :: (E ++ 39 :: rest))) = some ⟨(39 :: (E ++ [39])).length, 3, mk (39 :: (E ++ [39])), r⟩ := by
  have b1 : rnL (39 :: (E ++ 39 :: rest)) = 39 := rnL_cons 39 _ (by decide)
  have w0 : wd (mk (39 :: (E ++ 39 :: rest))) 0 = 1 := (ascL (39 :: (E ++ 39 :: rest)) 0 (by simp) (by simp)).2
  have r1 : rn (mk (39 :: (E ++ 39 :: rest))) 1 = (r : Int) := by rw [rn_drop, mk_list]; exact d1
  have w1 : wd (mk (39 :: (E ++ 39 :: rest))) 1 = k := by rw [wd_drop, mk_list]; exact d2
  have hdr : (39 :: (E ++ 39 :: rest)).drop (1 + k) = 39 :: rest := by
    rw [Nat.add_comm, List.drop_succ_cons, ← hk, List.drop_left]
  have r2 : rn (mk (39 :: (E ++ 39 :: rest))) (1 + k) = 39 := by rw [rn_drop, mk_list, hdr]; exact rnL_cons 39 _ (by decide)
  rw [b1, pieceQ_cons]
  unfold pieceP
  rw [slashes_no 39 _ (by decide)]
  have q1 : letterR 39 = false := by decide
  have q2 : digitR 39 = false := by decide
  rw [q1, q2]
  simp only [Bool.false_eq_true, if_false, beq_self_eq_true, if_true]
  unfold charP
  have hsz : (mk (39 :: (E ++ 39 :: rest))).size = k + rest.length + 2 := by rw [mk_size]; simp; omega
  rw [w0, w1, r1, r2, if_pos ⟨by omega, hbad, by omega, rfl⟩, take_mk]
  have ht : (39 :: (E ++ 39 :: rest)).take (1 + k + 1) = 39 :: (E ++ [39]) := by
    have e : 39 :: (E ++ 39 :: rest) = (39 :: (E ++ [39])) ++ rest := by simp
    rw [e, List.take_left']
    simp; omega
  rw [ht]
  have hlen : (39 :: (E ++ [39])).length = 1 + k + 1 := by simp; omega
  rw [hlen]
theorem bad_not (r : Nat) (h1 : 161 ≤ r) (h2 : r < 8353) : badC (r : Int) = false := by
  unfold badC
  apply decide_eq_false
  omega
set_option maxRecDepth 1000000 in
theorem tok_char (r : Nat) (h1 : 161 ≤ r) (h2 : r < 8353) : Tok (charW r) 3 r ∧ (charW r).length ≤ 5 := by
  obtain ⟨k, hk, k2, k3, hd⟩ := enc_dec r h1 h2
  have hbad := bad_not r h1 h2
  have hW : charW r = 39 :: ((Utf8.encode (r : Int)).data.toList ++ [39]) := rfl
  rw [hW]
  generalize (Utf8.encode (r : Int)).data.toList = E at hk hd
  clear hW h1 h2
  refine ⟨⟨by simp, rfl, fun rest _ => ?_⟩, by simp; omega⟩
  obtain ⟨d1, d2⟩ := hd (39 :: rest)
  have eL : 39 :: (E ++ [39]) ++ rest = 39 :: (E ++ 39 :: rest) := by simp
  rw [eL]
  exact ⟨by rw [rnL_cons 39 _ (by decide)]; decide, char_piece r k E rest hk d1 d2 hbad⟩
theorem scan_char (r : Nat) (h1 : 161 ≤ r) (h2 : r < 8353) : scanL (mk (charW r)) = ([⟨3, mk (charW r), r, 1⟩, endT 1], true, 0) := by
  have := scanA_tok (tok_char r h1 h2).1 sep_nil 1 []
  rw [List.append_nil] at this
  rw [scanL_A, mk_list, this]; rfl
theorem charW_app (r : Nat) : mk (charW r) = mk [39] ++ Utf8.encode (r : Int) ++ mk [39] := by
  apply bytes_inj
  rw [mk_list]
  unfold charW
  simp [mk]
end Go.Proofs.YtpoomcejmdlmiaaDoor
