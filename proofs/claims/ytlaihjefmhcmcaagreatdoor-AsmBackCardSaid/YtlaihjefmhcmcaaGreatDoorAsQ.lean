/- What is asked of the library's texts: Cut, Trim, CutPrefix, CutSuffix. -/
import Derived.Test.YtlaihjefmhcmcaaGreatDoorRows
import Derived.WalkKit
import Derived.ProofKit
import Derived.OpenShut
import Derived.WalkLawsBesides
import Derived.WalkSpells
import Derived.Outline
import Derived.Handy
import Derived.Lib.Hide
import Derived.Lib.OthersKept
import Derived.KernelRfl
import Derived.Carry
import Derived.Shelf.Strings.SlTrimAscii
import Derived.Test.YtlaihjefmhcmcaaGreatDoorAs2
import Derived.Test.YtlaihjefmhcmcaaGreatDoorInE
import Derived.Test.YtlaihjefmhcmcaaGreatDoorInH
namespace Go.Proofs.YtlaihjefmhcmcaaGreatDoor
open Go.ChangeShapes Go.WideShapes Go.ChangeAt Go.RowKit
set_option linter.unusedVariables false
theorem tw_split (c : UInt8) : ∀ (a b : List UInt8), (∀ x ∈ a, x ≠ c) → (a ++ c :: b).takeWhile (fun x => x != c) = a
  | [], b, _ => by simp
  | x :: a, b, h => by
    rw [List.cons_append, List.takeWhile_cons, if_pos (by simp [h x (by simp)]), tw_split c a b (fun y hy => h y (List.mem_cons_of_mem _ hy))]
theorem tw_none (c : UInt8) : ∀ (a : List UInt8), (∀ x ∈ a, x ≠ c) → a.takeWhile (fun x => x != c) = a
  | [], _ => rfl
  | x :: a, h => by
    rw [List.takeWhile_cons, if_pos (by simp [h x (by simp)]), tw_none c a (fun y hy => h y (List.mem_cons_of_mem _ hy))]
theorem cut_cases (l : List UInt8) (c : UInt8) : (Lib.cut l [c] = (l, [], false) ∧ ∀ x ∈ l, x ≠ c) ∨ ∃ a b, l = a ++ c :: b ∧ (∀ x ∈ a, x ≠ c) ∧ Lib.cut l [c] = (a, b, true) := by
  have hio := Lib.index_one l c
  have hge := Lib.indexByte_ge l c
  by_cases hi : Lib.indexByte l c = -1
  · refine .inl ⟨by unfold Lib.cut; rw [hio, if_neg (by omega)], fun x hx e => ?_⟩
    obtain ⟨k, hk⟩ := List.getElem?_of_mem hx
    exact Lib.indexByte_none hi k (by rw [hk, e])
  · obtain ⟨i, hi2⟩ : ∃ i : Nat, Lib.indexByte l c = i := ⟨(Lib.indexByte l c).toNat, by omega⟩
    obtain ⟨h1, h2⟩ := Lib.indexByte_some hi2
    have hil : i < l.length := (List.getElem?_eq_some_iff.1 h1).1
    have e : l = l.take i ++ c :: l.drop (i + 1) := by
      have := (List.take_append_drop i l).symm
      rw [List.drop_eq_getElem_cons hil, (List.getElem?_eq_some_iff.1 h1).2] at this
      exact this
    refine .inr ⟨l.take i, l.drop (i + 1), e, fun x hx k => ?_, ?_⟩
    · obtain ⟨j, hj⟩ := List.getElem?_of_mem hx
      rw [List.getElem?_take] at hj
      split at hj
      · exact h2 j (by omega) (by rw [hj, k])
      · cases hj
    · unfold Lib.cut
      rw [hio, hi2, if_pos (by omega)]
      rfl
theorem cut_hash (l : List UInt8) : (Lib.cut l [35]).1 = cutHash l := by
  unfold cutHash
  rcases cut_cases l 35 with ⟨h1, h2⟩ | ⟨a, b, h1, h2, h3⟩
  · rw [h1, tw_none 35 l h2]
  · rw [h3, h1, tw_split 35 a b h2]
theorem hash_any (l : List UInt8) (hl : l.length ≤ 100000) (w : World) (hv : Env w) : Calls Tryz.prog 19 #[.string (mk l), .string ⟨#[35]⟩] w fun e w' => e = .returned (.tuple #[.string (mk (cutHash l)), .string (mk (Lib.cut l [35]).2.1), .bool (Lib.cut l [35]).2.2]) ∧ Below w.heap.size w w' := by
  obtain ⟨⟨m, hm⟩, _⟩ := hv
  refine (Tryz.strings_Cut (mk l) ⟨#[35]⟩ m w (by show l.length < _; omega) hm).mono ?_
  rintro e w' ⟨rfl, n, rfl⟩
  exact ⟨by rw [← cut_hash]; rfl, ext_drewN (Below.refl _ _) _⟩
theorem trimS_eq (l : List UInt8) : Lib.trimS l [32, 9] = trimB l := by
  have e : (fun c : UInt8 => [32, 9].contains c) = blankB := by
    funext c
    unfold blankB
    rw [List.contains_cons, List.contains_cons, List.contains_nil, Bool.or_false]
  unfold Lib.trimS Lib.trimLeftS Lib.trimRightS trimB
  rw [e]
theorem trim_any (l : List UInt8) (hl : l.length ≤ 100000) (w : World) : Calls Tryz.prog 20 #[.string (mk l), .string ⟨#[32, 9]⟩] w fun e w' => e = .returned (.string (mk (trimB l))) ∧ Below w.heap.size w w' := by
  refine (Any.strings_Trim_laid Tryz.lays160 (by kernel_rfl) (mk l) ⟨#[32, 9]⟩ w (by show l.length ≤ _; omega) (by decide) ?_).mono ?_
  · intro j b hj
    match j, hj with
    | 0, hj => simp at hj; subst hj; decide
    | 1, hj => simp at hj; subst hj; decide
    | j + 2, hj => simp at hj
  · rintro e w' ⟨rfl, h⟩
    exact ⟨by rw [← trimS_eq]; rfl, h⟩
theorem split_any (l : List UInt8) (hl : l.length ≤ 100000) (w : World) (hv : Env w) : Calls Tryz.prog 18 #[.string (mk l), .string ⟨#[10]⟩] w fun e w' => e = .returned (.slice (some ⟨w.heap.size, 0, none⟩) (splitNL l).length (splitNL l).length) ∧ w.alloc (.cells ((splitNL l).map fun p => Value.string (mk p)).toArray 9) = w' := by
  obtain ⟨⟨m, hm⟩, _⟩ := hv
  refine (Tryz.strings_Split (mk l) ⟨#[10]⟩ m w (by show l.length < _; omega) hm (by decide)).mono ?_
  have hc : Lib.countB (mk l) ⟨#[10]⟩ + 1 = (splitNL l).length := by
    have h := congrArg List.length (splitB_nl l)
    rw [List.length_map] at h
    rw [← h]
    exact (Lib.splitB_all ⟨#[10]⟩ (by decide) 0 _ (mk l) rfl).symm
  rintro e w' ⟨rfl, rfl⟩
  rw [splitB_nl, hc, List.map_map]
  exact ⟨rfl, rfl⟩
set_option maxRecDepth 100000 in
theorem cutp0_any (l p : List UInt8) (hl : l.length ≤ 100000) (hp : p.length ≤ 100) (w : World) : Calls Tryz.prog 60 #[.string (mk l), .string (mk p)] w fun e w' => e = .returned (if Lib.hasPrefix l p then .tuple #[.string (mk (l.drop p.length)), .bool true] else .tuple #[.string (mk l), .bool false]) ∧ w = w' := by
  have HP := Lib.hid (fun w => Tryz.stringslite_HasPrefix (mk l) (mk p) w)
  have e1 : (mk l).data.toList = l := rfl
  have e2 : (mk p).data.toList = p := rfl
  rw [e1, e2] at HP
  have hsl : (mk l).size = l.length := rfl
  have hsp : (mk p).size = p.length := rfl
  cases hb : Lib.hasPrefix l p
  · rw [hb] at HP
    have HR : Hid ((if false = true then Value.tuple #[.string (mk (l.drop p.length)), .bool true] else .tuple #[.string (mk l), .bool false]) = .tuple #[.string (mk l), .bool false]) := Lib.hid rfl
    rw [HR.out]
    clear HR hb
    go_enter Tryz.func60, Tryz.ntmps60
    go_wp2_with fail
    refine (HP.out _).mono ?_; rintro e w' ⟨rfl, rfl⟩
    go_wp2_with fail
    go_ret2
    exact ⟨rfl, rfl⟩
  · have hle : p.length ≤ l.length := (List.isPrefixOf_iff_prefix.1 hb).length_le
    have hex : (mk l).extract p.length l.length = mk (l.drop p.length) := drop_mk l p.length
    rw [hb] at HP
    have HR : Hid ((if true = true then Value.tuple #[.string (mk (l.drop p.length)), .bool true] else .tuple #[.string (mk l), .bool false]) = .tuple #[.string (mk (l.drop p.length)), .bool true]) := Lib.hid rfl
    rw [HR.out]
    clear HR hb
    go_enter Tryz.func60, Tryz.ntmps60
    go_wp2_with fail
    refine (HP.out _).mono ?_; rintro e w' ⟨rfl, rfl⟩
    go_wp2_with fail
    go_ret2
    exact ⟨rfl, rfl⟩
theorem cutp_any (l p : List UInt8) (hl : l.length ≤ 100000) (hp : p.length ≤ 100) (w : World) : Calls Tryz.prog 41 #[.string (mk l), .string (mk p)] w fun e w' => e = .returned (if Lib.hasPrefix l p then .tuple #[.string (mk (l.drop p.length)), .bool true] else .tuple #[.string (mk l), .bool false]) ∧ w = w' := by
  have HP := Lib.hid (fun w => cutp0_any l p hl hp w)
  cases hb : Lib.hasPrefix l p
  all_goals
    rw [hb] at HP
    clear hb
    first
      | have HR : Hid ((if false = true then Value.tuple #[.string (mk (l.drop p.length)), .bool true] else .tuple #[.string (mk l), .bool false]) = .tuple #[.string (mk l), .bool false]) := Lib.hid rfl
        rw [HR.out] at HP ⊢
      | have HR : Hid ((if true = true then Value.tuple #[.string (mk (l.drop p.length)), .bool true] else .tuple #[.string (mk l), .bool false]) = .tuple #[.string (mk (l.drop p.length)), .bool true]) := Lib.hid rfl
        rw [HR.out] at HP ⊢
    clear HR
    go_enter Tryz.func41, Tryz.ntmps41
    go_wp2_with fail
    refine (HP.out _).mono ?_; rintro e w' ⟨rfl, rfl⟩
    go_wp2_with fail
    go_ret2
    exact ⟨rfl, rfl⟩
theorem suffix_one (l : List UInt8) (c : UInt8) : Lib.hasSuffix l [c] = decide (l.getLast? = some c) := by
  unfold Lib.hasSuffix
  rw [Bool.eq_iff_iff, List.isSuffixOf_iff_suffix, decide_eq_true_iff]
  constructor
  · rintro ⟨t, rfl⟩; simp
  · intro h
    have hne : l ≠ [] := by intro e; rw [e] at h; cases h
    refine ⟨l.dropLast, ?_⟩
    rw [List.getLast?_eq_some_getLast hne] at h
    injection h with h
    rw [← h]
    exact List.dropLast_concat_getLast hne
set_option maxRecDepth 100000 in
theorem cuts0_any (l : List UInt8) (hl : l.length ≤ 100000) (w : World) : Calls Tryz.prog 66 #[.string (mk l), .string ⟨#[58]⟩] w fun e w' => e = .returned (if l.getLast? = some 58 then .tuple #[.string (mk l.dropLast), .bool true] else .tuple #[.string (mk l), .bool false]) ∧ w = w' := by
  have HP := Lib.hid (fun w => Tryz.stringslite_HasSuffix (mk l) ⟨#[58]⟩ w (by show l.length ≤ _; omega))
  have e1 : (mk l).data.toList = l := rfl
  have e2 : (⟨#[58]⟩ : ByteArray).data.toList = [58] := rfl
  rw [e1, e2, suffix_one] at HP
  clear e1 e2
  have hsl : (mk l).size = l.length := rfl
  have hsp : (⟨#[58]⟩ : ByteArray).size = 1 := rfl
  by_cases hb : l.getLast? = some 58
  · have hne : 1 ≤ l.length := by cases l with
      | nil => cases hb
      | cons => simp
    rw [decide_eq_true hb] at HP
    rw [if_pos hb]
    have hex : (mk l).extract 0 (l.length - 1) = mk l.dropLast := by rw [take_mk, List.dropLast_eq_take]
    clear hb
    obtain ⟨m, hm⟩ : ∃ m, l.length = m + 1 := ⟨l.length - 1, by omega⟩
    rw [hm] at hex hsl hne hl
    have hm2 : m + 1 - 1 = m := rfl
    rw [hm2] at hex
    generalize l.dropLast = L2 at *
    clear hm hm2
    go_enter Tryz.func66, Tryz.ntmps66
    go_wp2_with fail
    refine (HP.out _).mono ?_; rintro e w' ⟨rfl, rfl⟩
    go_wp2_with fail
    go_ret2
    exact ⟨rfl, rfl⟩
  · rw [decide_eq_false hb] at HP
    rw [if_neg hb]
    clear hb
    go_enter Tryz.func66, Tryz.ntmps66
    go_wp2_with fail
    refine (HP.out _).mono ?_; rintro e w' ⟨rfl, rfl⟩
    go_wp2_with fail
    go_ret2
    exact ⟨rfl, rfl⟩
set_option maxRecDepth 100000 in
theorem cuts_any (l : List UInt8) (hl : l.length ≤ 100000) (w : World) : Calls Tryz.prog 44 #[.string (mk l), .string ⟨#[58]⟩] w fun e w' => e = .returned (if l.getLast? = some 58 then .tuple #[.string (mk l.dropLast), .bool true] else .tuple #[.string (mk l), .bool false]) ∧ w = w' := by
  have HP := Lib.hid (fun w => cuts0_any l hl w)
  by_cases hb : l.getLast? = some 58
  · rw [if_pos hb] at HP ⊢
    clear hb
    go_enter Tryz.func44, Tryz.ntmps44
    go_wp2_with fail
    refine (HP.out _).mono ?_; rintro e w' ⟨rfl, rfl⟩
    go_wp2_with fail
    go_ret2
    exact ⟨rfl, rfl⟩
  · rw [if_neg hb] at HP ⊢
    clear hb
    go_enter Tryz.func44, Tryz.ntmps44
    go_wp2_with fail
    refine (HP.out _).mono ?_; rintro e w' ⟨rfl, rfl⟩
    go_wp2_with fail
    go_ret2
    exact ⟨rfl, rfl⟩
end Go.Proofs.YtlaihjefmhcmcaaGreatDoor
