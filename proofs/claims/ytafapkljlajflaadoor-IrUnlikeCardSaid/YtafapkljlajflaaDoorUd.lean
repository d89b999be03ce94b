/- One block of a raw unit spoiled: plain. -/
import Derived.Test.YtafapkljlajflaaDoorUb
namespace Go.Proofs.YtafapkljlajflaaDoor
open Go.RowKit
/-- Main, f and g with these blocks. -/
def mkU (B : Nat → List Bk) : Un := { arrays := arrsAB, flows := [⟨mainN, 0, 10, B 0⟩, ⟨[102], 1, 10, B 1⟩, ⟨[103], 2, 10, B 2⟩] }
theorem fit_mkU (raw : List Bk) : fitU raw = mkU fun k => (flwF raw k).blocks := rfl
theorem mk_has3 (B : Nat → List Bk) : Has3 (mkU B) := by
  refine ⟨rfl, rfl, fun k hk => ?_⟩
  rcases (by omega : k = 0 ∨ k = 1 ∨ k = 2) with rfl | rfl | rfl <;> exact ⟨rfl, rfl⟩
theorem mk_decl (B : Nat → List Bk) : declB (mkU B) = true := by
  unfold declB
  rw [show (mkU B).arrays.map (·.name) ++ (mkU B).flows.map (·.name) = [[97], [98], mainN, [102], [103]] from rfl, show plcOf (mkU B).flows [109, 97, 105, 110] = 0 from rfl, show flwHas (mkU B).flows [109, 97, 105, 110] = true from rfl, show (mkU B).arrays = arrsAB from rfl]
  kernel_rfl
def flK (B : Nat → List Bk) (k : Nat) : Fl := ⟨namesL.getD k [], k, 10, B k⟩
theorem mk_fl (B : Nat → List Bk) (k : Nat) (hk : k < 3) : (mkU B).flows[k]? = some (flK B k) := by
  rcases (by omega : k = 0 ∨ k = 1 ∨ k = 2) with rfl | rfl | rfl <;> rfl
theorem badBk_some (u : Un) (f : Fl) : ∀ (L : List Bk) (j i : Nat) (b : Bk), L[i]? = some b → blkB u f b = false → (∀ t, t < i → ∀ c, L[t]? = some c → blkB u f c = true) → badBk u f L j = some (j + i)
  | [], _, _, _, h, _, _ => by simp at h
  | c :: r, j, 0, b, h, hb, _ => by
    have e : c = b := by simpa using h
    subst e
    unfold badBk
    rw [if_neg (by rw [hb]; decide), Nat.add_zero]
  | c :: r, j, i + 1, b, h, hb, hall => by
    unfold badBk
    rw [if_pos (hall 0 (by omega) c rfl), badBk_some u f r (j + 1) i b (by simpa using h) hb (fun t ht x hx => hall (t + 1) (by omega) x (by simpa using hx))]
    congr 1; omega
theorem wrong_mk (B : Nat → List Bk) (k i : Nat) (hk : k < 3) (b : Bk) (hb : (B k)[i]? = some b) (hbad : blkB (mkU B) (flK B k) b = false)
    (hlen : ∀ j, j < 3 → flwB (flK B j) = true) (hfine : ∀ j, j < k → ∀ c ∈ B j, blkB (mkU B) (flK B j) c = true) (hahead : ∀ t, t < i → ∀ c, (B k)[t]? = some c → blkB (mkU B) (flK B k) c = true) : wrongU (mkU B) = (70, k, i) := by
  have e : badFl (mkU B) (mkU B).flows 0 = some (k, i) := by
    show badFl (mkU B) [flK B 0, flK B 1, flK B 2] 0 = some (k, i)
    have hs : badBk (mkU B) (flK B k) (flK B k).blocks 0 = some i := by
      have := badBk_some (mkU B) (flK B k) (B k) 0 i b hb hbad hahead
      rw [Nat.zero_add] at this
      exact this
    have hn : ∀ j, j < k → badBk (mkU B) (flK B j) (flK B j).blocks 0 = none := fun j hj => badBk_none _ _ _ _ (hfine j hj)
    rcases (by omega : k = 0 ∨ k = 1 ∨ k = 2) with rfl | rfl | rfl
    · unfold badFl
      rw [if_pos (hlen 0 (by decide)), hs]
    · unfold badFl
      rw [if_pos (hlen 0 (by decide)), hn 0 (by decide)]
      show badFl (mkU B) [flK B 1, flK B 2] 1 = _
      unfold badFl
      rw [if_pos (hlen 1 (by decide)), hs]
    · unfold badFl
      rw [if_pos (hlen 0 (by decide)), hn 0 (by decide)]
      show badFl (mkU B) [flK B 1, flK B 2] 1 = _
      unfold badFl
      rw [if_pos (hlen 1 (by decide)), hn 1 (by decide)]
      show badFl (mkU B) [flK B 2] 2 = _
      unfold badFl
      rw [if_pos (hlen 2 (by decide)), hs]
  unfold wrongU
  rw [if_pos (mk_decl B), e]
def badX (n : Int) : List Xn := [⟨0, 0, 0, 0, 0, 0, [], []⟩, ⟨10, 0, 0, 0, 0, 0, [], []⟩, ⟨1, n, 0, 0, 0, 0, [], []⟩, ⟨2, 0, -n, 0, 0, 0, [], []⟩, ⟨3, 0, 0, 0, 1, 0, [], []⟩, ⟨4, 0, 0, 0, 18, 0, [], []⟩, ⟨5, 0, 0, 0, 0, 0, mainN, []⟩, ⟨6, 1, 0, 0, 0, 0, [97], []⟩, ⟨7, 0, 0, 0, 0, n, [], []⟩, ⟨9, 0, 0, 0, 0, 0, [102], []⟩, ⟨9, 0, 0, 0, 0, 0, [102], [n]⟩, ⟨8, 0, n, 0, 0, 0, [], []⟩]
def badT (n : Int) : List Tm := [⟨0, 0, 0, 0⟩, ⟨1, 0, n, 0⟩, ⟨3, -n, 0, 0⟩]
/-- A block spoiled in the w-th way. -/
def spoil (b : Bk) (w : Nat) (n : Int) : Bk := if w < 12 then { b with ins := b.ins ++ [(badX n).getD w ⟨0, 0, 0, 0, 0, 0, [], []⟩] } else { b with term := (badT n).getD (w - 12) zeroT }
theorem bad_ins (B : Nat → List Bk) (w : Nat) (hw : w < 12) (n : Int) (hn : 10 ≤ n) : insB (mkU B) 10 ((badX n).getD w ⟨0, 0, 0, 0, 0, 0, [], []⟩) = false := by
  have p1 : plcB 10 n = false := by unfold plcB; exact decide_eq_false (by omega)
  have p2 : plcB 10 (-n) = false := by unfold plcB; exact decide_eq_false (by omega)
  have p3 : decide (n = 0) = false := decide_eq_false (by omega)
  rcases (by omega : w = 0 ∨ w = 1 ∨ w = 2 ∨ w = 3 ∨ w = 4 ∨ w = 5 ∨ w = 6 ∨ w = 7 ∨ w = 8 ∨ w = 9 ∨ w = 10 ∨ w = 11) with h | h | h | h | h | h | h | h | h | h | h | h <;> subst h
  · rfl
  · rfl
  · show insB (mkU B) 10 ⟨1, n, 0, 0, 0, 0, [], []⟩ = false
    simp [insB, fitB, hD, p1]
  · show insB (mkU B) 10 ⟨2, 0, -n, 0, 0, 0, [], []⟩ = false
    simp [insB, fitB, hD, hA, p2]
  · rfl
  · rfl
  · rfl
  · rfl
  · show insB (mkU B) 10 ⟨7, 0, 0, 0, 0, n, [], []⟩ = false
    simp [insB, p3]
  · rfl
  · show insB (mkU B) 10 ⟨9, 0, 0, 0, 0, 0, [102], [n]⟩ = false
    simp [insB, argB, p1]
  · show insB (mkU B) 10 ⟨8, 0, n, 0, 0, 0, [], []⟩ = false
    simp [insB, fitB, hD, hA, p1]
theorem flK_values (B : Nat → List Bk) (k : Nat) : (flK B k).values = 10 := rfl
theorem bad_trm (f : Fl) (hv : f.values = 10) (hl : f.blocks.length ≤ 8) (w : Nat) (hw : w < 3) (n : Int) (hn : 10 ≤ n) : trmB f ((badT n).getD w zeroT) = false := by
  have p1 : plcB f.blocks.length n = false := by unfold plcB; exact decide_eq_false (by omega)
  have p2 : plcB f.values (-n) = false := by unfold plcB; rw [hv]; exact decide_eq_false (by omega)
  rcases (by omega : w = 0 ∨ w = 1 ∨ w = 2) with h | h | h <;> subst h
  · rfl
  · show trmB f ⟨1, 0, n, 0⟩ = false
    simp [trmB, p1]
  · show trmB f ⟨3, -n, 0, 0⟩ = false
    simp [trmB, p2]
/-- The blocks of a raw unit, the i-th of function k being another one. -/
def swapB (raw : List Bk) (k i : Nat) (b : Bk) : Nat → List Bk := fun j => if j = k then (flwF raw j).blocks.set i b else (flwF raw j).blocks
theorem fit_spoiled (raw : List Bk) (k i w : Nat) (hk : k < 3) (b : Bk) (hi : (flwF raw k).blocks[i]? = some b) (hw : w < 15) (n : Int) (hn : 10 ≤ n) : wrongU (mkU (swapB raw k i (spoil b w n))) = (70, k, i) := by
  have hil : i < (flwF raw k).blocks.length := by
    rcases Nat.lt_or_ge i (flwF raw k).blocks.length with h | h
    · exact h
    · rw [List.getElem?_eq_none h] at hi; cases hi
  have hbm : b ∈ (flwF raw k).blocks := List.mem_of_getElem? hi
  have ek : swapB raw k i (spoil b w n) k = (flwF raw k).blocks.set i (spoil b w n) := by unfold swapB; rw [if_pos rfl]
  have eo : ∀ j, j ≠ k → swapB raw k i (spoil b w n) j = (flwF raw j).blocks := fun j hj => by unfold swapB; rw [if_neg hj]
  have el : ∀ j, (swapB raw k i (spoil b w n) j).length = (flwF raw j).blocks.length := by
    intro j
    by_cases hj : j = k
    · subst hj; rw [ek, List.length_set]
    · rw [eo j hj]
  have hok : ∀ j, ∀ c ∈ (flwF raw j).blocks, blkB (mkU (swapB raw k i (spoil b w n))) (flK (swapB raw k i (spoil b w n)) j) c = true := by
    intro j c hc
    obtain ⟨r, _, rfl⟩ := flwF_blk raw j hc
    unfold blkB
    rw [Bool.and_eq_true, List.all_eq_true]
    refine ⟨fun x hx => ?_, ?_⟩
    · obtain ⟨y, _, rfl⟩ := List.mem_map.1 hx
      exact ins_fit _ (mk_has3 _) y _ (by show (10 : Int) ≤ 10; decide)
    · have h1 : (flK (swapB raw k i (spoil b w n)) j).blocks.length = (flwF raw j).blocks.length := el j
      have := trm_fit (flK (swapB raw k i (spoil b w n)) j) r.term (by show (10 : Int) ≤ 10; decide) (by rw [h1, flwF_len]; exact (bksOf_len raw j).1)
      rw [h1] at this
      exact this
  refine wrong_mk _ k i hk (spoil b w n) (by rw [ek, List.getElem?_set_self hil]) ?_ ?_ ?_ ?_
  · unfold blkB spoil
    by_cases h : w < 12
    · rw [if_pos h, List.all_append, List.all_cons, flK_values, bad_ins _ w h n hn]
      simp
    · rw [if_neg h]
      have := bad_trm (flK (swapB raw k i { b with term := (badT n).getD (w - 12) zeroT }) k) rfl (by
        show (swapB raw k i _ k).length ≤ 8
        unfold swapB
        rw [if_pos rfl, List.length_set, flwF_len]
        exact (bksOf_len raw k).2) (w - 12) (by omega) n hn
      rw [this, Bool.and_false]
  · intro j hj
    have h := bksOf_len raw j
    have hc : cntI (flK (swapB raw k i (spoil b w n)) j) ≤ 8 * 7 := by
      unfold cntI
      refine Nat.le_trans (sum_le _ 7 ?_) ?_
      · intro x hx
        obtain ⟨c, hc, rfl⟩ := List.mem_map.1 hx
        have six : ∀ c ∈ (flwF raw j).blocks, c.ins.length ≤ 6 := fun c hc => by
          obtain ⟨r, _, rfl⟩ := flwF_blk raw j hc
          show ((r.ins.take 6).map insF).length ≤ 6
          rw [List.length_map, List.length_take]; omega
        have hc' : c ∈ swapB raw k i (spoil b w n) j := hc
        by_cases hjk : j = k
        · subst hjk
          rw [ek] at hc'
          rcases List.mem_or_eq_of_mem_set hc' with h | h
          · have := six c h; omega
          · subst h
            have := six b hbm
            unfold spoil
            split
            · show (b.ins ++ [_]).length ≤ 7
              rw [List.length_append]; show b.ins.length + 1 ≤ 7; omega
            · show b.ins.length ≤ 7; omega
        · rw [eo j hjk] at hc'
          have := six c hc'; omega
      · rw [List.length_map]
        have : (flK (swapB raw k i (spoil b w n)) j).blocks.length ≤ 8 := by
          show (swapB raw k i (spoil b w n) j).length ≤ 8
          rw [el, flwF_len]; omega
        omega
    unfold flwB
    have e1 : (flK (swapB raw k i (spoil b w n)) j).params = j := rfl
    have e2 : (flK (swapB raw k i (spoil b w n)) j).values = 10 := rfl
    have e3 : (flK (swapB raw k i (spoil b w n)) j).blocks.length = (bksOf raw j).length := by
      show (swapB raw k i (spoil b w n) j).length = _
      rw [el, flwF_len]
    rw [e1, e2, e3, decide_eq_true (by omega), decide_eq_true (by omega)]; rfl
  · intro j hj c hc
    rw [eo j (by omega)] at hc
    exact hok j c hc
  · intro t ht c hc
    rw [ek, List.getElem?_set_ne (by omega)] at hc
    exact hok k c (List.mem_of_getElem? hc)
end Go.Proofs.YtafapkljlajflaaDoor
