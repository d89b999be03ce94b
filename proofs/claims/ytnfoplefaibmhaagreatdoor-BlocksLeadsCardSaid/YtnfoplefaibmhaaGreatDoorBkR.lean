/- Fine code's instructions lead somewhere. -/
import Derived.Test.YtnfoplefaibmhaaGreatDoorBkQ
import Derived.Test.YtnfoplefaibmhaaGreatDoorAs4
namespace Go.Proofs.YtnfoplefaibmhaaGreatDoor
set_option linter.unusedVariables false
theorem has76_fin : ∀ k : Fin 28, (hasL ((k.val : Int) + 1)).contains 76 = (decide (k.val = 16) || decide (20 ≤ k.val ∧ k.val ≤ 25)) := by decide +kernel
theorem has76 {op : Int} (h : isOp op = true) : (hasL op).contains 76 = true ↔ op = 17 ∨ (21 ≤ op ∧ op ≤ 26) := by
  obtain ⟨k, rfl⟩ := op_nat h
  rw [has76_fin, Bool.or_eq_true, decide_eq_true_iff, decide_eq_true_iff]
  omega
theorem name_of_lab {x : In} (h : rightB x = true) (hc : (hasL x.op).contains 76 = true) : x.name ≠ [] := by
  rw [right_eq] at h
  unfold rightE at h
  rw [hc] at h
  simp only [Bool.and_eq_true, if_true] at h
  have := (lab_all h.2).2.1
  intro e
  rw [e] at this
  simp at this
theorem flat_mem {c : Cd} (h : (faultL c).1 = 0) {x : In} (hx : x ∈ flatI c.lines) : rightB x = true := by
  unfold flatI at hx
  obtain ⟨l, hl, rfl⟩ := List.mem_map.1 hx
  obtain ⟨h1, h2⟩ := List.mem_filter.1 hl
  obtain ⟨i, hi, e⟩ := List.mem_iff_getElem.1 h1
  have h3 := (ok_all h).2.2.2.2 i hi
  rw [e] at h3
  exact ((ok_line h3).2 (of_decide_eq_true h2)).1
theorem ahead_flat (L : List Ln) (n : List UInt8) : aheadL L n ≤ (flatI L).length := by
  unfold aheadL flatI
  rw [List.length_map]
  exact ((List.takeWhile_sublist _).filter _).length_le
theorem code_goes {c : Cd} (h : (faultL c).1 = 0) : Goes (flatI c.lines) ((flatI c.lines).map (toL c)) := by
  have key : ∀ (i : Nat) (x : In) (t : Int), (flatI c.lines)[i]? = some x → ((flatI c.lines).map (toL c))[i]? = some t → rightB x = true ∧ t = toL c x := by
    intro i x t hx ht
    rw [List.getElem?_map, hx] at ht
    injection ht with ht
    exact ⟨flat_mem h (List.mem_of_getElem? hx), ht.symm⟩
  refine ⟨List.length_map _, fun t ht => ?_, fun i x t hx ht h1 h2 => ?_, fun i x t hx ht hn => ?_, fun i x hx => ?_⟩
  · obtain ⟨x, _, rfl⟩ := List.mem_map.1 ht
    unfold toL
    split
    · omega
    · have := ahead_flat c.lines x.name; omega
  · obtain ⟨hr, rfl⟩ := key i x t hx ht
    have := name_of_lab hr ((has76 (right_op hr)).2 (.inr ⟨h1, h2⟩))
    unfold toL
    rw [if_neg (fun k => k.elim this (fun e => by omega))]
    omega
  · obtain ⟨hr, rfl⟩ := key i x t hx ht
    unfold toL
    by_cases e : x.name = [] ∨ x.op = 17
    · rw [if_pos e]
    · have := (has76 (right_op hr)).1 (lab_of_name hr (fun k => e (.inl k)))
      exact absurd this (fun k => k.elim (fun k => e (.inr k)) hn)
  · have hr := right_op (flat_mem h (List.mem_of_getElem? hx))
    exact of_decide_eq_true hr
/-! Landings and returns. -/
theorem rising_ext : ∀ {a b : List Int}, a.Pairwise (· < ·) → b.Pairwise (· < ·) → (∀ k, k ∈ a ↔ k ∈ b) → a = b
  | [], [], _, _, _ => rfl
  | [], y :: b, _, _, h => absurd ((h y).2 (List.mem_cons_self ..)) (by simp)
  | x :: a, [], _, _, h => absurd ((h x).1 (List.mem_cons_self ..)) (by simp)
  | x :: a, y :: b, ha, hb, h => by
    rw [List.pairwise_cons] at ha hb
    have h1 := (h x).1 (List.mem_cons_self ..)
    have h2 := (h y).2 (List.mem_cons_self ..)
    have e : x = y := by
      rcases List.mem_cons.1 h1 with k | k
      · exact k
      · rcases List.mem_cons.1 h2 with q | q
        · exact q.symm
        · have := hb.1 x k; have := ha.1 y q; omega
    subst e
    rw [rising_ext ha.2 hb.2 (fun k => ?_)]
    constructor
    · intro hk
      rcases List.mem_cons.1 ((h k).1 (List.mem_cons_of_mem _ hk)) with q | q
      · have := ha.1 k hk; omega
      · exact q
    · intro hk
      rcases List.mem_cons.1 ((h k).2 (List.mem_cons_of_mem _ hk)) with q | q
      · have := hb.1 k hk; omega
      · exact q
theorem landL_rising (L : List In) : (landL L).Pairwise (· < ·) := by
  refine snoc_ind (P := fun L => (landL L).Pairwise (· < ·)) List.Pairwise.nil (fun A x ih => ?_) L
  rw [landL_snoc]
  split
  · rw [List.pairwise_append]
    refine ⟨ih, List.pairwise_singleton _ _, fun a ha b hb => ?_⟩
    rw [List.mem_singleton.1 hb]
    obtain ⟨i, z, h1, _, rfl⟩ := landL_mem.1 ha
    have := (List.getElem?_eq_some_iff.1 h1).1
    omega
  · exact ih
theorem landL_pre (A B : List In) : landL A <+: landL (A ++ B) := by
  refine snoc_ind (P := fun B => landL A <+: landL (A ++ B)) (by rw [List.append_nil]; exact List.prefix_refl _) (fun B x ih => ?_) B
  show landL A <+: landL (A ++ (B ++ [x]))
  rw [← List.append_assoc, landL_snoc]
  split
  · exact ih.trans (List.prefix_append _ _)
  · exact ih
theorem landL_at {L : List In} {i : Nat} (h : i < L.length) (h26 : (L[i]'h).op = 26) : ∃ h' : (landL (L.take i)).length < (landL L).length, (landL L)[(landL (L.take i)).length]'h' = (i : Int) + 1 := by
  have e : landL (L.take (i + 1)) = landL (L.take i) ++ [(i : Int) + 1] := by
    rw [List.take_succ_eq_append_getElem h, landL_snoc, if_pos h26, List.length_take, Nat.min_eq_left (by omega)]
  have hp := landL_pre (L.take (i + 1)) (L.drop (i + 1))
  rw [List.take_append_drop, e] at hp
  obtain ⟨r, hr⟩ := hp
  have hl : (landL (L.take i)).length < (landL L).length := by rw [← hr]; simp
  refine ⟨hl, ?_⟩
  have e2 : (landL L)[(landL (L.take i)).length]? = some ((i : Int) + 1) := by rw [← hr]; simp
  rw [List.getElem?_eq_getElem hl] at e2
  exact Option.some.inj e2
/-- A return leads to each landing, and just to these. -/
theorem ret_len {L : List In} {T : List Int} (g : Goes L T) {i : Nat} (hi : i < nB L T) {x : In} (hx : L[lastN L T i]? = some x) (h27 : x.op = 27) : (nextI L T i).length = (landL L).length := by
  have hl : leadsI L T i = landL L := by
    obtain ⟨x', t, hx', _, e⟩ := leads_at g hi
    rw [hx] at hx'
    cases hx'
    rw [e]
    unfold leadsX
    rw [if_neg (by rw [branB_iff]; omega), if_neg (by omega), if_pos h27]
  have e : (nextN L T i).map (fun k => (eN L T k : Int)) = landL L := by
    refine rising_ext ?_ (landL_rising L) (fun k => ?_)
    · refine List.pairwise_map.2 ((List.pairwise_lt_range.filter _).imp_of_mem ?_)
      intro a b ha hb hab
      have h1 := List.mem_range.1 (List.mem_filter.1 hb).1
      have := eN_lt' (L := L) (T := T) hab (by omega)
      omega
    · rw [List.mem_map]
      unfold nextN
      rw [hl]
      constructor
      · rintro ⟨q, hq, rfl⟩
        exact List.contains_iff_mem.1 (List.mem_filter.1 hq).2
      · intro hk
        obtain ⟨q, hq, rfl⟩ := land_place (T := T) hk
        exact ⟨q, List.mem_filter.2 ⟨List.mem_range.2 (by omega), List.contains_iff_mem.2 hk⟩, rfl⟩
  rw [← e, List.length_map]
  unfold nextI
  rw [List.length_map]
end Go.Proofs.YtnfoplefaibmhaaGreatDoor
