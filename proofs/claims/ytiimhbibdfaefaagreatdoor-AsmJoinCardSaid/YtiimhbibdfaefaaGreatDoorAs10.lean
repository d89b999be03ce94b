/- Plain words for AsmJoin: lines ahead of and behind fine code. -/
import Derived.Test.YtiimhbibdfaefaaGreatDoorAs9
namespace Go.Proofs.YtiimhbibdfaefaaGreatDoor
set_option linter.unusedVariables false
def firS : List UInt8 := [102, 105, 114, 115, 116, 46, 111, 102, 46, 97, 108, 108]
def lasS : List UInt8 := [108, 97, 115, 116, 46, 111, 102, 46, 97, 108, 108]
def mvI (d : Int) (i : Nat) : In := ⟨15, d, (i : Int), 0, 0, []⟩
def mvs (d : Int) (j : Nat) : List Ln := (List.range j).map fun i => ⟨[], mvI d i⟩
def joinL (c : Cd) (d : Int) (j : Nat) : Cd := ⟨(⟨firS, zeroI⟩ :: c.lines ++ [⟨lasS, zeroI⟩]) ++ mvs d j, c.arrays⟩
theorem mvs_succ (d : Int) (j : Nat) : mvs d (j + 1) = mvs d j ++ [⟨[], mvI d j⟩] := by
  unfold mvs
  rw [List.range_succ, List.map_append]; rfl
theorem flatI_two (A B : List Ln) : flatI (A ++ B) = flatI A ++ flatI B := by unfold flatI; rw [List.filter_append, List.map_append]
theorem flat_mvs (d : Int) (j : Nat) : flatI (mvs d j) = (List.range j).map (mvI d) := by
  induction j with
  | zero => rfl
  | succ j ih => rw [mvs_succ, flatI_two, ih, List.range_succ, List.map_append]; rfl
theorem flat_join (c : Cd) (d : Int) (j : Nat) : flatI (joinL c d j).lines = flatI c.lines ++ (List.range j).map (mvI d) := by
  show flatI (([⟨firS, zeroI⟩] ++ c.lines ++ [⟨lasS, zeroI⟩]) ++ mvs d j) = _
  rw [flatI_two, flatI_two, flatI_two, flat_mvs]
  have h1 : flatI [(⟨firS, zeroI⟩ : Ln)] = [] := rfl
  have h2 : flatI [(⟨lasS, zeroI⟩ : Ln)] = [] := rfl
  rw [h1, h2]; simp
/-- Where an instruction leads to does not change. -/
theorem to_join {c : Cd} (d : Int) (j : Nat) {x : In} (hf : x.name ≠ firS) (h : x.name ≠ [] → x.op ≠ 17 → hasLab c.lines x.name = true) : toL (joinL c d j) x = toL c x := by
  unfold toL
  by_cases e : x.name = [] ∨ x.op = 17
  · rw [if_pos e, if_pos e]
  · rw [if_neg e, if_neg e]
    have hh := h (fun k => e (.inl k)) (fun k => e (.inr k))
    have e1 : (joinL c d j).lines = (⟨firS, zeroI⟩ : Ln) :: (c.lines ++ ([⟨lasS, zeroI⟩] ++ mvs d j)) := by unfold joinL; simp
    have e2 : aheadL ((⟨firS, zeroI⟩ : Ln) :: (c.lines ++ ([⟨lasS, zeroI⟩] ++ mvs d j))) x.name = aheadL (c.lines ++ ([⟨lasS, zeroI⟩] ++ mvs d j)) x.name := by
      have hne : ¬ firS = x.name := fun k => hf k.symm
      have hfn : ¬ firS = [] := by decide
      unfold aheadL
      rw [List.takeWhile_cons]
      simp [hne, hfn]
    rw [e1, e2, ahead_in _ _ _ hh]
theorem to_mv (c : Cd) (d : Int) (j i : Nat) : toL (joinL c d j) (mvI d i) = -1 := by
  unfold toL
  rw [if_pos (.inl rfl)]
theorem fitC_no (raw : List Ln) (hr : AllRaw raw) {s : List UInt8} (hs : s ≠ []) (hm : s ≠ mainS) (hq : ∀ q : Fin 40, nameL q.val ≠ s) : hasLab (fitC raw).lines s = false := by
  have hlab : (fitC raw).lines.map (·.label) = (fit2 (fit1 raw 40)).2.map (·.label) := labs_fix _ _
  rw [hasLab_labs hlab, (fit2_good raw hr).1.has _ hs]
  rw [← Bool.not_eq_true, List.contains_iff_mem]
  intro h
  unfold fit2 at h
  split at h
  · exact hm (List.mem_singleton.1 h)
  · obtain ⟨q, hq2, e⟩ := names_of (names := []) 40 _ h
    exact hq ⟨q, hq2⟩ e.symm
theorem fir_no : ∀ q : Fin 40, nameL q.val ≠ firS := by decide +kernel
theorem las_no : ∀ q : Fin 40, nameL q.val ≠ lasS := by decide +kernel
theorem once_cons {a : Ln} {L : List Ln} (h : OnceL L) (ha : hasLab L a.label = false) : OnceL (a :: L) := by
  intro i hi hn
  cases i with
  | zero => rfl
  | succ i =>
    have hi' : i < L.length := by simpa using hi
    have hn' : (L[i]'hi').label ≠ [] := hn
    show hasLab (a :: L.take i) (L[i]'hi').label = false
    have h1 := h i hi' hn'
    have h2 : ¬ a.label = (L[i]'hi').label := by
      intro e
      rw [e, get_has hi'] at ha
      cases ha
    unfold hasLab at h1 ⊢
    rw [List.any_cons, decide_eq_false h2, Bool.false_or]
    exact h1
theorem mv_right : ∀ (d : Fin 32) (i : Fin 5), rightB (mvI (d.val : Int) i.val) = true := by decide +kernel
theorem once_mvs {L : List Ln} (h : OnceL L) (d : Int) : ∀ j, OnceL (L ++ mvs d j)
  | 0 => by simpa [mvs] using h
  | j + 1 => by
    rw [mvs_succ, ← List.append_assoc]
    exact once_snoc (once_mvs h d j) (fun hn => absurd rfl hn)
/-- It may be. -/
theorem join_ok {c : Cd} (h : faultL c = (0, -1)) (hl : c.lines.length ≤ 41) (hf : hasLab c.lines firS = false) (hs : hasLab c.lines lasS = false) (d : Fin 32) (j : Nat) (hj : j ≤ 5) : faultL (joinL c (d.val : Int) j) = (0, -1) := by
  obtain ⟨h1, h2, h3, _, h5⟩ := ok_all (c := c) (by rw [h])
  have ho : OnceL c.lines := fun i hi hn => ((ok_line (h5 i hi)).1 hn).2.2
  have ho2 : OnceL (joinL c (d.val : Int) j).lines := by
    refine once_mvs (once_snoc (once_cons ho hf) (fun _ => ?_)) _ j
    show hasLab ([⟨firS, zeroI⟩] ++ c.lines) lasS = false
    rw [hasLab_app, hs]; decide
  refine fault_ok ?_ h2 h3 (fun i hi => ?_)
  · unfold joinL mvs; simp; omega
  have hm := List.getElem_mem hi
  have hoi := ho2 i hi
  have hsub : ∀ n, hasLab c.lines n = true → hasLab (joinL c (d.val : Int) j).lines n = true := by
    intro n hn
    show hasLab (([⟨firS, zeroI⟩] ++ c.lines ++ [⟨lasS, zeroI⟩]) ++ mvs _ j) n = true
    rw [hasLab_app, hasLab_app, hasLab_app, hn]; simp
  generalize (joinL c (d.val : Int) j).lines[i]'hi = l at *
  have hm : l ∈ ([⟨firS, zeroI⟩] ++ c.lines ++ [⟨lasS, zeroI⟩]) ++ mvs (d.val : Int) j := hm
  rcases List.mem_append.1 hm with hm | hm
  · rcases List.mem_append.1 hm with hm | hm
    · rcases List.mem_append.1 hm with hm | hm
      · rw [List.mem_singleton.1 hm] at hoi ⊢
        exact lineE_ok (fun hn => ⟨by decide, rfl, hoi hn⟩) (fun hn => absurd hn (by decide))
      · obtain ⟨k, hk, rfl⟩ := List.getElem_of_mem hm
        have h0 := ok_line (h5 k hk)
        refine lineE_ok (fun e => ⟨(h0.1 e).1, (h0.1 e).2.1, hoi e⟩) (fun e => ⟨(h0.2 e).1, fun hn => ?_⟩)
        have := (h0.2 e).2 hn
        split at this
        · rename_i q; rw [if_pos q]; exact this
        · rename_i q; rw [if_neg q]; exact hsub _ this
    · rw [List.mem_singleton.1 hm] at hoi ⊢
      exact lineE_ok (fun hn => ⟨by decide, rfl, hoi hn⟩) (fun hn => absurd hn (by decide))
  · unfold mvs at hm
    obtain ⟨k, hk, rfl⟩ := List.mem_map.1 hm
    have hk5 : k < 5 := by have := List.mem_range.1 hk; omega
    exact lineE_ok (fun hn => absurd rfl hn) (fun _ => ⟨mv_right d ⟨k, hk5⟩, fun hn => absurd rfl hn⟩)
end Go.Proofs.YtiimhbibdfaefaaGreatDoor
