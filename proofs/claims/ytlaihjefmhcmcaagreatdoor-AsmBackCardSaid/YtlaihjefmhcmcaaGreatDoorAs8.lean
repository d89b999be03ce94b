/- Plain words: a text is read line by line. -/
import Derived.Test.YtlaihjefmhcmcaaGreatDoorAs7
import Derived.Test.YtlaihjefmhcmcaaGreatDoorAs6
namespace Go.Proofs.YtlaihjefmhcmcaaGreatDoor
set_option linter.unusedVariables false
/-- A line of a text, and what it is read as. -/
structure It where
  raw : List UInt8
  rd : Option (Ar ⊕ Ln)
def It.ok (x : It) : Prop := match x.rd with
  | none => bareL x.raw = []
  | some (.inl a) => arrOk a ∧ bareL x.raw = arrLine a
  | some (.inr l) => GoodLn l ∧ bareL x.raw = lnCore l
def itA (x : It) : List Ar := match x.rd with
  | some (.inl a) => [a]
  | _ => []
def itL (x : It) : List Ln := match x.rd with
  | some (.inr l) => [l]
  | _ => []
def frs : List It → Nat → List Int
  | [], _ => []
  | x :: r, i => (itL x).map (fun _ => (i : Int) + 1) ++ frs r (i + 1)
theorem core_ne {t : List UInt8} (h : Core t) : t ≠ [] := by
  obtain ⟨x, r, e, _⟩ := h.first
  rw [e]; simp
theorem run_items : ∀ (xs : List It) (i : Nat) (st : Ps), (∀ x ∈ xs, x.ok) → (st.lns ≠ [] → xs.flatMap itA = []) → (∀ p x q, xs = p ++ x :: q → itL x ≠ [] → q.flatMap itA = []) →
    runPs (xs.map It.raw) i st = .inr ⟨st.arrs ++ xs.flatMap itA, st.lns ++ xs.flatMap itL, st.fr ++ frs xs i⟩
  | [], i, st, _, _, _ => by
    cases st
    simp [runPs, frs]
  | x :: xs, i, st, hok, h1, h2 => by
    have hx := hok x (by simp)
    have hr : ∀ y ∈ xs, y.ok := fun y hy => hok y (List.mem_cons_of_mem _ hy)
    have h3 : ∀ p y q, xs = p ++ y :: q → itL y ≠ [] → q.flatMap itA = [] := fun p y q e => h2 (x :: p) y q (by rw [e]; rfl)
    obtain ⟨raw, rd⟩ := x
    rw [List.map_cons, runPs]
    unfold It.ok at hx
    match rd, hx with
    | none, hx =>
      have hx : bareL raw = [] := hx
      have e : stepPs st i (bareL raw) = some st := by unfold stepPs; rw [if_pos hx]
      show (match stepPs st i (bareL raw) with | some s => runPs (xs.map It.raw) (i + 1) s | none => .inl ((i : Int) + 1)) = _
      rw [e]
      show runPs (xs.map It.raw) (i + 1) st = _
      rw [run_items xs (i + 1) st hr (fun h => h1 h) h3]
      rfl
    | some (.inl a), hx =>
      have hx : arrOk a ∧ bareL raw = arrLine a := hx
      obtain ⟨ha, hb⟩ := hx
      obtain ⟨hc, hra⟩ := arr_read ha
      have hl : st.lns = [] := by
        cases hl : st.lns with
        | nil => rfl
        | cons y r =>
          have := h1 (by rw [hl]; simp)
          simp [itA] at this
      have e : stepPs st i (bareL raw) = some { st with arrs := st.arrs ++ [a] } := by
        unfold stepPs
        rw [hb, if_neg (core_ne hc), if_pos hl, hra]
      show (match stepPs st i (bareL raw) with | some s => runPs (xs.map It.raw) (i + 1) s | none => .inl ((i : Int) + 1)) = _
      rw [e]
      show runPs (xs.map It.raw) (i + 1) { st with arrs := st.arrs ++ [a] } = _
      rw [run_items xs (i + 1) { st with arrs := st.arrs ++ [a] } hr (fun h => absurd hl h) h3]
      show Sum.inr (Ps.mk (st.arrs ++ [a] ++ _) _ _) = Sum.inr (Ps.mk (st.arrs ++ ([a] ++ xs.flatMap itA)) _ _)
      rw [List.append_assoc]
      rfl
    | some (.inr l), hx =>
      have hx : GoodLn l ∧ bareL raw = lnCore l := hx
      obtain ⟨hg, hb⟩ := hx
      obtain ⟨hc, hrl, hna⟩ := ln_read hg
      have e : stepPs st i (bareL raw) = some { st with lns := st.lns ++ [l], fr := st.fr ++ [(i : Int) + 1] } := by
        unfold stepPs
        rw [hb, if_neg (core_ne hc)]
        have : (if st.lns = [] then readA (lnCore l) else none) = none := by
          split
          · exact hna
          · rfl
        rw [this]
        show (match readLn (lnCore l) with | some l => _ | none => none) = _
        rw [hrl]
      show (match stepPs st i (bareL raw) with | some s => runPs (xs.map It.raw) (i + 1) s | none => .inl ((i : Int) + 1)) = _
      rw [e]
      show runPs (xs.map It.raw) (i + 1) { st with lns := st.lns ++ [l], fr := st.fr ++ [(i : Int) + 1] } = _
      rw [run_items xs (i + 1) _ hr (fun _ => h2 [] ⟨raw, some (.inr l)⟩ xs rfl (by simp [itL])) h3]
      show Sum.inr (Ps.mk _ (st.lns ++ [l] ++ _) (st.fr ++ [(i : Int) + 1] ++ _)) = Sum.inr (Ps.mk _ (st.lns ++ ([l] ++ xs.flatMap itL)) (st.fr ++ ([(i : Int) + 1] ++ frs xs (i + 1))))
      rw [List.append_assoc, List.append_assoc]
      rfl
theorem split_items : ∀ (xs : List It) (last : List UInt8), (∀ x ∈ xs, ∀ c ∈ x.raw, c ≠ 10) → splitNL (xs.flatMap (fun x => x.raw ++ [10]) ++ last) = xs.map It.raw ++ splitNL last
  | [], last, _ => rfl
  | x :: xs, last, h => by
    rw [List.flatMap_cons, List.append_assoc, List.append_assoc, List.map_cons, List.cons_append]
    show splitNL (x.raw ++ 10 :: (xs.flatMap (fun x => x.raw ++ [10]) ++ last)) = _
    rw [splitNL_cut _ _ (h x (by simp)), split_items xs last (fun y hy => h y (List.mem_cons_of_mem _ hy))]
    rfl
theorem frs_app : ∀ (xs ys : List It) (i : Nat), frs (xs ++ ys) i = frs xs i ++ frs ys (i + xs.length)
  | [], ys, i => rfl
  | x :: xs, ys, i => by
    rw [List.cons_append, frs, frs, frs_app xs ys (i + 1), List.append_assoc, List.length_cons]
    congr 3
    omega
def arrIt (a : Ar) : It := ⟨arrLine a, some (.inl a)⟩
def lnIt (l : Ln) : It := ⟨lnPre l ++ lnCore l, some (.inr l)⟩
theorem frs_arr : ∀ (A : List Ar) (i : Nat), frs (A.map arrIt) i = []
  | [], _ => rfl
  | a :: A, i => by
    show [] ++ frs (A.map arrIt) (i + 1) = _
    rw [frs_arr A (i + 1)]; rfl
theorem frs_ln : ∀ (L : List Ln) (i k : Nat), k < L.length → (frs (L.map lnIt) i).getD k 0 = (i : Int) + k + 1
  | [], _, _, h => by simp at h
  | l :: L, i, 0, _ => by
    show ((i : Int) + 1) = _
    simp
  | l :: L, i, k + 1, h => by
    show (((i : Int) + 1) :: frs (L.map lnIt) (i + 1)).getD (k + 1) 0 = _
    rw [List.getD_cons_succ, frs_ln L (i + 1) k (by simpa using h)]
    omega
theorem frs_len : ∀ (L : List Ln) (i : Nat), (frs (L.map lnIt) i).length = L.length
  | [], _ => rfl
  | l :: L, i => by
    show (((i : Int) + 1) :: frs (L.map lnIt) (i + 1)).length = _
    rw [List.length_cons, frs_len L (i + 1)]; rfl
def itemsC (A : List Ar) (L : List Ln) : List It := A.map arrIt ++ L.map lnIt
theorem items_txt (A : List Ar) (L : List Ln) : (itemsC A L).flatMap (fun x => x.raw ++ [10]) = A.flatMap arrTxt ++ L.flatMap lnTxt := by
  unfold itemsC
  rw [List.flatMap_append, List.flatMap_map, List.flatMap_map]
  have e1 : (fun a : Ar => (arrIt a).raw ++ [10]) = arrTxt := by
    funext a
    show arrLine a ++ [10] = arrTxt a
    unfold arrLine arrTxt
    simp
  have e2 : (fun l : Ln => (lnIt l).raw ++ [10]) = lnTxt := by
    funext l
    show lnPre l ++ lnCore l ++ [10] = lnTxt l
    rw [lnTxt_eq]
  rw [← e1, ← e2]
theorem items_A (A : List Ar) (L : List Ln) : (itemsC A L).flatMap itA = A ∧ (itemsC A L).flatMap itL = L := by
  unfold itemsC
  rw [List.flatMap_append, List.flatMap_append, List.flatMap_map, List.flatMap_map, List.flatMap_map, List.flatMap_map]
  have h1 : ∀ A : List Ar, A.flatMap (fun a => itA (arrIt a)) = A := by
    intro A; induction A with
    | nil => rfl
    | cons a A ih => rw [List.flatMap_cons, ih]; rfl
  have h2 : ∀ L : List Ln, L.flatMap (fun a => itA (lnIt a)) = [] := by
    intro A; induction A with
    | nil => rfl
    | cons a A ih => rw [List.flatMap_cons, ih]; rfl
  have h3 : ∀ A : List Ar, A.flatMap (fun a => itL (arrIt a)) = [] := by
    intro A; induction A with
    | nil => rfl
    | cons a A ih => rw [List.flatMap_cons, ih]; rfl
  have h4 : ∀ A : List Ln, A.flatMap (fun a => itL (lnIt a)) = A := by
    intro A; induction A with
    | nil => rfl
    | cons a A ih => rw [List.flatMap_cons, ih]; rfl
  rw [h1, h2, h3, h4]; simp
theorem pre_blank (l : Ln) : ∀ c ∈ lnPre l, blankB c = true := by
  intro c hc
  unfold lnPre at hc
  split at hc
  · cases hc
  · rw [List.mem_singleton.1 hc]; rfl
theorem arr_it {a : Ar} (h : arrOk a) : (arrIt a).ok ∧ ∀ c ∈ (arrIt a).raw, c ≠ 10 := by
  obtain ⟨hc, _⟩ := arr_read h
  have := bare_mid (p := []) (b := []) (tail := []) hc (by simp) (by simp) (.inl rfl)
  simp at this
  exact ⟨⟨h, this⟩, fun c hc' => (okT_no (hc.ok c hc')).2.1⟩
theorem ln_it {l : Ln} (h : GoodLn l) : (lnIt l).ok ∧ ∀ c ∈ (lnIt l).raw, c ≠ 10 := by
  obtain ⟨hc, _⟩ := ln_read h
  have := bare_mid (p := lnPre l) (b := []) (tail := []) hc (pre_blank l) (by simp) (.inl rfl)
  simp at this
  refine ⟨⟨h, this⟩, fun c hc' => ?_⟩
  rcases List.mem_append.1 hc' with k | k
  · intro e
    have := pre_blank l c k
    rw [e] at this
    exact absurd this (by decide)
  · exact (okT_no (hc.ok c k)).2.1
theorem items_ok {A : List Ar} {L : List Ln} (hA : ∀ a ∈ A, arrOk a) (hL : ∀ l ∈ L, GoodLn l) : ∀ x ∈ itemsC A L, x.ok ∧ ∀ c ∈ x.raw, c ≠ 10 := by
  intro x hx
  unfold itemsC at hx
  rcases List.mem_append.1 hx with hx | hx
  · obtain ⟨a, ha, rfl⟩ := List.mem_map.1 hx
    exact arr_it (hA a ha)
  · obtain ⟨l, hl, rfl⟩ := List.mem_map.1 hx
    exact ln_it (hL l hl)
theorem items_order (A : List Ar) (L : List Ln) : ∀ p x q, itemsC A L = p ++ x :: q → itL x ≠ [] → q.flatMap itA = [] := by
  intro p x q e hx
  have key : ∀ (A : List Ar) (p : List It), A.map arrIt ++ L.map lnIt = p ++ x :: q → q.flatMap itA = [] := by
    intro A
    induction A with
    | nil =>
      intro p e
      have h0 : (L.map lnIt).flatMap itA = [] := (show (itemsC [] L).flatMap itA = [] from (items_A [] L).1)
      have e : L.map lnIt = p ++ x :: q := e
      rw [e, List.flatMap_append, List.flatMap_cons] at h0
      have := (List.append_eq_nil_iff.1 h0).2
      exact (List.append_eq_nil_iff.1 this).2
    | cons a A ih =>
      intro p e
      cases p with
      | nil =>
        rw [List.map_cons, List.cons_append, List.nil_append] at e
        injection e with e1 e2
        rw [← e1] at hx
        exact absurd rfl hx
      | cons y p =>
        rw [List.map_cons, List.cons_append, List.cons_append] at e
        injection e with e1 e2
        exact ih p e2
  exact key A p e
/-- What is printed of arrays and lines is read. -/
theorem run_txt {A : List Ar} {L : List Ln} (hA : ∀ a ∈ A, arrOk a) (hL : ∀ l ∈ L, GoodLn l) : parseL (A.flatMap arrTxt ++ L.flatMap lnTxt) = endPs ⟨A, L, frs (itemsC A L) 0⟩ := by
  have hi := items_ok hA hL
  unfold parseL
  rw [← items_txt, ← List.append_nil ((itemsC A L).flatMap _), split_items _ _ (fun x hx => (hi x hx).2)]
  have e : ∀ (xs : List It), xs.map It.raw ++ splitNL [] = (xs ++ [(⟨[], none⟩ : It)]).map It.raw := fun xs => by rw [List.map_append]; rfl
  rw [e, run_items]
  · show endPs ⟨[] ++ _, [] ++ _, [] ++ _⟩ = _
    rw [List.nil_append, List.nil_append, List.nil_append, List.flatMap_append, List.flatMap_append, (items_A A L).1, (items_A A L).2, frs_app]
    show endPs ⟨A ++ [], L ++ [], frs (itemsC A L) 0 ++ []⟩ = _
    rw [List.append_nil, List.append_nil, List.append_nil]
  · intro x hx
    rcases List.mem_append.1 hx with hx | hx
    · exact (hi x hx).1
    · rw [List.mem_singleton.1 hx]; rfl
  · intro h; exact absurd rfl h
  · intro p x q e hx
    rcases List.eq_nil_or_concat q with rfl | ⟨q', z, rfl⟩
    · rfl
    · have e2 : itemsC A L ++ [(⟨[], none⟩ : It)] = (p ++ x :: q') ++ [z] := by rw [e]; simp
      have e3 := (List.append_inj' e2 rfl)
      have hz : z = ⟨[], none⟩ := by have := e3.2; injection this with h _; exact h.symm
      rw [List.concat_eq_append, List.flatMap_append, items_order A L p x q' e3.1 hx, hz]; rfl
theorem good_of {c : Cd} {i : Nat} {l : Ln} (h : lineE c i l = 0) (hn : I64 l.ins.n) : GoodLn l := by
  have := ok_line h
  exact ⟨fun e => ⟨(this.1 e).1, (this.1 e).2.1⟩, fun e => ⟨(this.2 e).1, hn⟩⟩
theorem arr_of {A : List Ar} (h : A.any badArr = false) : ∀ a ∈ A, arrOk a := by
  intro a ha
  have : badArr a = false := by
    cases k : badArr a
    · rfl
    · have : A.any badArr = true := List.any_eq_true.2 ⟨a, ha, k⟩
      rw [h] at this; cases this
  unfold badArr at this
  simp at this
  exact ⟨this.1, by omega, by omega⟩
theorem parse_cd {c : Cd} (h : faultL c = (0, -1)) (hn : ∀ l ∈ c.lines, I64 l.ins.n) : parseL (cdTxt c) = (c, 0, 0) := by
  obtain ⟨h1, h2, h3, _, h5⟩ := ok_all (c := c) (by rw [h])
  have hL : ∀ l ∈ c.lines, GoodLn l := by
    intro l hl
    obtain ⟨i, hi, rfl⟩ := List.getElem_of_mem hl
    exact good_of (h5 i hi) (hn _ hl)
  unfold cdTxt
  rw [run_txt (arr_of h2) hL]
  unfold endPs
  have : (⟨c.lines, c.arrays⟩ : Cd) = c := rfl
  show (if (faultL c).2 ≠ -1 then _ else if (faultL c).1 ≠ 0 then _ else _) = _
  rw [h]
  rfl
/-- A label twice. -/
theorem twice_fault {c : Cd} (h : faultL c = (0, -1)) (hl : c.lines.length ≤ 30000) {n : List UInt8} (hn : labelB n = true) (hh : hasLab c.lines n = true) : faultL ⟨c.lines ++ [⟨n, zeroI⟩], c.arrays⟩ = (61, (c.lines.length : Int)) := by
  have e : insL c c.lines.length ⟨n, zeroI⟩ = ⟨c.lines ++ [⟨n, zeroI⟩], c.arrays⟩ := by unfold insL; simp
  rw [← e]
  refine insL_fault h hl _ (Nat.le_refl _) _ 61 (by decide) ?_
  rw [e]
  unfold lineE
  rw [if_pos (lab_ne hn), if_neg (by simp [hn]), if_pos]
  show hasLab ((c.lines ++ [(⟨n, zeroI⟩ : Ln)]).take c.lines.length) n = true
  rw [List.take_left]
  exact hh
theorem parse_twice {c : Cd} (h : faultL c = (0, -1)) (hl : c.lines.length ≤ 30000) (hn : ∀ l ∈ c.lines, I64 l.ins.n) {n : List UInt8} (hb : labelB n = true) (hh : hasLab c.lines n = true) :
    parseL (cdTxt c ++ (n ++ [58, 10])) = (⟨[], []⟩, 61, (c.arrays.length : Int) + c.lines.length + 1) := by
  obtain ⟨h1, h2, h3, _, h5⟩ := ok_all (c := c) (by rw [h])
  have hL : ∀ l ∈ c.lines ++ [(⟨n, zeroI⟩ : Ln)], GoodLn l := by
    intro l hl
    rcases List.mem_append.1 hl with hl | hl
    · obtain ⟨i, hi, rfl⟩ := List.getElem_of_mem hl
      exact good_of (h5 i hi) (hn _ hl)
    · rw [List.mem_singleton.1 hl]
      exact ⟨fun _ => ⟨hb, rfl⟩, fun e => absurd e (lab_ne hb)⟩
  have e : cdTxt c ++ (n ++ [58, 10]) = c.arrays.flatMap arrTxt ++ (c.lines ++ [(⟨n, zeroI⟩ : Ln)]).flatMap lnTxt := by
    unfold cdTxt
    rw [List.flatMap_append, List.append_assoc]
    congr 2
    show _ = lnTxt ⟨n, zeroI⟩ ++ []
    unfold lnTxt
    rw [if_pos (lab_ne hb), List.append_nil]
  rw [e, run_txt (arr_of h2) hL]
  unfold endPs
  show (if (faultL (⟨c.lines ++ [(⟨n, zeroI⟩ : Ln)], c.arrays⟩ : Cd)).2 ≠ -1 then _ else _) = _
  rw [twice_fault h hl hb hh, if_pos (by show (c.lines.length : Int) ≠ -1; omega)]
  show ((⟨[], []⟩ : Cd), (61 : Int), (frs (itemsC c.arrays (c.lines ++ [(⟨n, zeroI⟩ : Ln)])) 0).getD ((c.lines.length : Int)).toNat 0) = _
  unfold itemsC
  rw [frs_app, frs_arr, List.nil_append, Int.toNat_natCast, frs_ln _ _ _ (by simp), List.length_map]
  simp
end Go.Proofs.YtlaihjefmhcmcaaGreatDoor
