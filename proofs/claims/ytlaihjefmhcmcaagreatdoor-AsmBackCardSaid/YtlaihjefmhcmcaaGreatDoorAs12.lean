/- Plain words for AsmBack: a text with blanks, comments and empty lines put in is read as it was. -/
import Derived.Test.YtlaihjefmhcmcaaGreatDoorAs8
namespace Go.Proofs.YtlaihjefmhcmcaaGreatDoor
set_option linter.unusedVariables false
/-- The six ends of a line. -/
def endB (b : Nat) : List UInt8 :=
  match b with
  | 0 => [10]
  | 1 => [32, 10]
  | 2 => [32, 35, 32, 106, 32, 120, 58, 10]
  | 3 => [10, 10]
  | 4 => [35, 10, 9]
  | _ => [9, 9, 10, 32, 32]
def blB (b : Nat) : List UInt8 :=
  match b with
  | 0 => []
  | 1 => [32]
  | 2 => [32]
  | 3 => []
  | 4 => []
  | _ => [9, 9]
def tlB (b : Nat) : List UInt8 :=
  match b with
  | 2 => [35, 32, 106, 32, 120, 58]
  | 4 => [35]
  | _ => []
def exB (b : Nat) : List It := if b = 3 then [⟨[], none⟩] else []
def preB (b : Nat) : List UInt8 :=
  match b with
  | 0 => []
  | 1 => []
  | 2 => []
  | 3 => []
  | 4 => [9]
  | _ => [32, 32]
theorem end_eq (b : Nat) : endB b = blB b ++ tlB b ++ [10] ++ (exB b).flatMap (fun x => x.raw ++ [10]) ++ preB b := by
  match b with
  | 0 => rfl
  | 1 => rfl
  | 2 => rfl
  | 3 => rfl
  | 4 => rfl
  | b + 5 =>
    have : exB (b + 5) = [] := if_neg (by omega)
    rw [this]; rfl
theorem bl_blank (b : Nat) : ∀ c ∈ blB b, blankB c = true := by
  unfold blB
  split <;> decide
theorem pre_bl (b : Nat) : ∀ c ∈ preB b, blankB c = true := by
  unfold preB
  split <;> decide
theorem tl_hash (b : Nat) : tlB b = [] ∨ ∃ r, tlB b = 35 :: r := by
  unfold tlB
  split
  · exact .inr ⟨_, rfl⟩
  · exact .inr ⟨_, rfl⟩
  · exact .inl rfl
theorem tl_no (b : Nat) : ∀ c ∈ tlB b, c ≠ 10 := by
  unfold tlB
  split <;> decide
theorem blank_nl {c : UInt8} (h : blankB c = true) : c ≠ 10 := by
  intro e; rw [e] at h; exact absurd h (by decide)
theorem end_len (b : Nat) : (endB b).length ≤ 8 := by
  unfold endB
  split <;> decide
/-- A text, each line feed of which is one of the six ends. -/
def spreadL (bs : Nat → Nat) : List UInt8 → Nat → List UInt8
  | [], _ => []
  | c :: s, k => if c = 10 then endB (bs k) ++ spreadL bs s (k + 1) else c :: spreadL bs s k
theorem spread_line (bs : Nat → Nat) : ∀ (l : List UInt8), (∀ c ∈ l, c ≠ 10) → ∀ (s : List UInt8) (k : Nat), spreadL bs (l ++ 10 :: s) k = l ++ (endB (bs k) ++ spreadL bs s (k + 1))
  | [], _, s, k => by
    rw [List.nil_append, spreadL, if_pos rfl]; rfl
  | c :: l, h, s, k => by
    rw [List.cons_append, spreadL, if_neg (h c (by simp)), spread_line bs l (fun d hd => h d (List.mem_cons_of_mem _ hd)) s k]; rfl
/-- The lines that come of it. -/
def goI (bs : Nat → Nat) : List It → Nat → List UInt8 → List It
  | [], _, _ => []
  | x :: xs, k, p => ⟨p ++ x.raw ++ blB (bs k) ++ tlB (bs k), x.rd⟩ :: (exB (bs k) ++ goI bs xs (k + 1) (preB (bs k)))
def lastP (bs : Nat → Nat) : List It → Nat → List UInt8 → List UInt8
  | [], _, p => p
  | x :: xs, k, p => lastP bs xs (k + 1) (preB (bs k))
theorem go_txt (bs : Nat → Nat) : ∀ (xs : List It) (k : Nat) (p : List UInt8), (∀ x ∈ xs, ∀ c ∈ x.raw, c ≠ 10) →
    p ++ spreadL bs (xs.flatMap (fun x => x.raw ++ [10])) k = (goI bs xs k p).flatMap (fun x => x.raw ++ [10]) ++ lastP bs xs k p
  | [], k, p, _ => by simp [spreadL, goI, lastP]
  | x :: xs, k, p, h => by
    have e : (x :: xs).flatMap (fun x => x.raw ++ [10]) = x.raw ++ 10 :: xs.flatMap (fun x => x.raw ++ [10]) := by simp
    rw [e, spread_line bs _ (h x (by simp)), end_eq]
    have ih := go_txt bs xs (k + 1) (preB (bs k)) (fun y hy => h y (List.mem_cons_of_mem _ hy))
    unfold goI lastP
    rw [List.flatMap_cons, List.flatMap_append]
    simp only [List.append_assoc] at ih ⊢
    rw [← ih]
theorem lastP_blank (bs : Nat → Nat) : ∀ (xs : List It) (k : Nat) (p : List UInt8), (∀ c ∈ p, blankB c = true) → ∀ c ∈ lastP bs xs k p, blankB c = true
  | [], _, p, h => h
  | x :: xs, k, p, _ => lastP_blank bs xs (k + 1) _ (pre_bl _)
/-- A line with something in it. -/
structure Fine (x : It) : Prop where
  body : ∃ pre core, x.raw = pre ++ core ∧ (∀ c ∈ pre, blankB c = true) ∧ Core core ∧ (∀ raw, bareL raw = core → It.ok ⟨raw, x.rd⟩)
theorem Fine.no {x : It} (h : Fine x) : ∀ c ∈ x.raw, c ≠ 10 := by
  obtain ⟨pre, core, e, h1, h2, _⟩ := h.body
  intro c hc
  rw [e] at hc
  rcases List.mem_append.1 hc with k | k
  · exact blank_nl (h1 c k)
  · exact (okT_no (h2.ok c k)).2.1
theorem arr_fine {a : Ar} (h : arrOk a) : Fine (arrIt a) := by
  obtain ⟨hc, _⟩ := arr_read h
  exact ⟨[], arrLine a, rfl, fun c hc => (by cases hc), hc, fun raw e => ⟨h, e⟩⟩
theorem ln_fine {l : Ln} (h : GoodLn l) : Fine (lnIt l) := by
  obtain ⟨hc, _⟩ := ln_read h
  exact ⟨lnPre l, lnCore l, rfl, pre_blank l, hc, fun raw e => ⟨h, e⟩⟩
theorem go_ok (bs : Nat → Nat) : ∀ (xs : List It) (k : Nat) (p : List UInt8), (∀ x ∈ xs, Fine x) → (∀ c ∈ p, blankB c = true) → ∀ y ∈ goI bs xs k p, y.ok ∧ ∀ c ∈ y.raw, c ≠ 10
  | [], _, _, _, _, y, hy => by cases hy
  | x :: xs, k, p, hx, hp, y, hy => by
    unfold goI at hy
    rcases List.mem_cons.1 hy with rfl | hy
    · obtain ⟨pre, core, e, h1, h2, h3⟩ := (hx x (by simp)).body
      have hpp : ∀ c ∈ p ++ pre, blankB c = true := fun c hc => by
        rcases List.mem_append.1 hc with q | q
        · exact hp c q
        · exact h1 c q
      refine ⟨h3 _ ?_, fun c hc => ?_⟩
      · rw [e, ← List.append_assoc]
        exact bare_mid h2 hpp (bl_blank _) (tl_hash _)
      · have hc : c ∈ p ++ x.raw ++ blB (bs k) ++ tlB (bs k) := hc
        rcases List.mem_append.1 hc with hc | hc
        · rcases List.mem_append.1 hc with hc | hc
          · rcases List.mem_append.1 hc with hc | hc
            · exact blank_nl (hp c hc)
            · exact (hx x (by simp)).no c hc
          · exact blank_nl (bl_blank _ c hc)
        · exact tl_no _ c hc
    · rcases List.mem_append.1 hy with hy | hy
      · unfold exB at hy
        split at hy
        · rw [List.mem_singleton.1 hy]
          exact ⟨rfl, fun c hc => by cases hc⟩
        · cases hy
      · exact go_ok bs xs (k + 1) _ (fun z hz => hx z (List.mem_cons_of_mem _ hz)) (pre_bl _) y hy
theorem ex_none (b : Nat) : (exB b).flatMap itA = [] ∧ (exB b).flatMap itL = [] := by
  unfold exB
  split <;> exact ⟨rfl, rfl⟩
theorem go_items (bs : Nat → Nat) : ∀ (xs : List It) (k : Nat) (p : List UInt8), (goI bs xs k p).flatMap itA = xs.flatMap itA ∧ (goI bs xs k p).flatMap itL = xs.flatMap itL
  | [], _, _ => ⟨rfl, rfl⟩
  | x :: xs, k, p => by
    obtain ⟨h1, h2⟩ := go_items bs xs (k + 1) (preB (bs k))
    obtain ⟨h3, h4⟩ := ex_none (bs k)
    unfold goI
    constructor
    · rw [List.flatMap_cons, List.flatMap_append, List.flatMap_cons, h1, h3]; rfl
    · rw [List.flatMap_cons, List.flatMap_append, List.flatMap_cons, h2, h4]; rfl
/-- Arrays ahead of lines. -/
def OrdI : List It → Prop
  | [] => True
  | x :: r => (itL x ≠ [] → r.flatMap itA = []) ∧ OrdI r
theorem ord_of : ∀ {xs : List It}, (∀ p x q, xs = p ++ x :: q → itL x ≠ [] → q.flatMap itA = []) → OrdI xs
  | [], _ => trivial
  | x :: r, h => ⟨h [] x r rfl, ord_of (fun p y q e => h (x :: p) y q (by rw [e]; rfl))⟩
theorem of_ord : ∀ {xs : List It}, OrdI xs → ∀ p x q, xs = p ++ x :: q → itL x ≠ [] → q.flatMap itA = []
  | [], _, p, x, q, e, _ => by simp at e
  | y :: r, h, [], x, q, e, hx => by
    rw [List.nil_append] at e
    injection e with e1 e2
    subst e1 e2
    exact h.1 hx
  | y :: r, h, z :: p, x, q, e, hx => by
    rw [List.cons_append] at e
    injection e with e1 e2
    exact of_ord h.2 p x q e2 hx
theorem ord_ex (b : Nat) {ys : List It} (h : OrdI ys) : OrdI (exB b ++ ys) := by
  unfold exB
  split
  · exact ⟨fun q => absurd rfl q, h⟩
  · exact h
theorem ord_go (bs : Nat → Nat) : ∀ {xs : List It}, OrdI xs → ∀ (k : Nat) (p : List UInt8), OrdI (goI bs xs k p)
  | [], _, _, _ => trivial
  | x :: xs, h, k, p => by
    unfold goI
    refine ⟨fun q => ?_, ord_ex _ (ord_go bs h.2 _ _)⟩
    rw [List.flatMap_append, (ex_none _).1, (go_items bs xs _ _).1]
    exact h.1 q
theorem ord_last : ∀ {ys : List It}, OrdI ys → ∀ (r : List UInt8), OrdI (ys ++ [⟨r, none⟩])
  | [], _, _ => ⟨fun _ => rfl, trivial⟩
  | y :: ys, h, r => ⟨fun q => (show (ys ++ [(⟨r, none⟩ : It)]).flatMap itA = [] by rw [List.flatMap_append, h.1 q]; rfl), ord_last h.2 r⟩
theorem parse_spread {c : Cd} (h : faultL c = (0, -1)) (hn : ∀ l ∈ c.lines, I64 l.ins.n) (bs : Nat → Nat) : parseL (spreadL bs (cdTxt c) 0) = (c, 0, 0) := by
  obtain ⟨h1, h2, h3, _, h5⟩ := ok_all (c := c) (by rw [h])
  have hL : ∀ l ∈ c.lines, GoodLn l := by
    intro l hl
    obtain ⟨i, hi, rfl⟩ := List.getElem_of_mem hl
    exact good_of (h5 i hi) (hn _ hl)
  have hA := arr_of h2
  have hf : ∀ x ∈ itemsC c.arrays c.lines, Fine x := by
    intro x hx
    unfold itemsC at hx
    rcases List.mem_append.1 hx with hx | hx
    · obtain ⟨a, ha, rfl⟩ := List.mem_map.1 hx
      exact arr_fine (hA a ha)
    · obtain ⟨l, hl, rfl⟩ := List.mem_map.1 hx
      exact ln_fine (hL l hl)
  have e1 : spreadL bs (cdTxt c) 0 = (goI bs (itemsC c.arrays c.lines) 0 []).flatMap (fun x => x.raw ++ [10]) ++ lastP bs (itemsC c.arrays c.lines) 0 [] := by
    rw [← go_txt bs _ 0 [] (fun x hx => (hf x hx).no), items_txt]
    rfl
  have hlb := lastP_blank bs (itemsC c.arrays c.lines) 0 [] (fun c hc => by cases hc)
  have hgo := go_ok bs (itemsC c.arrays c.lines) 0 [] hf (fun c hc => by cases hc)
  rw [e1]
  unfold parseL
  rw [split_items _ _ (fun x hx => (hgo x hx).2), splitNL_none _ (fun d hd => blank_nl (hlb d hd))]
  have e : ∀ (xs : List It) (r : List UInt8), xs.map It.raw ++ [r] = (xs ++ [(⟨r, none⟩ : It)]).map It.raw := fun xs r => by rw [List.map_append]; rfl
  rw [e, run_items]
  · show endPs ⟨[] ++ _, [] ++ _, [] ++ _⟩ = _
    rw [List.nil_append, List.nil_append, List.nil_append, List.flatMap_append, List.flatMap_append, (go_items bs _ _ _).1, (go_items bs _ _ _).2, (items_A _ _).1, (items_A _ _).2]
    show endPs ⟨c.arrays ++ [], c.lines ++ [], _⟩ = _
    rw [List.append_nil, List.append_nil]
    unfold endPs
    show (if (faultL c).2 ≠ -1 then _ else if (faultL c).1 ≠ 0 then _ else _) = _
    rw [h]
    rfl
  · intro x hx
    rcases List.mem_append.1 hx with hx | hx
    · exact (hgo x hx).1
    · rw [List.mem_singleton.1 hx]
      have := bare_none (p := lastP bs (itemsC c.arrays c.lines) 0 []) (tail := []) hlb (.inl rfl)
      rw [List.append_nil] at this
      exact this
  · intro q; exact absurd rfl q
  · exact of_ord (ord_last (ord_go bs (ord_of (items_order c.arrays c.lines)) 0 []) _)
theorem go_len (bs : Nat → Nat) : ∀ (xs : List It) (k : Nat), (∀ x ∈ xs, ∀ c ∈ x.raw, c ≠ 10) → (spreadL bs (xs.flatMap (fun x => x.raw ++ [10])) k).length ≤ (xs.flatMap (fun x => x.raw ++ [10])).length + 7 * xs.length
  | [], _, _ => by simp [spreadL]
  | x :: xs, k, h => by
    have e : (x :: xs).flatMap (fun x => x.raw ++ [10]) = x.raw ++ 10 :: xs.flatMap (fun x => x.raw ++ [10]) := by simp
    have ih := go_len bs xs (k + 1) (fun y hy => h y (List.mem_cons_of_mem _ hy))
    have := end_len (bs k)
    rw [e, spread_line bs _ (h x (by simp)), List.length_append, List.length_append, List.length_append, List.length_cons, List.length_cons]
    omega
theorem spread_len {c : Cd} (h : faultL c = (0, -1)) (hn : ∀ l ∈ c.lines, I64 l.ins.n) (bs : Nat → Nat) : (spreadL bs (cdTxt c) 0).length ≤ (cdTxt c).length + 7 * (c.arrays.length + c.lines.length) := by
  obtain ⟨h1, h2, h3, _, h5⟩ := ok_all (c := c) (by rw [h])
  have hL : ∀ l ∈ c.lines, GoodLn l := by
    intro l hl
    obtain ⟨i, hi, rfl⟩ := List.getElem_of_mem hl
    exact good_of (h5 i hi) (hn _ hl)
  have hi := items_ok (arr_of h2) hL
  have := go_len bs (itemsC c.arrays c.lines) 0 (fun x hx => (hi x hx).2)
  rw [items_txt] at this
  have e : (itemsC c.arrays c.lines).length = c.arrays.length + c.lines.length := by unfold itemsC; rw [List.length_append, List.length_map, List.length_map]
  rw [e] at this
  exact this
end Go.Proofs.YtlaihjefmhcmcaaGreatDoor
