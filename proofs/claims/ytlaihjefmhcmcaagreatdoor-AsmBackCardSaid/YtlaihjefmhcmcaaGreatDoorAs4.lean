/- Plain words: code that the law makes of raw lines; it may be. -/
import Derived.Test.YtlaihjefmhcmcaaGreatDoorAs3
import Derived.Test.YtlaihjefmhcmcaaGreatDoorInJ
namespace Go.Proofs.YtlaihjefmhcmcaaGreatDoor
set_option linter.unusedVariables false
def mainS : List UInt8 := [109, 97, 105, 110]
def arrsAB : List Ar := [⟨[97], 4⟩, ⟨[98], 10⟩]
def rawName (r : Ln) : List UInt8 := nameL (pickN r.ins.n 40).toNat
def fitStep (st : List (List UInt8) × List Ln) (r : Ln) : List (List UInt8) × List Ln :=
  if r.label.length % 3 = 1 then (if st.1.contains (rawName r) then st else (st.1 ++ [rawName r], st.2 ++ [⟨rawName r, zeroI⟩])) else (st.1, st.2 ++ [⟨[], fitL r.ins⟩])
def fit1 (raw : List Ln) (k : Nat) : List (List UInt8) × List Ln := (raw.take k).foldl fitStep ([], [])
def fit2 (st : List (List UInt8) × List Ln) : List (List UInt8) × List Ln := if st.1 = [] then ([mainS], st.2 ++ [⟨mainS, zeroI⟩]) else st
def fixI (names : List (List UInt8)) (i : Nat) (x : In) : In :=
  if x.op = 17 then { x with name := if x.name.length % 2 = 0 then [97] else [98] } else if x.name = [] then x else { x with name := names.getD ((x.name.length + i) % names.length) [] }
def fixL (names : List (List UInt8)) (i : Nat) (l : Ln) : Ln := { l with ins := fixI names i l.ins }
def fitC (raw : List Ln) : Cd := ⟨(fit2 (fit1 raw 40)).2.mapIdx (fixL (fit2 (fit1 raw 40)).1), arrsAB⟩
def AllRaw (raw : List Ln) : Prop := ∀ r ∈ raw, AllI r.ins
theorem rawName_lab (r : Ln) : labelB (rawName r) = true := by
  refine name_lab _ ?_
  have a := pickN_lo r.ins.n 40 (by decide)
  have b := pickN_hi r.ins.n 40 (by decide)
  omega
theorem lab_ne {l : List UInt8} (h : labelB l = true) : l ≠ [] := by
  intro e; rw [e] at h; exact absurd h (by decide)
/-- Lines that may stand together, but for what instructions name. -/
structure Good (names : List (List UInt8)) (L : List Ln) : Prop where
  lab : ∀ s ∈ names, labelB s = true
  has : ∀ n, n ≠ [] → hasLab L n = names.contains n
  ins : ∀ l ∈ L, (l.label ≠ [] → labelB l.label = true ∧ l.ins = zeroI) ∧ (l.label = [] → rightB l.ins = true ∧ I64 l.ins.n)
  once : OnceL L
theorem once_snoc {A : List Ln} {l : Ln} (h : OnceL A) (hl : l.label ≠ [] → hasLab A l.label = false) : OnceL (A ++ [l]) := by
  intro i hi hn
  rcases Nat.lt_or_ge i A.length with k | k
  · rw [List.getElem_append_left k] at hn ⊢
    rw [List.take_append_of_le_length (by omega)]
    exact h i k hn
  · obtain rfl : i = A.length := by simp at hi; omega
    rw [List.getElem_append_right (Nat.le_refl _)] at hn ⊢
    rw [List.take_left' rfl]
    simp at hn ⊢
    exact hl hn
theorem once_nil : OnceL [] := fun i h => by cases h
theorem good_nil : Good [] [] := Good.mk (fun s h => by cases h) (fun n _ => rfl) (fun l h => by cases h) once_nil
theorem good_label {names : List (List UInt8)} {L : List Ln} (h : Good names L) {s : List UInt8} (hs : labelB s = true) (hc : names.contains s = false) : Good (names ++ [s]) (L ++ [⟨s, zeroI⟩]) := by
  refine ⟨fun x hx => ?_, fun n hn => ?_, fun l hl => ?_, once_snoc h.once (fun hn => ?_)⟩
  · rcases List.mem_append.1 hx with hx | hx
    · exact h.lab x hx
    · rw [List.mem_singleton.1 hx]; exact hs
  · rw [hasLab_app, h.has n hn, hasLab_one]
    have : (names ++ [s]).contains n = (names.contains n || decide (s = n)) := by
      rw [Bool.eq_iff_iff, List.contains_iff_mem, List.mem_append, Bool.or_eq_true, List.contains_iff_mem, decide_eq_true_iff, List.mem_singleton, eq_comm (a := n)]
    rw [this]
  · rcases List.mem_append.1 hl with hl | hl
    · exact h.ins l hl
    · rw [List.mem_singleton.1 hl]
      exact ⟨fun _ => ⟨hs, rfl⟩, fun e => absurd e (lab_ne hs)⟩
  · rw [h.has _ hn]; exact hc
theorem good_ins {names : List (List UInt8)} {L : List Ln} (h : Good names L) {x : In} (hx : rightB x = true) (hn : I64 x.n) : Good names (L ++ [⟨[], x⟩]) := by
  refine ⟨h.lab, fun n hn => ?_, fun l hl => ?_, once_snoc h.once (fun hn => absurd rfl hn)⟩
  · rw [hasLab_app, h.has n hn, hasLab_one]
    have : decide (([] : List UInt8) = n) = false := decide_eq_false (fun e => hn e.symm)
    show (names.contains n || decide (([] : List UInt8) = n)) = _
    rw [this, Bool.or_false]
  · rcases List.mem_append.1 hl with hl | hl
    · exact h.ins l hl
    · rw [List.mem_singleton.1 hl]
      exact ⟨fun e => absurd rfl e, fun _ => ⟨hx, hn⟩⟩
theorem fit1_good (raw : List Ln) (hr : AllRaw raw) : ∀ k, k ≤ raw.length → Good (fit1 raw k).1 (fit1 raw k).2 ∧ (fit1 raw k).2.length ≤ k ∧ (fit1 raw k).1.length ≤ (fit1 raw k).2.length
  | 0, _ => ⟨good_nil, Nat.le_refl _, Nat.le_refl _⟩
  | k + 1, hk => by
    obtain ⟨ih, ih2, ih3⟩ := fit1_good raw hr k (by omega)
    have e : fit1 raw (k + 1) = fitStep (fit1 raw k) (raw[k]'(by omega)) := by
      unfold fit1
      rw [List.take_succ_eq_append_getElem (by omega), List.foldl_append]; rfl
    rw [e]
    unfold fitStep
    split
    · split
      · exact ⟨ih, by omega, ih3⟩
      · rename_i hc
        exact ⟨good_label ih (rawName_lab _) (by simpa using hc), by simp; omega, by simp; omega⟩
    · have hx := hr _ (List.getElem_mem (show k < raw.length by omega))
      obtain ⟨h1, h2⟩ := fit_right (raw[k]'(by omega)).ins hx.2.2.2.2
      exact ⟨good_ins ih h1 h2, by simp; omega, by simp; omega⟩
theorem fit1_min (raw : List Ln) : fit1 raw 40 = fit1 raw (min 40 raw.length) := by
  unfold fit1
  rw [← List.take_eq_take_min]
theorem fit2_good (raw : List Ln) (hr : AllRaw raw) : Good (fit2 (fit1 raw 40)).1 (fit2 (fit1 raw 40)).2 ∧ (fit2 (fit1 raw 40)).2.length ≤ 41 ∧ (fit2 (fit1 raw 40)).1 ≠ [] ∧ (fit2 (fit1 raw 40)).1.length ≤ 41 := by
  rw [fit1_min]
  obtain ⟨h1, h2, h3⟩ := fit1_good raw hr (min 40 raw.length) (Nat.min_le_right _ _)
  generalize fit1 raw (min 40 raw.length) = st at *
  unfold fit2
  split
  · rename_i e
    rw [e] at h1 h3
    have := good_label h1 (s := mainS) (by decide) rfl
    exact ⟨this, by simp; omega, by simp, by simp⟩
  · rename_i e
    exact ⟨h1, by omega, e, by omega⟩
theorem lab_of_name {x : In} (h : rightB x = true) (hn : x.name ≠ []) : (hasL x.op).contains 76 = true := by
  rw [right_eq] at h
  unfold rightE at h
  cases k : (hasL x.op).contains 76
  · rw [k] at h
    simp only [Bool.and_eq_true] at h
    have := h.2
    simp at this
    exact absurd this hn
  · rfl
theorem right_name {x : In} (h : rightB x = true) (hc : (hasL x.op).contains 76 = true) {n : List UInt8} (hn : labelB n = true) : rightB { x with name := n } = true := by
  rw [right_eq] at h ⊢
  unfold rightE at h ⊢
  rw [hc] at h
  simp only at h ⊢
  rw [hc]
  simp only [Bool.and_eq_true] at h ⊢
  exact ⟨h.1, by simpa using hn⟩
theorem has17 : (hasL 17).contains 76 = true := by kernel_rfl
theorem getD_mem {l : List (List UInt8)} {i : Nat} (h : i < l.length) : l.getD i [] ∈ l := by
  rw [List.getD_eq_getElem?_getD, List.getElem?_eq_getElem h]
  exact List.getElem_mem h
theorem fixI_ok {names : List (List UInt8)} (hl : ∀ s ∈ names, labelB s = true) (hne : names ≠ []) (i : Nat) {x : In} (h : rightB x = true) (hn : I64 x.n) :
    rightB (fixI names i x) = true ∧ I64 (fixI names i x).n ∧ ((fixI names i x).op = x.op) ∧ ((fixI names i x).name ≠ [] → if (fixI names i x).op = 17 then hasArr arrsAB (fixI names i x).name = true else (fixI names i x).name ∈ names) := by
  have hpos : 0 < names.length := by cases names with
    | nil => exact absurd rfl hne
    | cons => simp
  unfold fixI
  by_cases h17 : x.op = 17
  · rw [if_pos h17]
    refine ⟨right_name h (by rw [h17]; exact has17) (by split <;> decide), hn, rfl, fun _ => ?_⟩
    show if x.op = 17 then _ else _
    rw [if_pos h17]
    show hasArr arrsAB (if x.name.length % 2 = 0 then [97] else [98]) = true
    split <;> decide
  · rw [if_neg h17]
    by_cases he : x.name = []
    · rw [if_pos he]
      exact ⟨h, hn, rfl, fun k => absurd he k⟩
    · rw [if_neg he]
      have hm := getD_mem (l := names) (i := (x.name.length + i) % names.length) (Nat.mod_lt _ hpos)
      refine ⟨right_name h (lab_of_name h he) (hl _ hm), hn, rfl, fun _ => ?_⟩
      show if x.op = 17 then _ else _
      rw [if_neg h17]
      exact hm
theorem fixI_zero (names : List (List UInt8)) (i : Nat) : fixI names i zeroI = zeroI := by
  unfold fixI; rw [if_neg (by decide), if_pos (show zeroI.name = [] from rfl)]
theorem labs_fix (names : List (List UInt8)) (L : List Ln) : (L.mapIdx (fixL names)).map (·.label) = L.map (·.label) := by
  apply List.ext_getElem
  · simp
  · intro i h1 h2
    simp [fixL]
theorem hasLab_labs {L M : List Ln} (h : L.map (·.label) = M.map (·.label)) (n : List UInt8) : hasLab L n = hasLab M n := by
  have : ∀ L : List Ln, hasLab L n = (L.map (·.label)).any (fun s => decide (s = n)) := fun L => by unfold hasLab; rw [List.any_map]; rfl
  rw [this, this, h]
theorem once_labs {L M : List Ln} (h : L.map (·.label) = M.map (·.label)) (hM : OnceL M) : OnceL L := by
  intro i hi hn
  have hlen : L.length = M.length := by have := congrArg List.length h; simpa using this
  have hi' : i < M.length := by omega
  have e : (L[i]'hi).label = (M[i]'hi').label := by
    have a : (L.map (·.label))[i]? = (M.map (·.label))[i]? := by rw [h]
    simp [hi, hi'] at a
    exact a
  rw [e] at hn ⊢
  rw [hasLab_labs (M := M.take i) (by rw [List.map_take, List.map_take, h])]
  exact hM i hi' hn
theorem linesE_ok (c : Cd) : ∀ (L : List Ln) (k : Nat), (∀ j (h : j < L.length), lineE c (k + j) (L[j]'h) = 0) → linesE c L k = (0, -1)
  | [], _, _ => rfl
  | l :: L, k, h => by
    have h0 := h 0 (by simp)
    unfold linesE
    rw [if_neg (by simpa using h0)]
    exact linesE_ok c L (k + 1) (fun j hj => by have := h (j + 1) (by simpa using hj); rw [← Nat.add_assoc, Nat.add_right_comm] at this; simpa using this)
theorem lineE_ok {c : Cd} {i : Nat} {l : Ln} (h1 : l.label ≠ [] → labelB l.label = true ∧ l.ins = zeroI ∧ hasLab (c.lines.take i) l.label = false)
    (h2 : l.label = [] → rightB l.ins = true ∧ (l.ins.name ≠ [] → (if l.ins.op = 17 then hasArr c.arrays l.ins.name else hasLab c.lines l.ins.name) = true)) : lineE c i l = 0 := by
  unfold lineE
  by_cases e : l.label = []
  · obtain ⟨a, b⟩ := h2 e
    rw [if_neg (by simp [e]), if_neg (by rw [a]; simp), if_neg]
    rintro ⟨k1, k2⟩
    rw [b k1] at k2
    cases k2
  · obtain ⟨a, b, d⟩ := h1 e
    rw [if_pos e, if_neg (by rw [a, b]; simp), if_neg (by rw [d]; simp)]
theorem fault_ok {c : Cd} (h0 : c.lines.length ≤ 40000) (h1 : c.arrays.any badArr = false) (h2 : arrsE c.arrays [] = false) (h : ∀ j (h : j < c.lines.length), lineE c j (c.lines[j]'h) = 0) : faultL c = (0, -1) := by
  rw [faultL_lines c (by omega) h1 h2]
  exact linesE_ok c c.lines 0 (fun j hj => by rw [Nat.zero_add]; exact h j hj)
theorem ab_ok : arrsAB.any badArr = false ∧ arrsE arrsAB [] = false := ⟨by decide, by decide⟩
/-- Code that the law makes: what is known of its lines. -/
theorem fitC_lines (raw : List Ln) (hr : AllRaw raw) : ∀ i (h : i < (fitC raw).lines.length), lineE (fitC raw) i ((fitC raw).lines[i]'h) = 0 ∧ I64 ((fitC raw).lines[i]'h).ins.n := by
  obtain ⟨hg, hlen, hne, _⟩ := fit2_good raw hr
  intro i h
  have hlab : (fitC raw).lines.map (·.label) = (fit2 (fit1 raw 40)).2.map (·.label) := labs_fix _ _
  have ho := once_labs hlab hg.once
  have hi : i < (fit2 (fit1 raw 40)).2.length := by have := h; unfold fitC at this; simpa using this
  have e : (fitC raw).lines[i]'h = fixL (fit2 (fit1 raw 40)).1 i ((fit2 (fit1 raw 40)).2[i]'hi) := List.getElem_mapIdx
  have hins := hg.ins _ (List.getElem_mem hi)
  have hon := ho i h
  rw [e] at hon ⊢
  generalize (fit2 (fit1 raw 40)).2[i]'hi = l at *
  by_cases hl : l.label = []
  · obtain ⟨k1, k2⟩ := hins.2 hl
    obtain ⟨f1, f2, f3, f4⟩ := fixI_ok hg.lab hne i k1 k2
    refine ⟨lineE_ok (fun k => absurd hl k) (fun _ => ⟨f1, fun hn0 => ?_⟩), f2⟩
    have hn : (fixI (fit2 (fit1 raw 40)).1 i l.ins).name ≠ [] := hn0
    have := f4 hn
    show (if (fixI _ i l.ins).op = 17 then hasArr arrsAB (fixI _ i l.ins).name else hasLab (fitC raw).lines (fixI _ i l.ins).name) = true
    split at this
    · rename_i q; rw [if_pos q]; exact this
    · rename_i q
      rw [if_neg q, hasLab_labs hlab, hg.has _ hn]
      simpa using this
  · obtain ⟨k1, k2⟩ := hins.1 hl
    have e2 : fixL (fit2 (fit1 raw 40)).1 i l = l := by
      unfold fixL; rw [k2, fixI_zero, ← k2]
    rw [e2] at hon ⊢
    exact ⟨lineE_ok (fun _ => ⟨k1, k2, hon hl⟩) (fun k => absurd k hl), by rw [k2]; exact ⟨by decide, by decide⟩⟩
theorem fitC_len (raw : List Ln) (hr : AllRaw raw) : (fitC raw).lines.length ≤ 41 := by
  have := (fit2_good raw hr).2.1
  unfold fitC
  simpa using this
theorem fitC_ok (raw : List Ln) (hr : AllRaw raw) : faultL (fitC raw) = (0, -1) :=
  fault_ok (by have := fitC_len raw hr; omega) ab_ok.1 ab_ok.2 (fun j h => (fitC_lines raw hr j h).1)
end Go.Proofs.YtlaihjefmhcmcaaGreatDoor
