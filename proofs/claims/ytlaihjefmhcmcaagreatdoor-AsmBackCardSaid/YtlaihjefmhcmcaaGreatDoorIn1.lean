/- Plain words: what is written is read back; unlike right instructions have unlike texts. -/
import Derived.Test.YtlaihjefmhcmcaaGreatDoorIn0
import Derived.Lib.IndexMore
import Derived.KernelRfl
namespace Go.Proofs.YtlaihjefmhcmcaaGreatDoor
def hasAll : List (List UInt8) := [sDAB, sDA, sABL, [68, 44, 32, 78], [68, 44, 32, 76], [68, 44, 32, 65, 44, 32, 83], [68, 44, 32, 83, 40, 65, 41], [66, 44, 32, 83, 40, 65, 41], [76], []]
theorem op_nat {op : Int} (h : isOp op = true) : ∃ k : Fin 28, op = (k.val : Int) + 1 := by
  have := of_decide_eq_true h
  exact ⟨⟨(op - 1).toNat, by omega⟩, by show op = ((op - 1).toNat : Int) + 1; omega⟩
theorem has_fin : ∀ k : Fin 28, hasAll.contains (hasL ((k.val : Int) + 1)) = true := by decide +kernel
theorem has_mem {op : Int} (h : isOp op = true) : hasL op ∈ hasAll := by
  obtain ⟨k, rfl⟩ := op_nat h
  exact List.contains_iff_mem.1 (has_fin k)
theorem nm_fin : ∀ k : Fin 28, ((nmL ((k.val : Int) + 1)).contains 32 = false ∧ (nmL ((k.val : Int) + 1)).length ≤ 5 ∧ 1 ≤ (nmL ((k.val : Int) + 1)).length) := by decide +kernel
theorem nm_inj_fin : ∀ k j : Fin 28, nmL ((k.val : Int) + 1) = nmL ((j.val : Int) + 1) → k = j := by decide +kernel
theorem nm_inj {a b : Int} (ha : isOp a = true) (hb : isOp b = true) (h : nmL a = nmL b) : a = b := by
  obtain ⟨k, rfl⟩ := op_nat ha
  obtain ⟨j, rfl⟩ := op_nat hb
  rw [nm_inj_fin k j h]
theorem nm_no {op : Int} (h : isOp op = true) : ∀ c ∈ nmL op, c ≠ 32 := by
  obtain ⟨k, rfl⟩ := op_nat h
  intro c hc e
  have := (nm_fin k).1
  rw [List.contains_eq_any_beq] at this
  have h2 := List.any_eq_false.1 this c hc
  exact h2 (by rw [e]; rfl)
theorem nm_len {op : Int} (h : isOp op = true) : 1 ≤ (nmL op).length ∧ (nmL op).length ≤ 5 := by
  obtain ⟨k, rfl⟩ := op_nat h
  exact ⟨(nm_fin k).2.2, (nm_fin k).2.1⟩
/-- What a right instruction is. -/
def rightE (x : In) : Bool := isOp x.op && (if (hasL x.op).contains 68 then regB x.d else x.d == 0) && (if (hasL x.op).contains 65 then regB x.a else x.a == 0) && (if (hasL x.op).contains 66 then regB x.b else x.b == 0) &&
  (if (hasL x.op).contains 83 then smallB x.n else ((hasL x.op).contains 78 || x.n == 0)) && (if (hasL x.op).contains 76 then labelB x.name else x.name == [])
theorem right_eq (x : In) : rightB x = rightE x := by
  unfold rightB rightE
  rw [fold1, fold2]
  cases (hasL x.op).contains 68 <;> cases (hasL x.op).contains 65 <;> cases (hasL x.op).contains 66 <;> cases (hasL x.op).contains 83 <;> cases (hasL x.op).contains 78 <;> cases (hasL x.op).contains 76 <;>
    (rw [Bool.eq_iff_iff]; simp [zeroI, In.mk.injEq, and_assoc]; try (intros; constructor <;> (intro h; simp_all)))
theorem lab_all {l : List UInt8} (h : labelB l = true) : (∀ c ∈ l, inLabB c = true) ∧ 1 ≤ l.length ∧ l.length ≤ 40 := by
  unfold labelB at h
  rw [Bool.and_eq_true, Bool.and_eq_true, decide_eq_true_iff] at h
  exact ⟨List.all_eq_true.1 h.2, h.1.1⟩
theorem reg_i {n : Int} (h : regB n = true) : I64 n := by
  have := of_decide_eq_true h
  unfold I64; omega
theorem small_i {n : Int} (h : smallB n = true) : I64 n := by
  have := of_decide_eq_true h
  unfold I64; omega
theorem stop_c {c : UInt8} {r : List UInt8} (h : inNumB c = false) : StopN (c :: r) := .inr ⟨c, r, rfl, h⟩
theorem stop_nil : StopN [] := .inl rfl
theorem piece68 (x : In) : pieceL x 68 = 120 :: Lib.itoa x.d := rfl
theorem piece65 (x : In) : pieceL x 65 = 120 :: Lib.itoa x.a := rfl
theorem piece66 (x : In) : pieceL x 66 = 120 :: Lib.itoa x.b := rfl
theorem piece78 (x : In) : pieceL x 78 = Lib.itoa x.n := rfl
theorem piece83 (x : In) : pieceL x 83 = Lib.itoa x.n := rfl
theorem piece76 (x : In) : pieceL x 76 = x.name := rfl
theorem piece44 (x : In) : pieceL x 44 = [44] := rfl
theorem piece32 (x : In) : pieceL x 32 = [32] := rfl
theorem piece40 (x : In) : pieceL x 40 = [40] := rfl
theorem piece41 (x : In) : pieceL x 41 = [41] := rfl
theorem sO (c k : UInt8) (l : List UInt8) (x : In) (h : (c != 68 && c != 65 && c != 66 && c != 78 && c != 83 && c != 76) = true) : stepP (k :: l, x) c = (l, x) := by
  simp only [Bool.and_eq_true, bne_iff_ne, ne_eq] at h
  exact stepO c k l x ⟨h.1.1.1.1.1, h.1.1.1.1.2, h.1.1.1.2, h.1.1.2, h.1.2, h.2⟩
/-- What a right instruction's text says behind its name is what it has. -/
theorem read_args (x : In) (h : rightB x = true) (hn : I64 x.n) : readI (argsL x) (hasL x.op) = { x with op := 0 } := by
  rw [right_eq] at h
  unfold rightE at h
  have hop : isOp x.op = true := by
    simp only [Bool.and_eq_true] at h; exact h.1.1.1.1.1
  have hm := has_mem hop
  obtain ⟨op, d, a, b, n, name⟩ := x
  unfold readI argsL foldP
  simp only at *
  generalize hasL op = H at *
  simp only [hasAll, List.mem_cons, List.not_mem_nil, or_false] at hm
  rcases hm with rfl | rfl | rfl | rfl | rfl | rfl | rfl | rfl | rfl | rfl
  · have h' : isOp op = true ∧ regB d = true ∧ regB a = true ∧ regB b = true ∧ n = 0 ∧ name = [] := by simpa [sDAB, and_assoc] using h
    obtain ⟨_, h1, h2, h3, rfl, rfl⟩ := h'
    simp only [sDAB, List.flatMap_cons, List.flatMap_nil, piece68, piece65, piece66, piece44, piece32, List.cons_append, List.nil_append, List.foldl_cons, List.foldl_nil]
    rw [step68 d (reg_i h1) _ (stop_c rfl), sO 44 _ _ _ rfl, sO 32 _ _ _ rfl, step65 a (reg_i h2) _ (stop_c rfl), sO 44 _ _ _ rfl, sO 32 _ _ _ rfl, step66 b (reg_i h3) _ stop_nil]
    rfl
  · have h' : isOp op = true ∧ regB d = true ∧ regB a = true ∧ b = 0 ∧ n = 0 ∧ name = [] := by simpa [sDA, and_assoc] using h
    obtain ⟨_, h1, h2, rfl, rfl, rfl⟩ := h'
    simp only [sDA, List.flatMap_cons, List.flatMap_nil, piece68, piece65, piece44, piece32, List.cons_append, List.nil_append, List.foldl_cons, List.foldl_nil]
    rw [step68 d (reg_i h1) _ (stop_c rfl), sO 44 _ _ _ rfl, sO 32 _ _ _ rfl, step65 a (reg_i h2) _ stop_nil]
    rfl
  · have h' : isOp op = true ∧ d = 0 ∧ regB a = true ∧ regB b = true ∧ n = 0 ∧ labelB name = true := by simpa [sABL, and_assoc] using h
    obtain ⟨_, rfl, h1, h2, rfl, h3⟩ := h'
    simp only [sABL, List.flatMap_cons, List.flatMap_nil, piece65, piece66, piece76, piece44, piece32, List.cons_append, List.nil_append, List.foldl_cons, List.foldl_nil, List.append_nil]
    rw [step65 a (reg_i h1) _ (stop_c rfl), sO 44 _ _ _ rfl, sO 32 _ _ _ rfl, step66 b (reg_i h2) _ (stop_c rfl), sO 44 _ _ _ rfl, sO 32 _ _ _ rfl, step76 name (lab_all h3).1]
    rfl
  · have h' : isOp op = true ∧ regB d = true ∧ a = 0 ∧ b = 0 ∧ name = [] := by simpa [and_assoc] using h
    obtain ⟨_, h1, rfl, rfl, rfl⟩ := h'
    simp only [List.flatMap_cons, List.flatMap_nil, piece68, piece78, piece44, piece32, List.cons_append, List.nil_append, List.foldl_cons, List.foldl_nil]
    rw [step68 d (reg_i h1) _ (stop_c rfl), sO 44 _ _ _ rfl, sO 32 _ _ _ rfl, step78 n hn _ stop_nil]
    rfl
  · have h' : isOp op = true ∧ regB d = true ∧ a = 0 ∧ b = 0 ∧ n = 0 ∧ labelB name = true := by simpa [and_assoc] using h
    obtain ⟨_, h1, rfl, rfl, rfl, h3⟩ := h'
    simp only [List.flatMap_cons, List.flatMap_nil, piece68, piece76, piece44, piece32, List.cons_append, List.nil_append, List.foldl_cons, List.foldl_nil, List.append_nil]
    rw [step68 d (reg_i h1) _ (stop_c rfl), sO 44 _ _ _ rfl, sO 32 _ _ _ rfl, step76 name (lab_all h3).1]
    rfl
  · have h' : isOp op = true ∧ regB d = true ∧ regB a = true ∧ b = 0 ∧ smallB n = true ∧ name = [] := by simpa [and_assoc] using h
    obtain ⟨_, h1, h2, rfl, h3, rfl⟩ := h'
    simp only [List.flatMap_cons, List.flatMap_nil, piece68, piece65, piece83, piece44, piece32, List.cons_append, List.nil_append, List.foldl_cons, List.foldl_nil]
    rw [step68 d (reg_i h1) _ (stop_c rfl), sO 44 _ _ _ rfl, sO 32 _ _ _ rfl, step65 a (reg_i h2) _ (stop_c rfl), sO 44 _ _ _ rfl, sO 32 _ _ _ rfl, step83 n hn _ stop_nil]
    rfl
  · have h' : isOp op = true ∧ regB d = true ∧ regB a = true ∧ b = 0 ∧ smallB n = true ∧ name = [] := by simpa [and_assoc] using h
    obtain ⟨_, h1, h2, rfl, h3, rfl⟩ := h'
    simp only [List.flatMap_cons, List.flatMap_nil, piece68, piece65, piece83, piece44, piece32, piece40, piece41, List.cons_append, List.nil_append, List.foldl_cons, List.foldl_nil]
    rw [step68 d (reg_i h1) _ (stop_c rfl), sO 44 _ _ _ rfl, sO 32 _ _ _ rfl, step83 n hn _ (stop_c rfl), sO 40 _ _ _ rfl, step65 a (reg_i h2) _ (stop_c rfl), sO 41 _ _ _ rfl]
    rfl
  · have h' : isOp op = true ∧ d = 0 ∧ regB a = true ∧ regB b = true ∧ smallB n = true ∧ name = [] := by simpa [and_assoc] using h
    obtain ⟨_, rfl, h1, h2, h3, rfl⟩ := h'
    simp only [List.flatMap_cons, List.flatMap_nil, piece66, piece65, piece83, piece44, piece32, piece40, piece41, List.cons_append, List.nil_append, List.foldl_cons, List.foldl_nil]
    rw [step66 b (reg_i h2) _ (stop_c rfl), sO 44 _ _ _ rfl, sO 32 _ _ _ rfl, step83 n hn _ (stop_c rfl), sO 40 _ _ _ rfl, step65 a (reg_i h1) _ (stop_c rfl), sO 41 _ _ _ rfl]
    rfl
  · have h' : isOp op = true ∧ d = 0 ∧ a = 0 ∧ b = 0 ∧ n = 0 ∧ labelB name = true := by simpa [and_assoc] using h
    obtain ⟨_, rfl, rfl, rfl, rfl, h3⟩ := h'
    simp only [List.flatMap_cons, List.flatMap_nil, piece76, List.foldl_cons, List.foldl_nil, List.append_nil]
    rw [step76 name (lab_all h3).1]
    rfl
  · have h' : isOp op = true ∧ d = 0 ∧ a = 0 ∧ b = 0 ∧ n = 0 ∧ name = [] := by simpa [and_assoc] using h
    obtain ⟨_, rfl, rfl, rfl, rfl, rfl⟩ := h'
    rfl
/-! Texts are cut at their first blank. -/
theorem index_no : ∀ (w : List UInt8), (∀ c ∈ w, c ≠ 32) → Lib.index w [32] = -1
  | [], _ => rfl
  | c :: w, h => by
    have ih := index_no w (fun x hx => h x (List.mem_cons_of_mem _ hx))
    have hc : ([32].isPrefixOf (c :: w)) = false := by
      have : ((32 : UInt8) == c) = false := beq_eq_false_iff_ne.2 (fun e => h c (by simp) e.symm)
      simp [List.isPrefixOf, this]
    unfold Lib.index
    rw [hc, ih]; rfl
theorem index_at : ∀ (w r : List UInt8), (∀ c ∈ w, c ≠ 32) → Lib.index (w ++ 32 :: r) [32] = w.length
  | [], r, _ => by
    show Lib.index (32 :: r) [32] = 0
    unfold Lib.index
    simp [List.isPrefixOf]
  | c :: w, r, h => by
    have ih := index_at w r (fun x hx => h x (List.mem_cons_of_mem _ hx))
    have hc : ([32].isPrefixOf (c :: (w ++ 32 :: r))) = false := by
      have : ((32 : UInt8) == c) = false := beq_eq_false_iff_ne.2 (fun e => h c (by simp) e.symm)
      simp [List.isPrefixOf, this]
    show Lib.index (c :: (w ++ 32 :: r)) [32] = _
    unfold Lib.index
    rw [hc, ih]
    have : ((w.length : Int) == -1) = false := by rw [beq_eq_false_iff_ne]; omega
    simp [this]
def cut1 (l : List UInt8) : List UInt8 := (Lib.cut l [32]).1
def cut2 (l : List UInt8) : List UInt8 := (Lib.cut l [32]).2.1
theorem cut_no (w : List UInt8) (h : ∀ c ∈ w, c ≠ 32) : cut1 w = w ∧ cut2 w = [] := by
  unfold cut1 cut2 Lib.cut
  rw [index_no w h]
  exact ⟨rfl, rfl⟩
theorem cut_at (w r : List UInt8) (h : ∀ c ∈ w, c ≠ 32) : cut1 (w ++ 32 :: r) = w ∧ cut2 (w ++ 32 :: r) = r := by
  unfold cut1 cut2 Lib.cut
  rw [index_at w r h, if_pos (by omega)]
  simp
theorem cut_txt (x : In) (h : isOp x.op = true) : cut1 (txtL x) = nmL x.op ∧ cut2 (txtL x) = argsL x := by
  unfold txtL
  by_cases e : hasL x.op = []
  · rw [if_pos e]
    have := cut_no _ (nm_no h)
    refine ⟨this.1, this.2.trans ?_⟩
    unfold argsL; rw [e]; rfl
  · rw [if_neg e]; exact cut_at _ _ (nm_no h)
theorem right_op {x : In} (h : rightB x = true) : isOp x.op = true := by
  rw [right_eq] at h
  unfold rightE at h
  simp only [Bool.and_eq_true] at h; exact h.1.1.1.1.1
/-- What is read of a right instruction's text is the instruction. -/
theorem read_back {x : In} (h : rightB x = true) (hn : I64 x.n) : { readI (cut2 (txtL x)) (hasL x.op) with op := x.op } = x := by
  rw [(cut_txt x (right_op h)).2, read_args x h hn]
theorem txt_inj {x y : In} (hx : rightB x = true) (hy : rightB y = true) (nx : I64 x.n) (ny : I64 y.n) (h : txtL x = txtL y) : x = y := by
  have ho : x.op = y.op := nm_inj (right_op hx) (right_op hy) (by rw [← (cut_txt x (right_op hx)).1, h, (cut_txt y (right_op hy)).1])
  rw [← read_back hx nx, ← read_back hy ny, h, ho]
/-! Lengths. -/
theorem itoa_len (v : Int) (h : I64 v) : 1 ≤ (Lib.itoa v).length ∧ (Lib.itoa v).length ≤ 21 := by
  refine ⟨?_, Lib.itoa_length_le v h.1 h.2⟩
  have := itoa_ne v
  cases hh : Lib.itoa v with
  | nil => exact absurd hh this
  | cons c r => simp
/-- A piece is short, where what is written is an instruction's. -/
def Fits (x : In) : Prop := I64 x.d ∧ I64 x.a ∧ I64 x.b ∧ I64 x.n ∧ x.name.length ≤ 40
theorem piece_len (x : In) (h : Fits x) (c : UInt8) : (pieceL x c).length ≤ 40 := by
  obtain ⟨h1, h2, h3, h4, h5⟩ := h
  have := itoa_len x.d h1
  have := itoa_len x.a h2
  have := itoa_len x.b h3
  have := itoa_len x.n h4
  unfold pieceL
  split
  · rw [List.length_cons]; omega
  split
  · rw [List.length_cons]; omega
  split
  · rw [List.length_cons]; omega
  split
  · omega
  split
  · omega
  split
  · exact h5
  · simp
theorem pieces_len (x : In) (h : Fits x) : ∀ l : List UInt8, (l.flatMap (pieceL x)).length ≤ 40 * l.length
  | [] => by simp
  | c :: l => by
    have := pieces_len x h l
    have := piece_len x h c
    rw [List.flatMap_cons, List.length_append, List.length_cons]; omega
theorem has_len {op : Int} (h : isOp op = true) : (hasL op).length ≤ 7 ∧ ∀ c ∈ hasL op, c.toNat < 128 := by
  have hm := has_mem h
  have key : ∀ l ∈ hasAll, l.length ≤ 7 ∧ ∀ c ∈ l, c.toNat < 128 := by decide +kernel
  exact key _ hm
theorem right_fits {x : In} (h : rightB x = true) (hn : I64 x.n) : Fits x := by
  rw [right_eq] at h
  unfold rightE at h
  simp only [Bool.and_eq_true] at h
  obtain ⟨⟨⟨⟨⟨h0, h1⟩, h2⟩, h3⟩, h4⟩, h5⟩ := h
  refine ⟨?_, ?_, ?_, hn, ?_⟩
  · split at h1
    · exact reg_i h1
    · have := eq_of_beq h1; unfold I64; omega
  · split at h2
    · exact reg_i h2
    · have := eq_of_beq h2; unfold I64; omega
  · split at h3
    · exact reg_i h3
    · have := eq_of_beq h3; unfold I64; omega
  · split at h5
    · exact (lab_all h5).2.2
    · have := eq_of_beq h5; rw [this]; simp
theorem txt_len {x : In} (h : rightB x = true) (hn : I64 x.n) : (txtL x).length ≤ 300 := by
  have := pieces_len x (right_fits h hn) (hasL x.op)
  have := (has_len (right_op h)).1
  have := (nm_len (right_op h)).2
  unfold txtL
  split
  · omega
  · rw [List.length_append, List.length_cons]; unfold argsL; omega
end Go.Proofs.YtlaihjefmhcmcaaGreatDoor
