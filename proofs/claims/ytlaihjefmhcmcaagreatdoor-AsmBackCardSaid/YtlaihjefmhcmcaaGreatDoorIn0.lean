/- Plain words about instructions and their texts; nothing of the program stands here. -/
import Derived.WalkKit
import Derived.Lib.OthersKept
import Derived.Deep.Draws
import Derived.Lib.ItoaLen
import Derived.Lib.AtoiAllCases
import Derived.Lib.IndexMore
namespace Go.Proofs.YtlaihjefmhcmcaaGreatDoor
open Go.RowKit
theorem ext_trans {a b c : World} (h : Below a.heap.size a b) (k : Below b.heap.size b c) : Below a.heap.size a c := h.trans (k.mono h.size)
theorem ext_alloc {a b : World} (h : Below a.heap.size a b) (o : Obj) : Below a.heap.size a (b.alloc o) := h.alloc h.size o
theorem ext_set {a b : World} (h : Below a.heap.size a b) {p : Addr} (hp : a.heap.size ≤ p.block) (v : Value) : Below a.heap.size a (b.setCell p v) := h.setCell hp v
theorem ext_drew {a b : World} (h : Below a.heap.size a b) : Below a.heap.size a b.drew := h.drew
theorem ext_drewN {a b : World} (h : Below a.heap.size a b) (n : Nat) : Below a.heap.size a (b.drewN n) := ⟨h.os, h.tape, h.output, h.size, h.block⟩
theorem heap_new (w : World) (o : Obj) : (w.alloc o).heap[w.heap.size]? = some o := by show (w.heap.push o)[w.heap.size]? = _; simp
theorem cell_row {w : World} {b : Nat} {cs : Array Value} {t : TypeId} (h : w.heap[b]? = some (.cells cs t (0, 0))) (i : Nat) : w.cell? ⟨b, i, none⟩ = cs[i]? := by
  simp [World.cell?, h]
theorem ret_b {a b : Bool} (h : a = b) : Ending.returned (.bool a) = .returned (.bool b) := by rw [h]
theorem ret_i {a b : Int} (h : a = b) : Ending.returned (.int .i64 a) = .returned (.int .i64 b) := by rw [h]
def mk (l : List UInt8) : ByteArray := ⟨⟨l⟩⟩
theorem mk_data (s : ByteArray) : mk s.data.toList = s := rfl
theorem mk_list (l : List UInt8) : (mk l).data.toList = l := rfl
theorem mk_size (l : List UInt8) : (mk l).size = l.length := rfl
theorem mk_tl (l : List UInt8) : (mk l).toList = l := ByteArray.toList_eq _
theorem mk_inj {a b : List UInt8} (h : mk a = mk b) : a = b := by
  have := congrArg (fun s : ByteArray => s.data.toList) h
  exact this
theorem mk_app (a b : List UInt8) : mk a ++ mk b = mk (a ++ b) := by
  apply ByteArray.ext
  apply Array.toList_inj.1
  simp [mk]
theorem take_mk (l : List UInt8) (n : Nat) : (mk l).extract 0 n = mk (l.take n) := by
  apply ByteArray.ext
  apply Array.toList_inj.1
  simp [mk]
theorem drop_mk (l : List UInt8) (i : Nat) : (mk l).extract i l.length = mk (l.drop i) := by
  apply ByteArray.ext
  apply Array.toList_inj.1
  simp [mk]
  exact List.take_of_length_le (by simp)
def pickN (c n : Int) : Int := (if c < 0 then -(c + 1) else c) % n
theorem pickN_lo (c n : Int) (hn : 0 < n) : 0 ≤ pickN c n := Int.emod_nonneg _ (by omega)
theorem pickN_hi (c n : Int) (hn : 0 < n) : pickN c n < n := Int.emod_lt_of_pos _ hn
/-! Bytes. -/
def digitB (c : UInt8) : Bool := decide (48 ≤ c.toNat ∧ c.toNat ≤ 57)
def inNumB (c : UInt8) : Bool := decide (48 ≤ c.toNat ∧ c.toNat ≤ 57 ∨ c.toNat = 45)
def inLabB (c : UInt8) : Bool := decide (48 ≤ c.toNat ∧ c.toNat ≤ 57 ∨ 97 ≤ c.toNat ∧ c.toNat ≤ 122 ∨ 65 ≤ c.toNat ∧ c.toNat ≤ 90 ∨ c.toNat = 95 ∨ c.toNat = 46)
def labelB (l : List UInt8) : Bool := decide (1 ≤ l.length ∧ l.length ≤ 40) && !digitB (l.getD 0 0) && l.all inLabB
/-! Instructions. -/
structure In where
  op : Int
  d : Int
  a : Int
  b : Int
  n : Int
  name : List UInt8
  deriving DecidableEq
def inV (x : In) : Value := .agg #[.int .i64 x.op, .int .i64 x.d, .int .i64 x.a, .int .i64 x.b, .int .i64 x.n, .string (mk x.name)]
def zeroI : In := ⟨0, 0, 0, 0, 0, []⟩
def sDAB : List UInt8 := [68, 44, 32, 65, 44, 32, 66]
def sDA : List UInt8 := [68, 44, 32, 65]
def sABL : List UInt8 := [65, 44, 32, 66, 44, 32, 76]
def forms : List (List UInt8 × List UInt8) := [
  ([97, 100, 100], sDAB), ([115, 117, 98], sDAB), ([109, 117, 108], sDAB), ([100, 105, 118], sDAB), ([114, 101, 109], sDAB), ([97, 110, 100], sDAB),
  ([111, 114], sDAB), ([120, 111, 114], sDAB), ([115, 108, 108], sDAB), ([115, 114, 97], sDAB), ([115, 108, 116], sDAB), ([115, 108, 116, 117], sDAB),
  ([115, 101, 113, 122], sDA), ([115, 110, 101, 122], sDA), ([109, 118], sDA),
  ([108, 105], [68, 44, 32, 78]), ([108, 97], [68, 44, 32, 76]), ([97, 100, 100, 105], [68, 44, 32, 65, 44, 32, 83]),
  ([108, 100], [68, 44, 32, 83, 40, 65, 41]), ([115, 100], [66, 44, 32, 83, 40, 65, 41]),
  ([98, 101, 113], sABL), ([98, 110, 101], sABL), ([98, 108, 116], sABL), ([98, 103, 101], sABL),
  ([106], [76]), ([106, 97, 108], [76]), ([114, 101, 116], []), ([101, 99, 97, 108, 108], [])]
def isOp (op : Int) : Bool := decide (1 ≤ op ∧ op ≤ 28)
def nmL (op : Int) : List UInt8 := if isOp op then (forms.getD (op.toNat - 1) ([], [])).1 else []
def hasL (op : Int) : List UInt8 := if isOp op then (forms.getD (op.toNat - 1) ([], [])).2 else []
def regB (n : Int) : Bool := decide (0 ≤ n ∧ n < 32)
def smallB (n : Int) : Bool := decide (-2047 ≤ n ∧ n ≤ 2047)
/-- One step of what is asked of an instruction. -/
def stepR (x : In) (st : Bool × In) (c : UInt8) : Bool × In :=
  if c = 68 then (st.1 && regB x.d, { st.2 with d := 0 })
  else if c = 65 then (st.1 && regB x.a, { st.2 with a := 0 })
  else if c = 66 then (st.1 && regB x.b, { st.2 with b := 0 })
  else if c = 78 then (st.1, { st.2 with n := 0 })
  else if c = 83 then (st.1 && smallB x.n, { st.2 with n := 0 })
  else if c = 76 then (st.1 && labelB x.name, { st.2 with name := [] })
  else st
def foldR (x : In) (h : List UInt8) (st : Bool × In) : Bool × In := h.foldl (stepR x) st
def rightB (x : In) : Bool := (foldR x (hasL x.op) (isOp x.op, { x with op := 0 })).1 && decide ((foldR x (hasL x.op) (isOp x.op, { x with op := 0 })).2 = zeroI)
def pieceL (x : In) (c : UInt8) : List UInt8 :=
  if c = 68 then 120 :: Lib.itoa x.d else if c = 65 then 120 :: Lib.itoa x.a else if c = 66 then 120 :: Lib.itoa x.b
  else if c = 78 then Lib.itoa x.n else if c = 83 then Lib.itoa x.n else if c = 76 then x.name else [c]
def argsL (x : In) : List UInt8 := (hasL x.op).flatMap (pieceL x)
def txtL (x : In) : List UInt8 := if hasL x.op = [] then nmL x.op else nmL x.op ++ 32 :: argsL x
/-! What is read. -/
def atoiV (l : List UInt8) : Int := match Lib.atoiAll l with | .ok v => v | _ => 0
def spanB (p : UInt8 → Bool) (l : List UInt8) : Nat := (l.takeWhile p).length
def rdNum (l : List UInt8) (ahead : Nat) : Int × Nat := (atoiV ((l.drop ahead).take (spanB inNumB (l.drop ahead))), ahead + spanB inNumB (l.drop ahead))
def stepP (st : List UInt8 × In) (c : UInt8) : List UInt8 × In :=
  if c = 68 then (st.1.drop (rdNum st.1 1).2, { st.2 with d := (rdNum st.1 1).1 })
  else if c = 65 then (st.1.drop (rdNum st.1 1).2, { st.2 with a := (rdNum st.1 1).1 })
  else if c = 66 then (st.1.drop (rdNum st.1 1).2, { st.2 with b := (rdNum st.1 1).1 })
  else if c = 78 then (st.1.drop (rdNum st.1 0).2, { st.2 with n := (rdNum st.1 0).1 })
  else if c = 83 then (st.1.drop (rdNum st.1 0).2, { st.2 with n := (rdNum st.1 0).1 })
  else if c = 76 then (st.1.drop (spanB inLabB st.1), { st.2 with name := st.1.take (spanB inLabB st.1) })
  else (st.1.drop 1, st.2)
def foldP (h : List UInt8) (st : List UInt8 × In) : List UInt8 × In := h.foldl stepP st
def readI (l has : List UInt8) : In := (foldP has (l, zeroI)).2
/-! Numbers. -/
def digV : List UInt8 → Nat
  | [] => 0
  | c :: r => (c.toNat - 48) * 10 ^ r.length + digV r
theorem digV_snoc : ∀ (l : List UInt8) (c : UInt8), digV (l ++ [c]) = digV l * 10 + (c.toNat - 48)
  | [], c => by simp [digV]
  | a :: l, c => by
    have ih := digV_snoc l c
    show (a.toNat - 48) * 10 ^ (l ++ [c]).length + digV (l ++ [c]) = ((a.toNat - 48) * 10 ^ l.length + digV l) * 10 + (c.toNat - 48)
    rw [ih, List.length_append, show [c].length = 1 from rfl, Nat.pow_succ, Nat.add_mul, Nat.mul_assoc, Nat.add_assoc]
theorem parse_ok : ∀ (l : List UInt8) (acc : Nat), (∀ c ∈ l, digitB c = true) → acc * 10 ^ l.length + digV l ≤ 9223372036854775808 → Lib.parseUint10 acc l = .ok (acc * 10 ^ l.length + digV l)
  | [], acc, _, _ => by simp [Lib.parseUint10, digV]
  | c :: r, acc, hp, hv => by
    have hc := of_decide_eq_true (hp c (by simp))
    have e : acc * 10 ^ (c :: r).length + digV (c :: r) = (acc * 10 + (c.toNat - 48)) * 10 ^ r.length + digV r := by
      rw [List.length_cons, Nat.pow_succ]
      show acc * (10 ^ r.length * 10) + ((c.toNat - 48) * 10 ^ r.length + digV r) = _
      rw [Nat.add_mul, Nat.mul_assoc acc 10, Nat.mul_comm 10, Nat.add_assoc]
    rw [e] at hv ⊢
    have hp1 : 1 ≤ 10 ^ r.length := Nat.one_le_pow _ _ (by decide)
    have hle : (acc * 10 + (c.toNat - 48)) * 1 ≤ (acc * 10 + (c.toNat - 48)) * 10 ^ r.length := Nat.mul_le_mul_left _ hp1
    rw [Lib.parseUint10, if_pos (by omega), if_neg (by omega), if_neg (by omega)]
    exact parse_ok r _ (fun x hx => hp x (List.mem_cons_of_mem _ hx)) hv
theorem dig_of (k : Nat) (h : k < 10) : (UInt8.ofNat (48 + k)).toNat = 48 + k := by
  rw [UInt8.toNat_ofNat', Nat.mod_eq_of_lt (by omega)]
theorem dec_digits (u : Nat) : (∀ c ∈ Lib.decDigits u, digitB c = true) ∧ digV (Lib.decDigits u) = u ∧ Lib.decDigits u ≠ [] := by
  induction u using Nat.strongRecOn with
  | _ u ih =>
    by_cases h : u < 10
    · rw [Lib.decDigits, dif_pos h]
      have hd := dig_of u h
      refine ⟨fun c hc => ?_, ?_, by simp⟩
      · rw [List.mem_singleton.1 hc]; unfold digitB; rw [hd]; exact decide_eq_true (by omega)
      · show ((UInt8.ofNat (48 + u)).toNat - 48) * 1 + 0 = u
        rw [hd]; omega
    · obtain ⟨i1, i2, i3⟩ := ih (u / 10) (by omega)
      have hd := dig_of (u % 10) (by omega)
      rw [Lib.decDigits, dif_neg h]
      refine ⟨fun c hc => ?_, ?_, by simp⟩
      · rcases List.mem_append.1 hc with k | k
        · exact i1 c k
        · rw [List.mem_singleton.1 k]; unfold digitB; rw [hd]; exact decide_eq_true (by omega)
      · rw [digV_snoc, i2, hd]; omega
theorem itoa_in (v : Int) : ∀ c ∈ Lib.itoa v, inNumB c = true := by
  intro c hc
  have key : ∀ u, c ∈ Lib.decDigits u → inNumB c = true := by
    intro u hu
    have := of_decide_eq_true ((dec_digits u).1 c hu)
    exact decide_eq_true (.inl this)
  unfold Lib.itoa at hc
  split at hc
  · rcases List.mem_cons.1 hc with rfl | k
    · rfl
    · exact key _ k
  · exact key _ hc
theorem itoa_ne (v : Int) : Lib.itoa v ≠ [] := by
  unfold Lib.itoa
  split
  · simp
  · exact (dec_digits _).2.2
theorem atoi_itoa (v : Int) (h0 : -9223372036854775808 ≤ v) (h1 : v ≤ 9223372036854775807) : Lib.atoiAll (Lib.itoa v) = .ok v := by
  have mag : ∀ u : Nat, u ≤ 9223372036854775808 → Lib.parseMag (Lib.decDigits u) = .ok u := by
    intro u hu
    obtain ⟨d1, d2, d3⟩ := dec_digits u
    unfold Lib.parseMag
    rw [if_neg d3, parse_ok _ 0 d1 (by rw [d2]; omega), d2]
    simp
  unfold Lib.itoa
  split
  · rw [Lib.atoiAll_minus, mag _ (by omega)]
    unfold Lib.signed
    simp only
    rw [if_neg (by omega)]
    congr 1; omega
  · obtain ⟨d1, d2, d3⟩ := dec_digits v.toNat
    have hm := mag v.toNat (by omega)
    cases hd : Lib.decDigits v.toNat with
    | nil => exact absurd hd d3
    | cons c r =>
      rw [hd] at d1 hm
      have hc := of_decide_eq_true (d1 c (by simp))
      rw [Lib.atoiAll_plain c r (by omega) (by omega), hm]
      unfold Lib.signless
      simp only
      rw [if_neg (by omega)]
      congr 1; omega
theorem itoa_inj {a b : Int} (ha : -9223372036854775808 ≤ a ∧ a ≤ 9223372036854775807) (hb : -9223372036854775808 ≤ b ∧ b ≤ 9223372036854775807) (h : Lib.itoa a = Lib.itoa b) : a = b := by
  have e1 := atoi_itoa a ha.1 ha.2
  have e2 := atoi_itoa b hb.1 hb.2
  rw [h, e2] at e1
  injection e1 with e1
  exact e1.symm
/-! What is read of what was written. -/
def StopN (l : List UInt8) : Prop := l = [] ∨ ∃ c r, l = c :: r ∧ inNumB c = false
theorem span_app (p : UInt8 → Bool) (w rest : List UInt8) (hw : ∀ c ∈ w, p c = true) (hr : rest = [] ∨ ∃ c r, rest = c :: r ∧ p c = false) : spanB p (w ++ rest) = w.length := by
  unfold spanB
  induction w with
  | nil =>
    rcases hr with rfl | ⟨c, r, rfl, h⟩
    · rfl
    · simp [h]
  | cons x w ih =>
    rw [List.cons_append, List.takeWhile_cons, if_pos (hw x (by simp)), List.length_cons, List.length_cons, ih (fun c hc => hw c (List.mem_cons_of_mem _ hc))]
def I64 (v : Int) : Prop := -9223372036854775808 ≤ v ∧ v ≤ 9223372036854775807
theorem num_step (v : Int) (hv : I64 v) (rest : List UInt8) (hr : StopN rest) : rdNum (Lib.itoa v ++ rest) 0 = (v, (Lib.itoa v).length) := by
  unfold rdNum
  rw [List.drop_zero, span_app inNumB _ _ (itoa_in v) hr, List.take_left' rfl]
  unfold atoiV
  rw [atoi_itoa v hv.1 hv.2, Nat.zero_add]
theorem reg_step (v : Int) (hv : I64 v) (rest : List UInt8) (hr : StopN rest) : rdNum (120 :: (Lib.itoa v ++ rest)) 1 = (v, 1 + (Lib.itoa v).length) := by
  unfold rdNum
  rw [List.drop_succ_cons, List.drop_zero, span_app inNumB _ _ (itoa_in v) hr, List.take_left' rfl]
  unfold atoiV
  rw [atoi_itoa v hv.1 hv.2]
theorem step68 (v : Int) (hv : I64 v) (rest : List UInt8) (hr : StopN rest) (x : In) : stepP (120 :: (Lib.itoa v ++ rest), x) 68 = (rest, { x with d := v }) := by
  unfold stepP
  rw [if_pos rfl]
  show ((120 :: (Lib.itoa v ++ rest)).drop (rdNum (120 :: (Lib.itoa v ++ rest)) 1).2, { x with d := (rdNum (120 :: (Lib.itoa v ++ rest)) 1).1 }) = _
  rw [reg_step v hv rest hr]
  simp [Nat.add_comm 1]
theorem step65 (v : Int) (hv : I64 v) (rest : List UInt8) (hr : StopN rest) (x : In) : stepP (120 :: (Lib.itoa v ++ rest), x) 65 = (rest, { x with a := v }) := by
  unfold stepP
  rw [if_neg (by decide), if_pos rfl]
  show ((120 :: (Lib.itoa v ++ rest)).drop (rdNum (120 :: (Lib.itoa v ++ rest)) 1).2, { x with a := (rdNum (120 :: (Lib.itoa v ++ rest)) 1).1 }) = _
  rw [reg_step v hv rest hr]
  simp [Nat.add_comm 1]
theorem step66 (v : Int) (hv : I64 v) (rest : List UInt8) (hr : StopN rest) (x : In) : stepP (120 :: (Lib.itoa v ++ rest), x) 66 = (rest, { x with b := v }) := by
  unfold stepP
  rw [if_neg (by decide), if_neg (by decide), if_pos rfl]
  show ((120 :: (Lib.itoa v ++ rest)).drop (rdNum (120 :: (Lib.itoa v ++ rest)) 1).2, { x with b := (rdNum (120 :: (Lib.itoa v ++ rest)) 1).1 }) = _
  rw [reg_step v hv rest hr]
  simp [Nat.add_comm 1]
theorem step78 (v : Int) (hv : I64 v) (rest : List UInt8) (hr : StopN rest) (x : In) : stepP (Lib.itoa v ++ rest, x) 78 = (rest, { x with n := v }) := by
  unfold stepP
  rw [if_neg (by decide), if_neg (by decide), if_neg (by decide), if_pos rfl]
  show ((Lib.itoa v ++ rest).drop (rdNum (Lib.itoa v ++ rest) 0).2, { x with n := (rdNum (Lib.itoa v ++ rest) 0).1 }) = _
  rw [num_step v hv rest hr]
  simp
theorem step83 (v : Int) (hv : I64 v) (rest : List UInt8) (hr : StopN rest) (x : In) : stepP (Lib.itoa v ++ rest, x) 83 = (rest, { x with n := v }) := by
  unfold stepP
  rw [if_neg (by decide), if_neg (by decide), if_neg (by decide), if_neg (by decide), if_pos rfl]
  show ((Lib.itoa v ++ rest).drop (rdNum (Lib.itoa v ++ rest) 0).2, { x with n := (rdNum (Lib.itoa v ++ rest) 0).1 }) = _
  rw [num_step v hv rest hr]
  simp
theorem step76 (l : List UInt8) (hl : ∀ c ∈ l, inLabB c = true) (x : In) : stepP (l, x) 76 = ([], { x with name := l }) := by
  have e := span_app inLabB l [] hl (.inl rfl)
  rw [List.append_nil] at e
  unfold stepP
  rw [if_neg (by decide), if_neg (by decide), if_neg (by decide), if_neg (by decide), if_neg (by decide), if_pos rfl]
  show (l.drop (spanB inLabB l), { x with name := l.take (spanB inLabB l) }) = _
  rw [e]
  simp
theorem stepO (c k : UInt8) (l : List UInt8) (x : In) (h : c ≠ 68 ∧ c ≠ 65 ∧ c ≠ 66 ∧ c ≠ 78 ∧ c ≠ 83 ∧ c ≠ 76) : stepP (k :: l, x) c = (l, x) := by
  unfold stepP
  rw [if_neg h.1, if_neg h.2.1, if_neg h.2.2.1, if_neg h.2.2.2.1, if_neg h.2.2.2.2.1, if_neg h.2.2.2.2.2]
  rfl
/-! What is asked. -/
theorem fold1 (x : In) : ∀ (h : List UInt8) (st : Bool × In), (foldR x h st).1 = (st.1 && (!h.contains 68 || regB x.d) && (!h.contains 65 || regB x.a) && (!h.contains 66 || regB x.b) && (!h.contains 83 || smallB x.n) && (!h.contains 76 || labelB x.name))
  | [], st => by simp [foldR]
  | c :: h, st => by
    have ih := fold1 x h (stepR x st c)
    show (foldR x h (stepR x st c)).1 = _
    rw [ih]
    unfold stepR
    by_cases h1 : c = 68
    · subst h1; rw [if_pos rfl]; simp only [List.contains_cons]; cases regB x.d <;> simp
    by_cases h2 : c = 65
    · subst h2; rw [if_neg h1, if_pos rfl]; simp only [List.contains_cons]; cases regB x.a <;> simp
    by_cases h3 : c = 66
    · subst h3; rw [if_neg h1, if_neg h2, if_pos rfl]; simp only [List.contains_cons]; cases regB x.b <;> simp
    by_cases h4 : c = 78
    · subst h4; rw [if_neg h1, if_neg h2, if_neg h3, if_pos rfl]; simp
    by_cases h5 : c = 83
    · subst h5; rw [if_neg h1, if_neg h2, if_neg h3, if_neg h4, if_pos rfl]; simp only [List.contains_cons]; cases smallB x.n <;> simp
    by_cases h6 : c = 76
    · subst h6; rw [if_neg h1, if_neg h2, if_neg h3, if_neg h4, if_neg h5, if_pos rfl]; simp only [List.contains_cons]; cases labelB x.name <;> simp
    · rw [if_neg h1, if_neg h2, if_neg h3, if_neg h4, if_neg h5, if_neg h6]
      have e1 : ((68 : UInt8) == c) = false := beq_eq_false_iff_ne.2 (fun e => h1 e.symm)
      have e2 : ((65 : UInt8) == c) = false := beq_eq_false_iff_ne.2 (fun e => h2 e.symm)
      have e3 : ((66 : UInt8) == c) = false := beq_eq_false_iff_ne.2 (fun e => h3 e.symm)
      have e5 : ((83 : UInt8) == c) = false := beq_eq_false_iff_ne.2 (fun e => h5 e.symm)
      have e6 : ((76 : UInt8) == c) = false := beq_eq_false_iff_ne.2 (fun e => h6 e.symm)
      simp only [List.contains_cons, e1, e2, e3, e5, e6, Bool.false_or]
theorem fold2 (x : In) : ∀ (h : List UInt8) (st : Bool × In), (foldR x h st).2 = { op := st.2.op, d := if h.contains 68 then 0 else st.2.d, a := if h.contains 65 then 0 else st.2.a, b := if h.contains 66 then 0 else st.2.b, n := if h.contains 78 || h.contains 83 then 0 else st.2.n, name := if h.contains 76 then [] else st.2.name }
  | [], st => by simp [foldR]
  | c :: h, st => by
    have ih := fold2 x h (stepR x st c)
    show (foldR x h (stepR x st c)).2 = _
    rw [ih]
    unfold stepR
    by_cases h1 : c = 68
    · subst h1; rw [if_pos rfl]; simp
    by_cases h2 : c = 65
    · subst h2; rw [if_neg h1, if_pos rfl]; simp
    by_cases h3 : c = 66
    · subst h3; rw [if_neg h1, if_neg h2, if_pos rfl]; simp
    by_cases h4 : c = 78
    · subst h4; rw [if_neg h1, if_neg h2, if_neg h3, if_pos rfl]; simp
    by_cases h5 : c = 83
    · subst h5; rw [if_neg h1, if_neg h2, if_neg h3, if_neg h4, if_pos rfl]; simp
    by_cases h6 : c = 76
    · subst h6; rw [if_neg h1, if_neg h2, if_neg h3, if_neg h4, if_neg h5, if_pos rfl]; simp
    · rw [if_neg h1, if_neg h2, if_neg h3, if_neg h4, if_neg h5, if_neg h6]
      have e1 : ((68 : UInt8) == c) = false := beq_eq_false_iff_ne.2 (fun e => h1 e.symm)
      have e2 : ((65 : UInt8) == c) = false := beq_eq_false_iff_ne.2 (fun e => h2 e.symm)
      have e3 : ((66 : UInt8) == c) = false := beq_eq_false_iff_ne.2 (fun e => h3 e.symm)
      have e4 : ((78 : UInt8) == c) = false := beq_eq_false_iff_ne.2 (fun e => h4 e.symm)
      have e5 : ((83 : UInt8) == c) = false := beq_eq_false_iff_ne.2 (fun e => h5 e.symm)
      have e6 : ((76 : UInt8) == c) = false := beq_eq_false_iff_ne.2 (fun e => h6 e.symm)
      simp only [List.contains_cons, e1, e2, e3, e4, e5, e6, Bool.false_or]
end Go.Proofs.YtlaihjefmhcmcaaGreatDoor
