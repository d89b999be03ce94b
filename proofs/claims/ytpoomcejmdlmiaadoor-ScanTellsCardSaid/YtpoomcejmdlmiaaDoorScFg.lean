/- The document's own answer: Scan, walked. -/
import Derived.Test.YtpoomcejmdlmiaaDoorRows
import Derived.WalkKit
import Derived.ProofKit
import Derived.OpenShut
import Derived.WalkLawsBesides
import Derived.WalkSpells
import Derived.Outline
import Derived.Handy
import Derived.Lib.Hide
import Derived.Lib.OthersKept
import Derived.KernelRfl
import Derived.OwnWalk
import Derived.Test.YtpoomcejmdlmiaaDoorScFf
import Derived.Test.YtpoomcejmdlmiaaDoorScH
namespace Go.Proofs.YtpoomcejmdlmiaaDoor
open Go.ChangeShapes Go.WideShapes Go.ChangeAt Go.RowKit
set_option linter.unusedVariables false
theorem addr_add (g o n : Nat) : (⟨g, o, none⟩ : Addr).add n = ⟨g, o + n, none⟩ := by
  unfold Addr.add
  split
  · rename_i h; subst h; rfl
  · rfl
/-- One element more behind a row of one's own; its cells lie in a block. -/
theorem app_cells {T E : TypeId} {z : Value} {k sz : Nat} (hT : Tryd.prog.underlying T = some (.slice E)) (hinfo : (Tryd.prog.info? E).map (fun i => (i.zero, i.size, i.bytes)) = some (some z, k, sz)) (hz1 : z.cells.size = k) (hk : 0 < k) (hsz : sz ≤ 128)
    {ops : Array Oper} {rest : List Oper} {o : Oper} {a : Act} {Q : Exit → Act → World → Prop} {w : World} (hgd : o.guard = none) (s x : Operand)
    (ho : o.op = .call { callee := .builtin .append, args := #[s, x], argTypes := #[T, T] })
    (base : Nat) (v : Value) (n : Nat) (xs : List Value) (hs : a.eval s = v) (hown : w.ownsRow base E k v n xs)
    (b cap : Nat) (us : List Value) (hlen : us.length = k) (hx : a.eval x = .slice (some ⟨b, 0, none⟩) 1 cap) (hu : w.heap[b]? = some (.cells us.toArray E (0, 0))) (h1 : ∀ u ∈ us, u.oneCell' = true) (hn : n ≤ 1000000) (hbase : base ≤ w.heap.size)
    (h : ∀ v' w', w'.ownsRow base E k v' (n + 1) (xs ++ us) → w.grownBy w' v.ownBlock → wpList Tryd.prog ops Q rest (a.put o.dst v') w') : wpList Tryd.prog ops Q (o :: rest) a w := by
  obtain ⟨i0, hi, iz0, iz1, iz2⟩ := info_parts hinfo
  refine wpList_append_own _ hgd s x T ho base E i0 z k sz hT hi iz0 iz1 iz2 hz1 hk v n xs hs hown ⟨b, 0, none⟩ 1 cap us hx (by omega) ?_ h1 ?_ ?_ hbase fun v' w' k1 k2 _ => h v' w' k1 k2
  · intro j u' hj
    have e : w.cell? ⟨b, j, none⟩ = some u' := by
      rw [cell_row hu]
      simpa using hj
    rw [addr_add, Nat.zero_add]
    exact e
  · unfold maxLen; omega
  · have : (n + 1) * sz ≤ 1000001 * 128 := Nat.mul_le_mul (by omega) hsz
    omega
theorem piece_kind {c : UInt8} {r : List UInt8} (hs : slB (c :: r) = false) {p : Piece} (h : pieceQ (mk (c :: r)) (rnL (c :: r)) = some p) : (p.kind != 0) = true := by
  obtain ⟨h0, hq⟩ := piece_open hs
  rw [h] at hq
  have key : ∀ (q : Option Piece), some p = q → (∀ x, q = some x → (x.kind != 0) = true) → (p.kind != 0) = true := fun q e k => k p e.symm
  refine key _ hq (fun x hx => ?_)
  split at hx
  · unfold wordP at hx
    repeat' split at hx
    all_goals first | (cases hx; done) | (cases hx; rfl)
  split at hx
  · unfold numberP at hx
    repeat' split at hx
    all_goals first | (cases hx; done) | (cases hx; rfl)
  split at hx
  · rw [(charP_text hx).1]; rfl
  split at hx
  · cases hx; rfl
  · cases hx
theorem signs_no10 : (10 : UInt8) ∉ signs := by decide
/-- No line feed in a token. -/
theorem tok_no10 {c : UInt8} {r : List UInt8} (hs : slB (c :: r) = false) {p : Piece} (h : pieceQ (mk (c :: r)) (rnL (c :: r)) = some p) : ∀ x ∈ (c :: r).take p.len, x ≠ 10 := by
  obtain ⟨h0, hq⟩ := piece_open hs
  rw [h] at hq
  split at hq
  · rename_i hc
    rw [word_eq hc] at hq
    have e : (c :: r).take p.len = spW inNameR (c :: r) := by
      repeat' split at hq
      all_goals first | (cases hq; done) | (cases hq; exact spW_take _ _)
    rw [e]
    intro x hx k
    have := spW_all inNameR _ x hx
    rw [k] at this
    exact absurd this (by decide)
  split at hq
  · rename_i hc
    rw [num_eq hc] at hq
    have e : (c :: r).take p.len = spW digitR (c :: r) := by
      split at hq
      · cases hq; exact spW_take _ _
      · cases hq
    rw [e]
    intro x hx k
    have := spW_all digitR _ x hx
    rw [k] at this
    exact absurd this (by decide)
  split at hq
  · rename_i hc
    have hc39 : c = 39 := UInt8.toNat_inj.1 (by have := beq_iff_eq.1 hc; show c.toNat = 39; omega)
    subst hc39
    unfold charP at hq
    split at hq
    · rename_i k
      cases hq
      obtain ⟨w0, w1⟩ := byte_rn (39 :: r) 0 (by simp) (show (39 : UInt8).toNat < 128 by decide)
      have w1 : wd (mk (39 :: r)) 0 = 1 := w1.symm ▸ rfl
      rw [w1] at k ⊢
      obtain ⟨k1, k2, k3, k4⟩ := k
      rw [mk_size] at k1 k3
      have hb := of_decide_eq_false (show decide _ = false from k2)
      have hn := rune_no10 (39 :: r) 1 (by omega) k1
      intro x hx e
      have hx : x ∈ (39 :: r).take (1 + wd (mk (39 :: r)) 1 + 1) := hx
      obtain ⟨j, hj, hxj⟩ := List.getElem_of_mem hx
      rw [List.length_take] at hj
      rw [List.getElem_take] at hxj
      have hg : (39 :: r).getD j 0 = x := by rw [List.getD_eq_getElem?_getD, List.getElem?_eq_getElem (by omega)]; exact hxj
      rcases (by omega : j = 0 ∨ (1 ≤ j ∧ j < 1 + wd (mk (39 :: r)) 1) ∨ j = 1 + wd (mk (39 :: r)) 1) with q | q | q
      · rw [q, e] at hg
        have hg : (39 : UInt8) = 10 := hg
        exact absurd hg (by decide)
      · exact hn j q.1 q.2 (by rw [hg, e])
      · have := rn_byte (39 :: r) (1 + wd (mk (39 :: r)) 1) (by omega)
        rw [k4, ← q, hg, e] at this
        exact absurd this (by decide)
    · cases hq
  split at hq
  · cases hq
    intro x hx e
    rw [e] at hx
    by_cases ht : two (mk (c :: r)) = true
    · have hm := (two_iff (c :: r)).1 ht
      have hx : (10 : UInt8) ∈ (c :: r).take (signN (mk (c :: r)) h0) := hx
      rw [signN_first, if_pos ht] at hx
      have : ∀ t ∈ twoL, (10 : UInt8) ∉ t := by decide
      exact this _ hm hx
    · have hx : (10 : UInt8) ∈ (c :: r).take (signN (mk (c :: r)) h0) := hx
      rw [signN_first, if_neg ht] at hx
      split at hx
      · rename_i k
        have hc := (sign_mem c).1 k
        have : (10 : UInt8) = c := by simpa using hx
        rw [← this] at hc
        exact signs_no10 hc
      · simp at hx
  · cases hq
theorem rscan_long (l : List UInt8) (w : World) (hs : 20000 < l.length) : Calls Tryd.prog 6 #[.string (mk l)] w fun e w' => e = .returned (.tuple #[.slice none 0 0, .int .i64 1, .int .i64 0]) ∧ Below w.heap.size w w' := by
  have hsz : (mk l).size = l.length := rfl
  go_enter Tryd.func6, Tryd.ntmps6
  go_wp2_with fail
  go_ret3
  exact ⟨rfl, Below.refl _ _⟩
set_option maxRecDepth 100000 in
set_option maxHeartbeats 4000000 in
theorem rscan_any (l : List UInt8) (w : World) (hl : l.length ≤ 20000) : Calls Tryd.prog 6 #[.string (mk l)] w fun e w' => ScanRes (scanL (mk l)) w.heap.size e w' ∧ Below w.heap.size w w' := by
  have hsz : (mk l).size = l.length := rfl
  have hsl : ¬ 20000 < l.length := by omega
  obtain ⟨R, hR⟩ : ∃ R, scanL (mk l) = R := ⟨_, rfl⟩
  have HR : Hid (scanA 1 l [] = R) := Lib.hid (by rw [← hR, scanL_A, mk_list])
  rw [hR]
  clear hR
  go_enter Tryd.func6, Tryd.ntmps6
  go_wp2_with fail
  go_loopw [5, 6] (fun ov iv wr => ∃ (i : Nat) (acc : List Tk), iv = .int .i64 i ∧ i ≤ l.length ∧ acc.length ≤ i ∧ Below w.heap.size w wr ∧ wr.ownsRow w.heap.size 30 4 ov acc.length (acc.flatMap Tk.cells) ∧ scanA (1 + feeds (l.take i)) (l.drop i) acc = R) (fun _ iv wr => l.length - slotN iv)
  case atStart => exact ⟨0, [], rfl, Nat.zero_le _, Nat.le_refl _, Below.refl _ _, ⟨rfl, .inl ⟨rfl, rfl⟩⟩, by rw [List.take_zero, List.drop_zero]; exact HR.out⟩
  case round =>
    obtain ⟨i, acc, rfl, hi, hac, hb, hown, hsc⟩ := hrel
    have HB := Lib.hid hb
    have HO := Lib.hid hown
    have hsc := (scanA_sp (l.drop i) _ acc).symm.trans hsc
    have hle := sp_le (l.drop i)
    rw [List.length_drop] at hle
    have hend := sp_end (l.drop i)
    have e1 : 1 + feeds (l.take i) + feeds ((l.drop i).take (sp (l.drop i)).1) = 1 + feeds (l.take (i + (sp (l.drop i)).1)) := by rw [List.take_add, feeds_app]; omega
    rw [e1, List.drop_drop] at hsc
    rw [List.drop_drop] at hend
    have HSC := Lib.hid hsc
    have HEND := Lib.hid hend
    have HSP := Lib.hid (fun w => space_any l i hi hl w)
    clear hb hown hsc hend e1
    generalize (sp (l.drop i)).1 = n at *
    generalize (sp (l.drop i)).2 = ok at *
    obtain ⟨m, hm⟩ : ∃ m, i + n = m := ⟨_, rfl⟩
    have hmi : (i : Int) + (n : Int) = (m : Int) := by omega
    rw [hm] at HSC HEND
    have hml : m ≤ l.length := by omega
    go_wp2_with fail
    refine (HSP.out _).mono ?_; rintro e w3 ⟨rfl, g3⟩
    have HB3 := Lib.hid (ext_trans HB.out g3)
    have HO3 := Lib.hid (own_ext HO.out g3)
    clear g3 HSP
    go_wp2_with fail
    try rw [hmi]
    go_loopw [9, 10] (fun nv jv wr => ∃ j : Nat, jv = .int .i64 j ∧ j ≤ m ∧ nv = .int .i64 ((1 + feeds (l.take j) : Nat) : Int) ∧ Below w3.heap.size w3 wr) (fun _ jv wr => m - slotN jv)
    case atStart => exact ⟨0, rfl, Nat.zero_le _, by rw [List.take_zero]; rfl, Below.refl _ _⟩
    case round =>
      obtain ⟨j, rfl, hj, rfl, hbj⟩ := hrel
      have HBJ := Lib.hid hbj
      have hcl : feeds (l.take j) ≤ j := by
        have := List.count_le_length (a := (10 : UInt8)) (l := l.take j)
        rw [List.length_take] at this
        unfold feeds; omega
      by_cases hjm : j < m
      · have hjl : j < l.length := by omega
        have hf : feeds (l.take (j + 1)) = feeds (l.take j) + (if l[j]'hjl = 10 then 1 else 0) := by
          rw [List.take_succ_eq_append_getElem hjl, feeds_app, feeds_cons, feeds_nil]; omega
        have HF := Lib.hid hf
        have hct : ∀ q, (((mk l)[j]'q).toNat : Int) = ((l[j]'hjl).toNat : Int) := fun q => by rw [byte_is l j hjl q]
        clear hbj hf
        generalize l[j]'hjl = x at *
        generalize feeds (l.take j) = fj at *
        by_cases hx : x = 10
        · have hxb : ((x.toNat : Int) == 10) = true := by rw [hx]; rfl
          rw [if_pos hx] at HF
          clear hx
          go_wp2_with fail
          go_roundw
          case rel => exact ⟨j + 1, by go_num, by omega, by rw [HF.out]; go_num, HBJ.out⟩
          case measure => simp [slotN]; omega
        · have hxb : ((x.toNat : Int) == 10) = false := beq_eq_false_iff_ne.2 (fun e => hx (UInt8.toNat_inj.1 (by show x.toNat = 10; omega)))
          rw [if_neg hx] at HF
          clear hx
          go_wp2_with fail
          go_roundw
          case rel => exact ⟨j + 1, by go_num, by omega, by rw [HF.out]; rfl, HBJ.out⟩
          case measure => simp [slotN]; omega
      · obtain rfl : j = m := by omega
        have HB4 := Lib.hid (ext_trans HB3.out hbj)
        have HO4 := Lib.hid (own_ext HO3.out hbj)
        obtain ⟨line, hline⟩ : ∃ line, 1 + feeds (l.take j) = line := ⟨_, rfl⟩
        have HLN := Lib.hid hline
        rw [hline]
        rw [hline] at HSC
        have hlineb : line ≤ 20001 := by omega
        clear hbj hline
        obtain ⟨pv, cv, hvv⟩ : ∃ pv cv, u5 = .slice pv acc.length cv := by
          rcases HO4.out.2 with ⟨h, h2⟩ | ⟨g, cap, cur, h, _⟩
          · exact ⟨none, 0, by rw [h, h2]⟩
          · exact ⟨_, _, h⟩
        subst hvv
        cases ok with
        | false =>
          have hR : R = ([], false, line) := by have := HSC.out; rw [if_neg (by simp)] at this; exact this.symm
          subst hR
          go_wp2_with fail
          go_ret3
          exact ⟨rfl, HB4.out⟩
        | true =>
          have hs2 : scanA line (l.drop j) acc = R := by have := HSC.out; rw [if_pos rfl] at this; exact this
          have HS2 := Lib.hid hs2
          clear hs2
          rcases HEND.out rfl with he | ⟨c, r, he, hbl, hsl2⟩
          · have hjl : l.length ≤ j := by
              have := congrArg List.length he
              rw [List.length_drop] at this
              simp at this
              omega
            obtain rfl : j = l.length := by omega
            have hR : R = (acc ++ [endT line], true, 0) := by rw [← HS2.out, he, scanA_nil]
            subst hR
            go_wp2_with (at_builtin; refine app_cells Tryd.underlying23 Tryd.infoTk rfl (by decide) (by decide) rfl _ _ rfl w.heap.size _ acc.length (acc.flatMap Tk.cells) rfl (own_ext HO4.out (ext_alloc (Below.refl _ _) _)) wr.heap.size 1 [.int .i64 5, .string ⟨#[]⟩, .int .i64 0, .int .i64 line] rfl rfl (heap_new' _ _ _ (by simp)) (by intro u hu; simp at hu; rcases hu with rfl | rfl | rfl | rfl <;> rfl) (by omega) (by simp; have := HB4.out.size; omega) ?_; intro v' w5 hown5 hg5)
            go_ret3
            refine ⟨⟨v', rfl, ?_⟩, (ext_alloc HB4.out _).grown hg5 (by simp; have := HB4.out.size; omega) (fun k hk => own_block HO4.out k hk)⟩
            show World.ownsRow w5 w.heap.size 30 4 v' (acc ++ [endT line]).length ((acc ++ [endT line]).flatMap Tk.cells)
            rw [List.length_append, List.flatMap_append]
            exact hown5
          · have hjl : j < l.length := by
              have := congrArg List.length he
              rw [List.length_drop] at this
              simp at this
              omega
            have hex : (mk l).extract j l.length = mk (c :: r) := by
              have := drop_mk (mk l) j
              rw [mk_list, he] at this
              exact this
            have hll : (c :: r).length = l.length - j := by rw [← he, List.length_drop]
            have HTK := Lib.hid (fun w => token_any c r hsl2 (by omega) w)
            have hst := scanA_step line (c :: r) acc (by simp)
            rw [asc_pred blankR blank_lt, hbl, if_neg (by simp), ← he, HS2.out] at hst
            have HST := Lib.hid hst
            have HNF := Lib.hid (fun p (h : pieceQ (mk (c :: r)) (rnL (c :: r)) = some p) => tok_no10 hsl2 h)
            have HKD := Lib.hid (fun p (h : pieceQ (mk (c :: r)) (rnL (c :: r)) = some p) => piece_kind hsl2 h)
            have HPL := Lib.hid (fun p (h : pieceQ (mk (c :: r)) (rnL (c :: r)) = some p) => pieceQ_len (l := c :: r) (by simp) h)
            rw [he] at HST
            clear hst
            go_wp2_with fail
            refine (HTK.out _).mono ?_; rintro e w5 ⟨⟨k, nn, t, q, rfl, hP⟩, g5⟩
            have HB5 := Lib.hid (ext_trans HB4.out g5)
            have HO5 := Lib.hid (own_ext HO4.out g5)
            clear g5 hex HTK
            cases hpq : pieceQ (mk (c :: r)) (rnL (c :: r)) with
            | none =>
              rw [hpq] at hP HST
              have hq0 : q = 0 := hP
              have hR : R = ([], false, line) := HST.out
              subst hq0 hR
              clear hP
              go_wp2_with fail
              go_ret3
              exact ⟨rfl, ext_alloc HB5.out _⟩
            | some p =>
              rw [hpq] at hP HST
              obtain ⟨rfl, rfl, rfl, rfl⟩ : k = p.kind ∧ t = p.text ∧ nn = p.n ∧ q = (p.len : Int) := hP
              obtain ⟨l1, l2⟩ := HPL.out p hpq
              have hne : ((p.len : Int) == 0) = false := beq_eq_false_iff_ne.2 (by omega)
              have hnf := HNF.out p hpq
              have hkd := HKD.out p hpq
              have HFD : Hid (1 + feeds (l.take (j + p.len)) = line) := Lib.hid (by rw [List.take_add, feeds_app, he, feeds_no hnf, Nat.add_zero]; exact HLN.out)
              have HNX : Hid (scanA line (l.drop (j + p.len)) (acc ++ [⟨p.kind, p.text, p.n, (line : Nat)⟩]) = R) := Lib.hid (by
                have := HST.out
                rw [← List.drop_drop, he]
                have e : tokA p line acc = acc ++ [⟨p.kind, p.text, p.n, (line : Nat)⟩] := by unfold tokA; rw [if_pos hkd]
                rw [← e]
                exact this.symm)
              have hpl : j + p.len ≤ l.length := by omega
              clear hnf hkd HST hpq l2 hll
              obtain ⟨pl, pk, pt, pn⟩ := p
              simp only at hne HFD HNX hpl l1
              go_wp2_with (at_builtin; refine app_cells Tryd.underlying23 Tryd.infoTk rfl (by decide) (by decide) rfl _ _ rfl w.heap.size _ acc.length (acc.flatMap Tk.cells) rfl (own_ext HO5.out (by first | exact ext_alloc (ext_alloc (Below.refl _ _) _) _ | exact ext_alloc (ext_set (ext_alloc (Below.refl _ _) _) (Nat.le_refl _) _) _)) (w5.heap.size + 1) 1 [.int .i64 pk, .string pt, .int .i64 pn, .int .i64 line] rfl rfl (heap_new' _ _ _ (by simp)) (by intro u hu; simp at hu; rcases hu with rfl | rfl | rfl | rfl <;> rfl) (by omega) (by simp; have := HB5.out.size; omega) ?_; intro v' w6 hown6 hg6)
              go_roundw
              case rel => exact ⟨j + pl, acc ++ [⟨pk, pt, pn, (line : Nat)⟩], by go_num, hpl, by simp; omega, (ext_alloc (ext_alloc HB5.out _) _).grown hg6 (by simp; have := HB5.out.size; omega) (fun k hk => own_block HO5.out k hk), by rw [List.length_append, List.flatMap_append]; exact hown6, by rw [HFD.out]; exact HNX.out⟩
              case measure => simp [slotN]; omega
end Go.Proofs.YtpoomcejmdlmiaaDoor
