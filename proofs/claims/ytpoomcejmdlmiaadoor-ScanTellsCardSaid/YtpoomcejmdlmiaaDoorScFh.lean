/- The walk of ScanTells. -/
import Derived.Test.YtpoomcejmdlmiaaDoorRows
import Derived.WalkKit
import Derived.ProofKit
import Derived.OpenShut
import Derived.WalkLawsBesides
import Derived.WalkSpells
import Derived.Outline
import Derived.Handy
import Derived.Lib.Hide
import Derived.Lib.OthersKept
import Derived.KernelRfl
import Derived.ShutString
import Derived.LaidMore
import Derived.Stop.Joined
import Derived.Stop.LaidErr
import Derived.FnData
import Derived.HandedShaped
import Derived.Shelf.Vars
import Derived.SizedLaws
import Derived.Test.YtpoomcejmdlmiaaDoorScFg
import Derived.Test.YtpoomcejmdlmiaaDoorScO
import Derived.Test.YtpoomcejmdlmiaaDoorScI
namespace Go.Proofs.YtpoomcejmdlmiaaDoor
open Go.ChangeShapes Go.WideShapes Go.ChangeAt Go.RowKit
set_option linter.unusedVariables false
/-- The wrap with all three: what the listed variables hold, the world's shape, the reach. -/
theorem handed_sized {H : Type} {enc : TypeId × Value → H} {a : Assume} {C : Checked} {os : Os} {f : FuncId} {fn : Func} {s : ChangeSpec} {conds : List PathCond} {apart fresh handsOn again : Bool} {X : World → Array Value → Prop}
    (hX : ∀ (w w' : World) (args : Array Value), w.heap = w'.heap → X w args → X w' args)
    (own : ownKnob C.prog.godebug = none) (started : os.Started) (noInit : C.prog.inits.idxOf? f = none) (hfn : C.prog.funcs[f]? = some fn)
    (witness : ∃ (w : World) (tape : Tape) (i : Input), w.os = os ∧ (w.forCall tape i).Shaped C.prog ∧ i.vars = [] ∧ Input.okWide C.prog (w.forCall tape i) .any w.heap.size f i ∧
      ((s.pre enc C.prog fn conds apart (w.forCall tape i).memory i.args ∧ X (w.forCall tape i).memory i.args) ∧ sizedMet enc C.prog fn (OpenSpec.ofChange s) apart (w.forCall tape i).memory i.args) ∧ a.holds C.prog (lone (Frame.enter C.prog f i.args .normal) [] (w.forCall tape i)))
    (contract : ∀ (W : World) (base : Nat) (args : Array Value) (ds gs : List (DataW H)) (before : List MemPlace),
      (∀ (j : Nat) t v, fn.params[j]? = some t → args[j]? = some v → Value.okWide C.prog W .any base t v) →
      DataW.Whole enc C.prog fn.params.toList s.vars apart W args.toList ds gs before → X W args → W.ShapedOpen C.prog →
      (DataW.weightsEach C.prog (fn.params.toList ++ s.plain.varTypes C.prog) (ds ++ gs)).all (· ≤ reachBytes) = true →
      Calls C.prog f args W fun e W' => ∃ v, e = .returned v ∧ s.post enc C.prog fn apart fresh handsOn again W args v W') :
    ReturnsInHanded a C os f .any (fun w args => (s.pre enc C.prog fn conds apart w args ∧ X w args) ∧ sizedMet enc C.prog fn (OpenSpec.ofChange s) apart w args) (s.post enc C.prog fn apart fresh handsOn again) := by
  refine returnsInHanded_of_calls own started noInit witness ?_
  intro w tape i _ hsh _ hok hpre _
  obtain ⟨_, _, _, fn', hfn', _, _, _, _, hval⟩ := hok
  obtain rfl : fn' = fn := Option.some.inj (hfn'.symm.trans hfn)
  obtain ⟨⟨⟨ds, gs, before, hw, _⟩, hx⟩, hz⟩ := hpre
  refine (contract (w.forCall tape i) w.heap.size i.args ds gs before hval (DataW.Whole.of_heap (w' := w.forCall tape i) (by rfl) hw) (hX _ _ _ (by rfl) hx) hsh (hz.weights hw)).mono fun e W' ⟨v, he, hp⟩ => ?_
  subst he
  exact ChangeSpec.post_blind hp
set_option maxRecDepth 100000 in
theorem rword_wide (l : List UInt8) (w : World) (hl : l.length ≤ 140737488355328) : Calls Tryd.prog 11 #[.string (mk l)] w fun e w' => e = .returned (.bool (wordB (mk l))) ∧ w = w' := by
  have hsz : (mk l).size = l.length := rfl
  go_enter Tryd.func11, Tryd.ntmps11
  go_wp2_with fail
  go_loopw [3] (fun i wr => ∃ j : Nat, i = .int .i64 j ∧ j ≤ l.length ∧ Letters (l.take j) ∧ w = wr) (fun i wr => l.length - (match i with | .int _ x => x.toNat | _ => 0))
  case atStart => exact ⟨0, rfl, Nat.zero_le _, (fun c hc => by cases hc), rfl⟩
  case round =>
    obtain ⟨j, rfl, hj, hlt, rfl⟩ := hrel
    have HLT := Lib.hid hlt; clear hlt
    by_cases h : j < l.length
    · have htk : l.take (j + 1) = l.take j ++ [l[j]'h] := by rw [List.take_add_one, List.getElem?_eq_getElem h]; rfl
      have h' : j < (mk l).size := h
      have hg : ((mk l)[j]'h').toNat = (l[j]'h).toNat := rfl
      have hm : l[j]'h ∈ l := List.getElem_mem h
      generalize l[j]'h = c at *
      have hle := Lib.hid (fun w => rletter_any (c.toNat : Int) w)
      cases hc : letterR (c.toNat : Int)
      · have hnw : wordB (mk l) = false := by
          cases hw : wordB (mk l)
          · rfl
          · have := word_letters ((wordB_mem l).1 hw) c hm
            rw [hc] at this; cases this
        have HNW := Lib.hid hnw
        rw [hc] at hle
        clear hnw htk hm hc
        go_wp2_with (go_at_call 19; refine (hle.out _).mono ?_; rintro e w1 ⟨rfl, rfl⟩)
        go_ret
        exact ⟨by rw [HNW.out]; rfl, rfl⟩
      · have HN : Hid (Letters (l.take (j + 1))) := Lib.hid (by
          rw [htk]
          intro x hx
          rcases List.mem_append.1 hx with k | k
          · exact HLT.out x k
          · rw [List.mem_singleton.1 k]; exact hc)
        rw [hc] at hle
        clear htk hm hc
        go_wp2_with (go_at_call 19; refine (hle.out _).mono ?_; rintro e w1 ⟨rfl, rfl⟩)
        go_roundw
        case rel => exact ⟨j + 1, rfl, by omega, HN.out, trivial⟩
        case measure => simp; omega
    · obtain rfl : j = l.length := by omega
      have hall := HLT.out
      rw [List.take_length] at hall
      have HALL := Lib.hid hall; clear hall HLT
      go_wp2_with fail
      go_loopw [4] (fun v wr => ∃ i : Nat, v = .int .i64 i ∧ i ≤ 57 ∧ (∀ j, j < i → hitB l j = false) ∧ w = wr) (fun v wr => 57 - (match v with | .int _ x => x.toNat | _ => 0))
      case atStart => exact ⟨0, rfl, by decide, (fun j hj => by omega), rfl⟩
      case round =>
        obtain ⟨i, rfl, hi, hno, rfl⟩ := hrel
        have HNO := Lib.hid hno; clear hno
        have ht : (mk l).toList = l := mk_tl l
        by_cases h0 : l = []
        · subst h0
          have hw : wordB (mk []) = false := by kernel_rfl
          have HW := Lib.hid hw; clear hw
          go_wp2_with fail
          go_ret
          exact ⟨by rw [HW.out]; rfl, rfl⟩
        have hie : l.isEmpty = false := by
          cases l with
          | nil => exact absurd rfl h0
          | cons a r => rfl
        by_cases hfit : i + l.length + 2 ≤ 57
        · have hfitI : (i : Int) + (l.length : Int) + 2 ≤ 57 := by omega
          have hcut : (⟨#[32, 105, 110, 116, 32, 105, 102, 32, 101, 108, 115, 101, 32, 119, 104, 105, 108, 101, 32, 98, 114, 101, 97, 107, 32, 99, 111, 110, 116, 105, 110, 117, 101, 32, 114, 101, 116, 117, 114, 110, 32, 112, 114, 105, 110, 116, 32, 114, 101, 97, 100, 32, 116, 114, 97, 112, 32]⟩ : ByteArray).extract i (i + l.length + 2) = mk ((namesL.drop i).take (l.length + 2)) := by
            apply bytes_inj
            rw [Lib.extract_data, mk_list]
            have : i + l.length + 2 - i = l.length + 2 := by omega
            rw [this]; rfl
          have hcat1 : (⟨#[32]⟩ : ByteArray) ++ mk l = mk (32 :: l) := mk_app [32] l
          have hcat2 : mk (32 :: l) ++ (⟨#[32]⟩ : ByteArray) = mk (32 :: (l ++ [32])) := mk_app (32 :: l) [32]
          have h32 : (⟨#[32]⟩ : ByteArray).size = 1 := rfl
          have hs2 : (mk (32 :: l)).size ≤ 20001 := by rw [mk_size, List.length_cons]; omega
          have htc : (mk (32 :: (l ++ [32]))).toList = 32 :: (l ++ [32]) := mk_tl _
          have htz : (mk ((namesL.drop i).take (l.length + 2))).toList = (namesL.drop i).take (l.length + 2) := mk_tl _
          have hhit : hitB l i = ((namesL.drop i).take (l.length + 2) == 32 :: (l ++ [32])) := rfl
          have HW : Hid (hitB l i = true → wordB (mk l) = true) := Lib.hid (fun hh => by
            rw [hhit] at hh
            refine (wordB_mem l).2 (mid_word i l (eq_of_beq hh) ?_ h0)
            intro c hc e
            have := HALL.out c hc
            rw [e] at this
            exact absurd this (by decide))
          generalize (namesL.drop i).take (l.length + 2) = Z at *
          generalize 32 :: (l ++ [32]) = Y at *
          cases hb : hitB l i
          · have hne : ¬ Z = Y := by
              intro e
              rw [hb, e] at hhit
              simp at hhit
            have HB := Lib.hid hb
            have hbe : (Z == Y) = false := beq_eq_false_iff_ne.2 hne
            clear hb hhit HW hne
            go_wp2_with fail
            go_roundw
            case rel => exact ⟨i + 1, rfl, by omega, (fun j hj => by
              by_cases e : j = i
              · rw [e]; exact HB.out
              · exact HNO.out j (by omega)), trivial⟩
            case measure => simp; omega
          · have hW := HW.out hb
            have heq : Z = Y := by
              rw [hb] at hhit
              exact eq_of_beq hhit.symm
            subst heq
            have HWW := Lib.hid hW
            clear hb hhit HW hW
            go_wp2_with fail
            go_ret
            exact ⟨by rw [HWW.out]; rfl, rfl⟩
        · have hfitI : 57 < (i : Int) + (l.length : Int) + 2 := by omega
          have hnw : wordB (mk l) = false := by
            cases hw : wordB (mk l)
            · rfl
            · obtain ⟨k, hk1, hk2⟩ := word_hit ((wordB_mem l).1 hw)
              rw [HNO.out k (by omega)] at hk2
              cases hk2
          have HW := Lib.hid hnw; clear hnw
          go_wp2_with fail
          go_ret
          exact ⟨by rw [HW.out]; rfl, rfl⟩
theorem rname_wide (l : List UInt8) (w : World) (hl : l.length ≤ 140737488355328) : Calls Tryd.prog 9 #[.string (mk l)] w fun e w' => e = .returned (.bool (nameB (mk l))) ∧ w = w' := by
  by_cases h : l.length ≤ 20000
  · exact rname_any l w h
  · have hsz : (mk l).size = l.length := rfl
    have H := Lib.hid (show nameB (mk l) = false by unfold nameB; rw [hsz, decide_eq_false (show ¬ l.length ≤ 20 by omega), Bool.and_false]; rfl)
    have h2' : 20 < l.length := by omega
    clear h
    go_enter Tryd.func9, Tryd.ntmps9
    go_wp2_with fail
    go_ret
    exact ⟨by rw [H.out]; rfl, rfl⟩
theorem scanT_len : ∀ f line l acc, (scanT f line l acc).1.length ≤ acc.length + l.length + 1
  | 0, line, l, acc => by
    show (acc ++ [endT line]).length ≤ _
    rw [List.length_append]
    show acc.length + 1 ≤ _
    omega
  | f + 1, line, l, acc => by
    rw [scanT]
    split
    · show (acc ++ [endT line]).length ≤ _
      rw [List.length_append]
      show acc.length + 1 ≤ _
      omega
    · rename_i hl
      have hpos : 0 < l.length := List.length_pos_iff.2 hl
      split
      · have := scanT_len f (if (rnL l == 10) = true then line + 1 else line) (l.drop 1) acc
        rw [List.length_drop] at this
        omega
      · split
        · show 0 ≤ _
          omega
        · rename_i p hp
          have h1 := pieceQ_len hl hp
          have := scanT_len f line (l.drop p.len) (tokA p line acc)
          rw [List.length_drop] at this
          have h2 : (tokA p line acc).length ≤ acc.length + 1 := by
            unfold tokA
            split
            · rw [List.length_append]; exact Nat.le_refl _
            · omega
          omega
theorem scanL_len (l : List UInt8) : (scanL (mk l)).1.length ≤ l.length + 1 := by
  rw [scanL_A, mk_list]
  have := scanT_len l.length 1 l []
  unfold scanA
  simp only [List.length_nil] at this
  omega
theorem sameB_refl (lines : Bool) : ∀ L : List Tk, sameB lines L L = true
  | [] => rfl
  | x :: L => by
    rw [sameB, sameB_refl lines L]
    unfold eqT
    cases lines <;> simp
set_option maxRecDepth 100000 in
set_option maxHeartbeats 2000000 in
theorem tells_walk (l : List UInt8) (w : World) (hl : l.length ≤ 140737488355328) (hv : ErrVars w) : Calls Tryd.prog 3 #[.string (mk l)] w fun e w' => e = .returned (.bool true) ∧ Below w.heap.size w w' := by
  have HV := Lib.hid hv
  have HAW := Lib.hid (awake_any w hv)
  have HN1 := Lib.hid (fun w => name_calls (mk l) w (by rw [mk_size]; omega))
  have HN2 := Lib.hid (fun w => rname_wide l w hl)
  have HW1 := Lib.hid (fun w => word_any (mk l) w)
  have HW2 := Lib.hid (fun w => rword_wide l w hl)
  have hln := scanL_len l
  obtain ⟨R, hR⟩ : ∃ R, scanL (mk l) = R := ⟨_, rfl⟩
  have HS : Hid (l.length ≤ 20000 → ∀ w, ErrVars w → Calls Tryd.prog 5 #[.string (mk l)] w fun e w' => ScanRes R w.heap.size e w' ∧ Below w.heap.size w w') := Lib.hid (fun h w hv => by rw [← hR]; exact scan_calls (mk l) w (by rw [mk_size]; exact h) hv)
  have HT : Hid (l.length ≤ 20000 → ∀ w, Calls Tryd.prog 6 #[.string (mk l)] w fun e w' => ScanRes R w.heap.size e w' ∧ Below w.heap.size w w') := Lib.hid (fun h w => by rw [← hR]; exact rscan_any l w h)
  have HSL : Hid (20000 < l.length → ∀ w, Calls Tryd.prog 5 #[.string (mk l)] w fun e w' => e = .returned (.tuple #[.slice none 0 0, .int .i64 1, .int .i64 0]) ∧ Below w.heap.size w w') := Lib.hid (fun h w => scan_long (mk l) w (by rw [mk_size]; exact h))
  have HTL : Hid (20000 < l.length → ∀ w, Calls Tryd.prog 6 #[.string (mk l)] w fun e w' => e = .returned (.tuple #[.slice none 0 0, .int .i64 1, .int .i64 0]) ∧ Below w.heap.size w w') := Lib.hid (fun h w => rscan_long l w h)
  have HNIL := Lib.hid (fun w => same_calls (.slice none 0 0) (.slice none 0 0) [] [] true w (.inl ⟨rfl, rfl⟩) (.inl ⟨rfl, rfl⟩) (by simp) (by simp))
  rw [sameB_refl] at HNIL
  rw [hR] at hln
  clear hR hv
  generalize nameB (mk l) = b1 at *
  generalize wordB (mk l) = b2 at *
  have q1 : (b1 == b1) = true := by simp
  have q2 : (b2 == b2) = true := by simp
  go_enter Tryd.func3, Tryd.ntmps3
  go_wp2_with fail
  refine HAW.out.mono ?_; rintro e w1 ⟨rfl, g1⟩
  have G1 := Lib.hid g1
  clear g1
  by_cases hlong : l.length ≤ 20000
  · obtain ⟨toks, good, ln⟩ := R
    cases good with
    | true =>
      go_wp2_with fail
      refine (HS.out hlong _ (HV.out.ext G1.out)).mono ?_; rintro e w2 ⟨hres, g2⟩
      obtain ⟨v1, rfl, hrow⟩ := (show ∃ v, e = .returned (.tuple #[v, .int .i64 0, .int .i64 0]) ∧ w2.ownsRow w1.heap.size 30 4 v toks.length (toks.flatMap Tk.cells) from hres)
      have R1 := Lib.hid (row_of_own hrow)
      have G2 := Lib.hid (ext_trans G1.out g2)
      clear hres hrow g2
      go_wp2_with fail
      refine (HT.out hlong _).mono ?_; rintro e w3 ⟨hres, g3⟩
      obtain ⟨v2, rfl, hrow⟩ := (show ∃ v, e = .returned (.tuple #[v, .int .i64 0, .int .i64 0]) ∧ w3.ownsRow w2.heap.size 30 4 v toks.length (toks.flatMap Tk.cells) from hres)
      have R2 := Lib.hid (row_of_own hrow)
      have R1' := Lib.hid (R1.out.ext g3)
      have G3 := Lib.hid (ext_trans G2.out g3)
      clear hres hrow g3
      have hlt : toks.length ≤ 20001 := by have h : toks.length ≤ l.length + 1 := hln; omega
      have HSM := Lib.hid (same_calls v1 v2 toks toks true w3 R1'.out R2.out hlt hlt)
      rw [sameB_refl] at HSM
      go_wp2_with fail
      refine HSM.out.mono ?_; rintro e w4 ⟨rfl, g4⟩
      have G4 := Lib.hid (ext_trans G3.out g4)
      clear g4 HSM
      go_wp2_with fail
      refine (HN1.out _).mono ?_; rintro e w5 ⟨rfl, g5⟩
      have G5 := Lib.hid (ext_trans G4.out g5)
      clear g5
      go_wp2_with fail
      refine (HN2.out _).mono ?_; rintro e w6 ⟨rfl, rfl⟩
      go_wp2_with fail
      refine (HW1.out _).mono ?_; rintro e w6 ⟨rfl, rfl⟩
      go_wp2_with fail
      refine (HW2.out _).mono ?_; rintro e w6 ⟨rfl, rfl⟩
      go_wp2_with fail
      go_ret
      exact ⟨rfl, G5.out⟩
    | false =>
      go_wp2_with fail
      refine (HS.out hlong _ (HV.out.ext G1.out)).mono ?_; rintro e w2 ⟨hres, g2⟩
      obtain rfl : e = .returned (.tuple #[.slice none 0 0, .int .i64 20, .int .i64 ln]) := hres
      have G2 := Lib.hid (ext_trans G1.out g2)
      clear g2
      go_wp2_with fail
      refine (HT.out hlong _).mono ?_; rintro e w3 ⟨hres, g3⟩
      obtain rfl : e = .returned (.tuple #[.slice none 0 0, .int .i64 20, .int .i64 ln]) := hres
      have G3 := Lib.hid (ext_trans G2.out g3)
      clear g3
      go_wp2_with fail
      refine (HNIL.out _).mono ?_; rintro e w4 ⟨rfl, g4⟩
      have G4 := Lib.hid (ext_trans G3.out g4)
      have qn : ((ln : Int) == (ln : Int)) = true := by simp
      clear g4
      go_wp2_with fail
      refine (HN1.out _).mono ?_; rintro e w5 ⟨rfl, g5⟩
      have G5 := Lib.hid (ext_trans G4.out g5)
      clear g5
      go_wp2_with fail
      refine (HN2.out _).mono ?_; rintro e w6 ⟨rfl, rfl⟩
      go_wp2_with fail
      refine (HW1.out _).mono ?_; rintro e w6 ⟨rfl, rfl⟩
      go_wp2_with fail
      refine (HW2.out _).mono ?_; rintro e w6 ⟨rfl, rfl⟩
      go_wp2_with fail
      go_ret
      exact ⟨rfl, G5.out⟩
  · have hlong : 20000 < l.length := by omega
    go_wp2_with fail
    refine (HSL.out hlong _).mono ?_; rintro e w2 ⟨rfl, g2⟩
    have G2 := Lib.hid (ext_trans G1.out g2)
    clear g2
    go_wp2_with fail
    refine (HTL.out hlong _).mono ?_; rintro e w3 ⟨rfl, g3⟩
    have G3 := Lib.hid (ext_trans G2.out g3)
    clear g3
    go_wp2_with fail
    refine (HNIL.out _).mono ?_; rintro e w4 ⟨rfl, g4⟩
    have G4 := Lib.hid (ext_trans G3.out g4)
    clear g4
    go_wp2_with fail
    refine (HN1.out _).mono ?_; rintro e w5 ⟨rfl, g5⟩
    have G5 := Lib.hid (ext_trans G4.out g5)
    clear g5
    go_wp2_with fail
    refine (HN2.out _).mono ?_; rintro e w6 ⟨rfl, rfl⟩
    go_wp2_with fail
    refine (HW1.out _).mono ?_; rintro e w6 ⟨rfl, rfl⟩
    go_wp2_with fail
    refine (HW2.out _).mono ?_; rintro e w6 ⟨rfl, rfl⟩
    go_wp2_with fail
    go_ret
    exact ⟨rfl, G5.out⟩
end Go.Proofs.YtpoomcejmdlmiaaDoor
