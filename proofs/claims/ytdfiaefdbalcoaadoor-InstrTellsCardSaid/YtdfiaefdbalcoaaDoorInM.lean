/- The walk of InstrCut. -/
import Derived.Test.YtdfiaefdbalcoaaDoorRows
import Derived.WalkKit
import Derived.ProofKit
import Derived.OpenShut
import Derived.WalkLawsBesides
import Derived.WalkSpells
import Derived.Outline
import Derived.Handy
import Derived.Lib.Hide
import Derived.Lib.OthersKept
import Derived.KernelRfl
import Derived.Test.YtdfiaefdbalcoaaDoorInL
namespace Go.Proofs.YtdfiaefdbalcoaaDoor
open Go.ChangeShapes Go.WideShapes Go.ChangeAt Go.RowKit
set_option linter.unusedVariables false
def In.Cut (l : List UInt8) (x y : In) (e : Int) : Prop := (e = 60 ∧ y = zeroI) ∨ (e = 0 ∧ y ≠ x)
def CutRes (x : In) (e : Ending) : Prop := ∃ (y : In) (n : Int), e = .returned (.tuple #[inV y, .int .i64 n]) ∧ ((n = 60 ∧ y = zeroI) ∨ (n = 0 ∧ y ≠ x))
/-- Another text is another instruction's, or none's. -/
theorem parse_cut (x : In) (h : rightB x = true) (l : List UInt8) (hl : l.length ≤ 100000) (hne : txtL x ≠ l) (w : World) (hv : Env w) : Calls Tryd.prog 21 #[.string (mk l)] w fun e w' => CutRes x e ∧ Below w.heap.size w w' := by
  refine (parse_any l hl w hv).mono ?_
  rintro e w' ⟨⟨y, h1, h2, h3, rfl⟩ | ⟨h1, rfl⟩, g⟩
  · exact ⟨⟨y, 0, rfl, .inr ⟨rfl, fun e => hne (by rw [← e]; exact h3)⟩⟩, g⟩
  · exact ⟨⟨zeroI, 60, rfl, .inl ⟨rfl, rfl⟩⟩, g⟩
theorem long_fin : ∀ k : Fin 28, 3 ≤ (nmL ((k.val : Int) + 1)).length ∨ (2 ≤ (nmL ((k.val : Int) + 1)).length ∧ hasL ((k.val : Int) + 1) ≠ []) ∨ hasL ((k.val : Int) + 1) = [76] := by decide +kernel
theorem txt_long {x : In} (h : rightB x = true) (hn : I64 x.n) : 3 ≤ (txtL x).length := by
  have hop := right_op h
  have hk : 3 ≤ (nmL x.op).length ∨ (2 ≤ (nmL x.op).length ∧ hasL x.op ≠ []) ∨ hasL x.op = [76] := by
    obtain ⟨k, hk⟩ := op_nat hop
    rw [hk]; exact long_fin k
  have hnm := (nm_len hop).1
  unfold txtL
  rcases hk with k | ⟨k1, k2⟩ | k
  · split
    · exact k
    · rw [List.length_append]; omega
  · rw [if_neg k2, List.length_append, List.length_cons]; omega
  · rw [right_eq] at h
    unfold rightE at h
    rw [k] at h
    have hl : labelB x.name = true := by
      simp only [Bool.and_eq_true] at h
      exact h.2
    have := (lab_all hl).2.1
    have e : argsL x = x.name := by
      unfold argsL
      rw [k]
      simp [piece76]
    rw [if_neg (by rw [k]; simp), e, List.length_append, List.length_cons]; omega
theorem in_ext {y x : In} (h0 : y.op = x.op) (h1 : y.d = x.d) (h2 : y.a = x.a) (h3 : y.b = x.b) (h4 : y.n = x.n) (h5 : y.name = x.name) : y = x := by
  cases y; cases x; simp_all
theorem one_byte (w : World) (b : UInt8) (k : Nat) (hk : k = w.heap.size) :
    (convert 45 9 (.slice (some ⟨k, 0, none⟩) 1 1)).run Tryd.prog (w.alloc (.cells #[.int .u8 (b.toNat : Int)] 5)) = .ok (.string (mk [b])) (w.alloc (.cells #[.int .u8 (b.toNat : Int)] 5)) := by
  subst hk
  refine run_convert_bytes_back (w.alloc (.cells #[.int .u8 (b.toNat : Int)] 5)) _ _ 5 ⟨w.heap.size, 0, none⟩ 1 [b] (by kernel_rfl) (by kernel_rfl) (by kernel_rfl) ?_
  intro j hj
  obtain rfl : j = 0 := by simpa using hj
  exact cell_row (heap_new w _) 0
set_option maxRecDepth 100000 in
set_option maxHeartbeats 8000000 in
theorem cut_walk (raw : In) (c : Int) (hraw : AllI raw) (hc : I64 c) (w : World) (hv : Env w) : Calls Tryd.prog 8 #[inV raw, .int .i64 c] w fun e w' => e = .returned (.bool true) ∧ Below w.heap.size w w' := by
  have HV := Lib.hid hv
  have HAW := Lib.hid (fun w hv => awake_any w hv)
  have HFI := Lib.hid (fun w => fit_any raw hraw w)
  obtain ⟨hr, hn⟩ := fit_right raw hraw.2.2.2.2
  have HPR := Lib.hid (fun w hv => print_yes (fitL raw) w hn hr hv)
  have hlen := txt_len hr hn
  have hlong := txt_long hr hn
  have HP1 := Lib.hid (fun w hv => parse_cut (fitL raw) hr ((txtL (fitL raw)).take ((txtL (fitL raw)).length - 1)) (by rw [List.length_take]; omega) (fun e => by have := congrArg List.length e; rw [List.length_take] at this; omega) w hv)
  obtain ⟨q, hq, hq2⟩ := pickN_nat c 256 (by decide)
  have HPI : Hid (∀ w, Calls Tryd.prog 20 #[.int .i64 c, .int .i64 256] w fun e w' => e = .returned (.int .i64 (q : Int)) ∧ w = w') := Lib.hid (fun w => (pick_any c 256 w hc (by decide)).mono fun e w' h => ⟨by rw [← hq]; exact h.1, h.2⟩)
  obtain ⟨b, hb⟩ : ∃ b : UInt8, b.toNat = q := ⟨UInt8.ofNat q, by rw [UInt8.toNat_ofNat', Nat.mod_eq_of_lt (by omega)]⟩
  have HP2 := Lib.hid (fun w hv => parse_cut (fitL raw) hr (txtL (fitL raw) ++ [b]) (by rw [List.length_append]; simp; omega) (fun e => by have := congrArg List.length e; rw [List.length_append] at this; simp at this) w hv)
  subst hb
  have hcat : mk (txtL (fitL raw)) ++ mk [b] = mk (txtL (fitL raw) ++ [b]) := mk_app _ _
  have hex : (mk (txtL (fitL raw))).extract 0 ((txtL (fitL raw)).length - 1) = mk ((txtL (fitL raw)).take ((txtL (fitL raw)).length - 1)) := take_mk _ _
  have hsz : (mk (txtL (fitL raw))).size = (txtL (fitL raw)).length := rfl
  have hsb : (mk [b]).size = 1 := rfl
  obtain ⟨m, hm, hm2⟩ : ∃ m : Nat, (txtL (fitL raw)).length - 1 = m ∧ ((txtL (fitL raw)).length : Int) - 1 = (m : Int) := ⟨_, rfl, by omega⟩
  rw [hm] at hex HP1
  have hm3 : max (m : Int) 0 = (m : Int) := by omega
  have hm4 : m ≤ (txtL (fitL raw)).length := by omega
  unfold inV at HFI HPR ⊢
  clear hv hq hm hr hn
  generalize (txtL (fitL raw)).take m = T1 at *
  generalize txtL (fitL raw) ++ [b] = T2 at *
  generalize txtL (fitL raw) = T at *
  generalize fitL raw = x at *
  go_enter Tryd.func8, Tryd.ntmps8
  go_wp2_with fail
  refine (HAW.out _ (HV.out.ext (ext_alloc (Below.refl _ _) _))).mono ?_; rintro e w1 ⟨rfl, g1⟩
  have B1 := (g1.block w.heap.size (by simp)).trans (heap_new w _)
  have G1 := Lib.hid (ext_trans (ext_alloc (Below.refl w.heap.size w) _) g1)
  obtain ⟨⟨c0, c1, c2, c3, c4, c5⟩, _, _, _, _, _, _⟩ := six_at B1
  clear B1 g1
  go_wp2_with fail
  refine (HFI.out _).mono ?_; rintro e w2 ⟨rfl, g2⟩
  have G2 := Lib.hid (ext_trans G1.out g2)
  clear c0 c1 c2 c3 c4 c5 g2 G1
  go_wp2_with fail
  refine (HPR.out _ (HV.out.ext (ext_alloc G2.out _))).mono ?_; rintro e w3 ⟨rfl, g3⟩
  have BX3 := Lib.hid ((g3.block w2.heap.size (by simp)).trans (heap_new w2 _))
  have G3 := Lib.hid (ext_trans (ext_alloc G2.out _) g3)
  have l3 := (Array.getElem?_eq_some_iff.1 BX3.out).1
  clear g3 G2
  go_wp2_with fail
  refine (HP1.out _ (HV.out.ext G3.out)).mono ?_; rintro e w4 ⟨⟨y, n, rfl, hyn⟩, g4⟩
  have BX4 := Lib.hid ((g4.block w2.heap.size l3).trans BX3.out)
  have G4 := Lib.hid (ext_trans G3.out g4)
  have l4 := (Array.getElem?_eq_some_iff.1 BX4.out).1
  have HY := Lib.hid hyn
  clear g4 G3 BX3 hyn hex
  unfold inV
  have hby := one_byte (w4.alloc (.cells #[.int .i64 y.op, .int .i64 y.d, .int .i64 y.a, .int .i64 y.b, .int .i64 y.n, .string (mk y.name)] 23)) b (w4.heap.size + 1) (by simp)
  go_wp2_with fail
  refine (HPI.out _).mono ?_; rintro e w5 ⟨rfl, rfl⟩
  go_wp2_with fail
  have hl5 : w2.heap.size < (w4.alloc (.cells #[.int .i64 y.op, .int .i64 y.d, .int .i64 y.a, .int .i64 y.b, .int .i64 y.n, .string (mk y.name)] 23)).heap.size := by simp; omega
  have BX5 := (Lib.alloc_old (w4.alloc (.cells #[.int .i64 y.op, .int .i64 y.d, .int .i64 y.a, .int .i64 y.b, .int .i64 y.n, .string (mk y.name)] 23)) (.cells #[.int .u8 (b.toNat : Int)] 5) w2.heap.size hl5).trans ((Lib.alloc_old _ _ _ l4).trans BX4.out)
  have BY5 := (Lib.alloc_old (w4.alloc (.cells #[.int .i64 y.op, .int .i64 y.d, .int .i64 y.a, .int .i64 y.b, .int .i64 y.n, .string (mk y.name)] 23)) (.cells #[.int .u8 (b.toNat : Int)] 5) w4.heap.size (by simp)).trans (heap_new w4 _)
  refine (HP2.out _ (HV.out.ext (ext_alloc (ext_alloc G4.out _) _))).mono ?_; rintro e w6 ⟨⟨z, n2, rfl, hzn⟩, g6⟩
  have BX6 := (g6.block w2.heap.size (by simp; omega)).trans BX5
  have BY6 := (g6.block w4.heap.size (by simp; omega)).trans BY5
  have G6 := Lib.hid (ext_trans (ext_alloc (ext_alloc G4.out _) _) g6)
  have HZ := Lib.hid hzn
  have hlx := (Array.getElem?_eq_some_iff.1 BX6).1
  have hly := (Array.getElem?_eq_some_iff.1 BY6).1
  obtain ⟨⟨c0, c1, c2, c3, c4, c5⟩, _, _, _, _, _, _⟩ := six_at BX6
  obtain ⟨⟨d0, d1, d2, d3, d4, d5⟩, _, _, _, _, _, _⟩ := six_at BY6
  clear g6 hzn BX5 BY5 BX6 BY6 hby hcat
  unfold inV
  have hnil : mk [] = ⟨#[]⟩ := rfl
  have tx : (mk x.name).toList = x.name := mk_tl _
  have ty : (mk y.name).toList = y.name := mk_tl _
  have tz : (mk z.name).toList = z.name := mk_tl _
  rcases HY.out with ⟨h1, h2⟩ | ⟨h1, hy⟩
  · clear HY ty
    subst h1 h2
    simp only [zeroI, hnil] at d0 d1 d2 d3 d4 d5 ⊢
    rcases HZ.out with ⟨h1, h2⟩ | ⟨h1, hz⟩
    · clear HZ tz
      subst h1 h2
      simp only [zeroI, hnil]
      clear hnil
      go_wp2_with fail
      go_ret
      exact ⟨rfl, ext_alloc G6.out _⟩
    · have HNE := Lib.hid hz
      clear HZ hnil hz
      subst h1
      go_wp2_with fail
      all_goals first
        | (go_ret; exact ⟨rfl, ext_alloc G6.out _⟩)
        | exact absurd (in_ext ‹_› ‹_› ‹_› ‹_› ‹_› ‹_›) HNE.out
  · have HNY := Lib.hid hy
    clear HY hy
    subst h1
    rcases HZ.out with ⟨h1, h2⟩ | ⟨h1, hz⟩
    · clear HZ tz
      subst h1 h2
      simp only [zeroI, hnil]
      clear hnil
      go_wp2_with fail
      all_goals first
        | (go_ret; exact ⟨rfl, ext_alloc G6.out _⟩)
        | exact absurd (in_ext ‹_› ‹_› ‹_› ‹_› ‹_› ‹_›) HNY.out
    · have HNE := Lib.hid hz
      clear HZ hnil hz
      subst h1
      go_wp2_with fail
      all_goals first
        | (go_ret; exact ⟨rfl, ext_alloc G6.out _⟩)
        | exact absurd (in_ext ‹_› ‹_› ‹_› ‹_› ‹_› ‹_›) HNE.out
        | exact absurd (in_ext ‹_› ‹_› ‹_› ‹_› ‹_› ‹_›) HNY.out
end Go.Proofs.YtdfiaefdbalcoaaDoor
