/- The chapter's example. -/
import Derived.Test.YtdfiaefdbalcoaaDoorRows
import Derived.WalkKit
import Derived.ProofKit
import Derived.OpenShut
import Derived.WalkLawsBesides
import Derived.WalkSpells
import Derived.Outline
import Derived.Handy
import Derived.Lib.Hide
import Derived.Lib.OthersKept
import Derived.KernelRfl
import Derived.Test.YtdfiaefdbalcoaaDoorInH
import Derived.Test.YtdfiaefdbalcoaaDoorInJ
import Derived.Test.YtdfiaefdbalcoaaDoorInK
namespace Go.Proofs.YtdfiaefdbalcoaaDoor
open Go.ChangeShapes Go.WideShapes Go.ChangeAt Go.RowKit
set_option linter.unusedVariables false
theorem parse_good (x : In) (h : rightB x = true) (hn : I64 x.n) (w : World) (hv : Env w) : Calls Tryd.prog 21 #[.string (mk (txtL x))] w fun e w' => e = .returned (.tuple #[inV x, .int .i64 0]) ∧ Below w.heap.size w w' := by
  refine (parse_any (txtL x) (by have := txt_len h hn; omega) w hv).mono ?_
  rintro e w' ⟨⟨y, h1, h2, h3, rfl⟩ | ⟨h1, rfl⟩, g⟩
  · exact ⟨by rw [txt_inj h1 h h2 hn h3], g⟩
  · exact absurd rfl (h1 x h hn)
theorem parse_none (l : List UInt8) (hl : l.length ≤ 100000) (h : ∀ x, rightB x = true → I64 x.n → txtL x ≠ l) (w : World) (hv : Env w) : Calls Tryd.prog 21 #[.string (mk l)] w fun e w' => e = .returned (.tuple #[inV zeroI, .int .i64 60]) ∧ Below w.heap.size w w' := by
  refine (parse_any l hl w hv).mono ?_
  rintro e w' ⟨⟨y, h1, h2, h3, rfl⟩ | ⟨h1, rfl⟩, g⟩
  · exact absurd h3 (h y h1 h2)
  · exact ⟨rfl, g⟩
def exI : In := ⟨19, 5, 2, 0, -8, []⟩
theorem itoa_dig (i : Nat) (h : i < 10) : Lib.itoa (i : Int) = [UInt8.ofNat (48 + i)] := by rw [Lib.itoa_nonneg, Lib.decDigits_one h]
theorem itoa_m8 : Lib.itoa (-8) = [45, 56] := by
  have := Lib.itoa_neg 8 (by decide)
  rw [Lib.decDigits_one (by decide)] at this
  exact this
theorem ex_txt : txtL exI = [108, 100, 32, 120, 53, 44, 32, 45, 56, 40, 120, 50, 41] := by
  have h5 : Lib.itoa 5 = [53] := itoa_dig 5 (by decide)
  have h2 : Lib.itoa 2 = [50] := itoa_dig 2 (by decide)
  have hh : hasL 19 = [68, 44, 32, 83, 40, 65, 41] := by kernel_rfl
  have hm : nmL 19 = [108, 100] := by kernel_rfl
  have e : txtL exI = nmL 19 ++ 32 :: (hasL 19).flatMap (pieceL exI) := by
    unfold txtL
    rw [if_neg (by show hasL 19 ≠ []; rw [hh]; simp)]; rfl
  rw [e, hh, hm]
  simp only [List.flatMap_cons, List.flatMap_nil, piece68, piece83, piece65, piece44, piece32, piece40, piece41]
  show [108, 100] ++ 32 :: ((120 :: Lib.itoa 5) ++ ([44] ++ ([32] ++ (Lib.itoa (-8) ++ ([40] ++ ((120 :: Lib.itoa 2) ++ ([41] ++ []))))))) = _
  rw [h5, h2, itoa_m8]; rfl
theorem ex_right : rightB exI = true := by kernel_rfl
theorem ex_n : I64 exI.n := ⟨by decide, by decide⟩
theorem ex_bad : ∀ x, rightB x = true → I64 x.n → txtL x ≠ [108, 100, 32, 120, 53, 44, 45, 56, 40, 120, 50, 41] := by
  intro x h hn e
  obtain ⟨h1, h2⟩ := cut_txt x (right_op h)
  rw [e] at h1 h2
  have c1 : cut1 [108, 100, 32, 120, 53, 44, 45, 56, 40, 120, 50, 41] = nmL 19 := by kernel_rfl
  rw [c1] at h1
  have ho : x.op = 19 := (nm_inj (by kernel_rfl) (right_op h) h1).symm
  have hr := read_args x h hn
  rw [← h2, ho] at hr
  have c2 : readI (cut2 [108, 100, 32, 120, 53, 44, 45, 56, 40, 120, 50, 41]) (hasL 19) = ⟨0, 5, 2, 0, 8, []⟩ := by kernel_rfl
  rw [c2] at hr
  obtain ⟨op, d, a, b, n, name⟩ := x
  simp only [In.mk.injEq] at hr
  obtain ⟨_, rfl, rfl, rfl, rfl, rfl⟩ := hr
  simp only at ho
  subst ho
  have h5 : Lib.itoa 5 = [53] := itoa_dig 5 (by decide)
  have h2' : Lib.itoa 2 = [50] := itoa_dig 2 (by decide)
  have h8 : Lib.itoa 8 = [56] := itoa_dig 8 (by decide)
  have hh : hasL 19 = [68, 44, 32, 83, 40, 65, 41] := by kernel_rfl
  have hm : nmL 19 = [108, 100] := by kernel_rfl
  have e2 : txtL ⟨19, 5, 2, 0, 8, []⟩ = [108, 100] ++ 32 :: ((120 :: Lib.itoa 5) ++ ([44] ++ ([32] ++ (Lib.itoa 8 ++ ([40] ++ ((120 :: Lib.itoa 2) ++ ([41] ++ []))))))) := by
    unfold txtL
    rw [if_neg (by show hasL 19 ≠ []; rw [hh]; simp)]
    show nmL 19 ++ 32 :: (hasL 19).flatMap _ = _
    rw [hh, hm]; rfl
  rw [e2, h5, h2', h8] at e
  exact absurd e (by decide)
theorem ex_reads : readsL exI = [2] := by kernel_rfl
theorem ex_writes : writesL exI = 5 := by kernel_rfl
theorem ex_label : labelB [109, 97, 105, 110] = true := by kernel_rfl
set_option maxRecDepth 100000 in
set_option maxHeartbeats 8000000 in
theorem awake_any (w : World) (hv : Env w) : Calls Tryd.prog 9 #[] w fun e w' => e = .returned (.bool true) ∧ Below w.heap.size w w' := by
  have s1 := Lib.hid (fun w hv => parse_good exI ex_right ex_n w hv)
  have s2 := Lib.hid (fun w hv => print_yes exI w ex_n ex_right hv)
  rw [ex_txt] at s1 s2
  have hm1 : mk [108, 100, 32, 120, 53, 44, 32, 45, 56, 40, 120, 50, 41] = ⟨#[108, 100, 32, 120, 53, 44, 32, 45, 56, 40, 120, 50, 41]⟩ := rfl
  rw [hm1] at s2
  clear hm1
  have s3 := Lib.hid (fun w hv => parse_none [108, 100, 32, 120, 53, 44, 45, 56, 40, 120, 50, 41] (by decide) ex_bad w hv)
  have s4 := Lib.hid (fun w => reads_any exI w (by decide))
  rw [ex_reads] at s4
  have s5 := Lib.hid (fun w => writes_any exI w (by decide))
  rw [ex_writes] at s5
  have s6 := Lib.hid (fun w => right_any exI w (by decide))
  rw [ex_right] at s6
  have s7 := Lib.hid (fun w => label_any [109, 97, 105, 110] w (by decide))
  rw [ex_label] at s7
  have HV := Lib.hid hv
  clear hv
  have HX : inV exI = .agg #[.int .i64 19, .int .i64 5, .int .i64 2, .int .i64 0, .int .i64 (-8), .string ⟨#[]⟩] := rfl
  have HZ : inV zeroI = .agg #[.int .i64 0, .int .i64 0, .int .i64 0, .int .i64 0, .int .i64 0, .string ⟨#[]⟩] := rfl
  rw [HX] at s1 s2 s4 s5 s6
  rw [HZ] at s3
  clear HX HZ
  go_enter Tryd.func9, Tryd.ntmps9
  go_wp2_with fail
  refine (s1.out _ HV.out).mono ?_; rintro e w1 ⟨rfl, g1⟩
  have HV1 := Lib.hid (HV.out.ext (ext_alloc g1 (.cells #[.int .i64 19, .int .i64 5, .int .i64 2, .int .i64 0, .int .i64 (-8), .string ⟨#[]⟩] 23)))
  go_wp2_with fail
  refine (s2.out _ HV1.out).mono ?_; rintro e w2 ⟨rfl, g2⟩
  have B2 := Lib.hid ((g2.block w1.heap.size (by simp)).trans (heap_new w1 _))
  have G2 := Lib.hid (ext_trans (ext_alloc g1 _) g2)
  have HV2 := Lib.hid (HV1.out.ext g2)
  clear g1 g2 HV1
  go_wp2_with fail
  refine (s3.out _ HV2.out).mono ?_; rintro e w3 ⟨rfl, g3⟩
  have l2 := (Array.getElem?_eq_some_iff.1 B2.out).1
  have B3 := (g3.block w1.heap.size l2).trans B2.out
  have G3 := Lib.hid (ext_trans G2.out g3)
  have l3 := (Array.getElem?_eq_some_iff.1 B3).1
  obtain ⟨⟨c0, c1, c2, c3, c4, c5⟩, _, _, _, _, _, _⟩ := six_at B3
  have B3 := Lib.hid B3
  clear g3 B2 G2 HV2
  go_wp2_with fail
  refine (s4.out _).mono ?_; rintro e w4 ⟨⟨v, rfl, hv⟩, g4⟩
  obtain ⟨bb, cap, rfl⟩ : ∃ bb cap, v = .slice (some ⟨bb, 0, none⟩) 1 cap := by
    rcases hv with ⟨_, h⟩ | ⟨bb, cap, h, _⟩
    · cases h
    · exact ⟨bb, cap, h⟩
  clear hv
  have B4 := (g4.block w1.heap.size (by simp; omega)).trans ((Lib.alloc_old _ _ _ l3).trans B3.out)
  have G4 := Lib.hid (ext_trans (ext_alloc G3.out _) g4)
  have l4 := (Array.getElem?_eq_some_iff.1 B4).1
  clear c0 c1 c2 c3 c4 c5
  obtain ⟨⟨c0, c1, c2, c3, c4, c5⟩, _, _, _, _, _, _⟩ := six_at B4
  have B4 := Lib.hid B4
  clear g4 B3 G3
  go_wp2_with fail
  refine (s5.out _).mono ?_; rintro e w5 ⟨rfl, g5⟩
  have B5 := (g5.block w1.heap.size l4).trans B4.out
  have G5 := Lib.hid (ext_trans G4.out g5)
  have l5 := (Array.getElem?_eq_some_iff.1 B5).1
  clear c0 c1 c2 c3 c4 c5
  obtain ⟨⟨c0, c1, c2, c3, c4, c5⟩, _, _, _, _, _, _⟩ := six_at B5
  have B5 := Lib.hid B5
  clear g5 B4 G4
  go_wp2_with fail
  refine (s6.out _).mono ?_; rintro e w6 ⟨rfl, g6⟩
  have G6 := Lib.hid (ext_trans G5.out g6)
  clear c0 c1 c2 c3 c4 c5 g6 B5 G5
  go_wp2_with fail
  refine (s7.out _).mono ?_; rintro e w7 ⟨rfl, rfl⟩
  go_wp2_with fail
  go_ret
  exact ⟨rfl, G6.out⟩
end Go.Proofs.YtdfiaefdbalcoaaDoor
