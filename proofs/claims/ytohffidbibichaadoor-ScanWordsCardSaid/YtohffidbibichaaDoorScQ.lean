/- The walk of ScanNumbers: the call answers true and leaves what was there as it was. -/
import Derived.Test.YtohffidbibichaaDoorRows
import Derived.WalkKit
import Derived.ProofKit
import Derived.OpenShut
import Derived.WalkLawsBesides
import Derived.WalkSpells
import Derived.Outline
import Derived.Handy
import Derived.Lib.Hide
import Derived.Lib.OthersKept
import Derived.KernelRfl
import Derived.RegionTactic
import Derived.BigRegion
import Derived.Deep.RegionHeld3
import Derived.Laws.Runes
import Derived.Test.YtohffidbibichaaDoorScO
import Derived.Test.YtohffidbibichaaDoorScP
namespace Go.Proofs.YtohffidbibichaaDoor
open Go.ChangeShapes Go.WideShapes Go.ChangeAt Go.RowKit
set_option linter.unusedVariables false
theorem pickN_nat (c : Int) (n : Nat) (h : 0 < n) : ∃ q : Nat, pickN c n = (q : Int) ∧ q < n := by
  have h1 := pickN_lo c n (by omega)
  have h2 := pickN_hi c n (by omega)
  exact ⟨(pickN c n).toNat, by omega, by omega⟩
theorem RowAt.first {w : World} {v : Value} {t : Tk} {L : List Tk} (h : RowAt w v (t :: L)) : ∃ b cap, v = .slice (some ⟨b, 0, none⟩) (L.length + 1) cap ∧ b < w.heap.size ∧
    w.cell? ⟨b, 0, none⟩ = some (.int .i64 t.kind) ∧ w.cell? ⟨b, 1, none⟩ = some (.string t.text) ∧ w.cell? ⟨b, 2, none⟩ = some (.int .i64 t.n) ∧ w.cell? ⟨b, 3, none⟩ = some (.int .i64 t.line) := by
  rcases h with ⟨_, h⟩ | ⟨b, cap, h1, h2, h3⟩
  · cases h
  · have := h3 0 (by simp)
    simp only [Nat.zero_mul, Nat.zero_add] at this
    exact ⟨b, cap, h1, h2, this⟩
set_option maxRecDepth 100000 in
theorem numbers_walk (n c : Int) (w : World) (hn1 : -9223372036854775808 ≤ n) (hn2 : n ≤ 9223372036854775807) (hc1 : -9223372036854775808 ≤ c) (hc2 : c ≤ 9223372036854775807) (hv : ErrVars w) :
    Calls Tryd.prog 7 #[.int .i64 n, .int .i64 c] w fun e w' => e = .returned (.bool true) ∧ Below w.heap.size w w' := by
  obtain ⟨m, hm, hm2⟩ := pickN_nat n 9223372036854775807 (by decide)
  obtain ⟨q, hq, hq2⟩ := pickN_nat c 8192 (by decide)
  have p1 := Lib.hid (fun w => pick_any n 9223372036854775807 w hn1 hn2 (by decide))
  have p2 := Lib.hid (fun w => pick_any c 8192 w hc1 hc2 (by decide))
  have hm' : pickN n 9223372036854775807 = (m : Int) := hm
  have hq' : pickN c 8192 = (q : Int) := hq
  rw [hm'] at p1; rw [hq'] at p2
  clear hm hq hm' hq'
  have nu := Lib.hid (fun w => num_any m w (by omega))
  have HV := Lib.hid hv; clear hv
  go_enter Tryd.func7, Tryd.ntmps7
  go_wp2_with fail
  refine (awake_any _ HV.out).mono ?_; rintro e w1 ⟨rfl, g1⟩
  go_wp2_with fail
  refine (p1.out _).mono ?_; rintro e w1' ⟨rfl, rfl⟩
  go_wp2_with fail
  refine (nu.out _).mono ?_; rintro e w2 ⟨⟨l, rfl, hl⟩, g2⟩
  have G2 := Lib.hid (ext_trans g1 g2)
  clear g1 g2
  have s1 := Lib.hid (fun w hv => scan_good (mk l) _ w (by have := hl.len (by omega); rw [mk_size]; omega) hv (scan_num hl (by omega)))
  have s2 := Lib.hid (fun w hv => scan_bad (mk (48 :: l)) 1 w (by have := hl.len (by omega); rw [mk_size]; simp; omega) hv (scan_zero hl))
  have hsz : (mk l).size ≤ 19 := by have := hl.len (by omega); rw [mk_size]; omega
  have HV2 := Lib.hid (HV.out.ext G2.out)
  go_wp2_with fail
  refine (s1.out _ HV2.out).mono ?_; rintro e w3 ⟨⟨va, rfl, ra⟩, g3⟩
  have RA := Lib.hid ra; clear ra
  have HV3 := Lib.hid (HV2.out.ext g3)
  have G3 := Lib.hid (ext_trans G2.out g3)
  clear g3 HV2 G2 HV s1
  have h48 : (⟨#[48]⟩ : ByteArray) ++ mk l = mk (48 :: l) := mk_app [48] l
  have h48s : (⟨#[48]⟩ : ByteArray).size = 1 := rfl
  have HL := Lib.hid hl; clear hl
  go_wp2_with fail
  refine (s2.out _ HV3.out).mono ?_; rintro e w4 ⟨rfl, g4⟩
  have HV4 := Lib.hid (HV3.out.ext g4)
  have RA4 := Lib.hid (RA.out.ext g4)
  have G4 := Lib.hid (ext_trans G3.out g4)
  clear g4 HV3 G3 RA s2
  go_wp2_with fail
  refine (scan_bad _ 1 _ (by decide) HV4.out scan_most).mono ?_; rintro e w5 ⟨rfl, g5⟩
  have HV5 := Lib.hid (HV4.out.ext g5)
  have RA5 := Lib.hid (RA4.out.ext g5)
  have G5 := Lib.hid (ext_trans G4.out g5)
  clear g5 HV4 G4 RA4
  have s3 := Lib.hid (fun w hv => scan_good (mk (charW (161 + q))) _ w (by have := (tok_char (161 + q) (by omega) (by omega)).2; rw [mk_size]; omega) hv (scan_char (161 + q) (by omega) (by omega)))
  rw [charW_app] at s3
  go_wp2_with fail
  refine (p2.out _).mono ?_; rintro e w6 ⟨rfl, rfl⟩
  obtain ⟨r, hr, hr1, hr2⟩ : ∃ r : Int, 161 + (q : Int) = r ∧ 161 ≤ r ∧ r < 8353 := ⟨_, rfl, by omega, by omega⟩
  have hr' : ((161 + q : Nat) : Int) = r := by omega
  have hE : (Utf8.encode r).size ≤ 3 := by
    obtain ⟨k, k1, _, k3, _⟩ := enc_dec (161 + q) (by omega) (by omega)
    rw [hr'] at k1
    rw [Lib.size_eq, k1]; exact k3
  rw [hr'] at s3
  have hw : wrap32 r = r := by unfold wrap32; omega
  have h39 : (mk [39]) = ⟨#[39]⟩ := rfl
  rw [h39] at s3
  clear h39 h48 h48s hsz nu p1 p2 hr'
  go_wp2_with fail
  refine (s3.out _ HV5.out).mono ?_; rintro e w6 ⟨⟨vb, rfl, rb⟩, g6⟩
  obtain ⟨ba, ca, rfl, _, a0, a1, a2, a3⟩ := (RA5.out.ext g6).first
  obtain ⟨bb, cb, rfl, _, b0, b1, b2, b3⟩ := rb.first
  have G6 := Lib.hid (ext_trans G5.out g6)
  clear rb g6 G5 RA5 HV5 s3 HL hE hw a1 b1
  dsimp only [endT, List.length] at *
  go_wp2_with fail
  go_ret
  exact ⟨rfl, G6.out⟩
end Go.Proofs.YtohffidbibichaaDoor
