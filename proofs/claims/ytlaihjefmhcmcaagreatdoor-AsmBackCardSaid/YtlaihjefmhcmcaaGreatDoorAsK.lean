/- The chapter's example. -/
import Derived.Test.YtlaihjefmhcmcaaGreatDoorRows
import Derived.WalkKit
import Derived.ProofKit
import Derived.OpenShut
import Derived.WalkLawsBesides
import Derived.WalkSpells
import Derived.Outline
import Derived.Handy
import Derived.Lib.Hide
import Derived.Lib.OthersKept
import Derived.KernelRfl
import Derived.Carry
import Derived.Test.YtlaihjefmhcmcaaGreatDoorAsO
import Derived.Test.YtlaihjefmhcmcaaGreatDoorAsP
import Derived.Test.YtlaihjefmhcmcaaGreatDoorAsZ
import Derived.Test.YtlaihjefmhcmcaaGreatDoorAsV
namespace Go.Proofs.YtlaihjefmhcmcaaGreatDoor
open Go.ChangeShapes Go.WideShapes Go.ChangeAt Go.RowKit
set_option linter.unusedVariables false
def exT1 : List UInt8 := [109, 97, 105, 110, 58, 32, 35, 32, 104, 101, 114, 101, 10, 10, 32, 32, 106, 32, 109, 97, 105, 110, 10]
def exT2 : List UInt8 := [109, 97, 105, 110, 58, 10, 9, 106, 32, 102, 10]
def exP1 : List UInt8 := [109, 97, 105, 110, 58, 10, 9, 106, 32, 109, 97, 105, 110, 10]
def exJ (n : List UInt8) : In := ⟨25, 0, 0, 0, 0, n⟩
def exC : Cd := ⟨[⟨[109, 97, 105, 110], zeroI⟩, ⟨[], exJ [109, 97, 105, 110]⟩], []⟩
def exC2 : Cd := ⟨[⟨[109, 97, 105, 110], zeroI⟩, ⟨[], exJ [102]⟩], []⟩
theorem readA_head {c : UInt8} {r : List UInt8} (h : c ≠ 46) : readA (c :: r) = none :=
  readA_none (fun a _ e => by
    unfold arrLine at e
    have e2 : c :: r = 46 :: ([97, 114, 114, 97, 121, 32] ++ (a.name ++ 32 :: Lib.itoa a.size)) := e
    injection e2 with e3 _
    exact h e3)
theorem readLn_lab {n : List UInt8} (h : labelB n = true) : readLn (n ++ [58]) = some ⟨n, zeroI⟩ := by
  unfold readLn
  rw [if_pos (by simp), List.dropLast_concat, if_pos h]
theorem readLn_ins {x : In} (h : rightB x = true) (hn : I64 x.n) (hl : (txtL x).getLast? ≠ some 58) : readLn (txtL x) = some ⟨[], x⟩ := by
  unfold readLn
  rw [if_neg hl, readI2_some h hn]; rfl
theorem ex_tj (n : List UInt8) : txtL (exJ n) = 106 :: 32 :: n := by
  have hh : hasL 25 = [76] := by kernel_rfl
  have hm : nmL 25 = [106] := by kernel_rfl
  unfold txtL
  rw [if_neg (by show hasL 25 ≠ []; rw [hh]; simp)]
  show nmL 25 ++ 32 :: (hasL 25).flatMap (pieceL (exJ n)) = _
  rw [hh, hm]
  simp [piece76, exJ]
theorem ex_l0 : readLn [109, 97, 105, 110, 58] = some ⟨[109, 97, 105, 110], zeroI⟩ := readLn_lab (n := [109, 97, 105, 110]) (by decide)
theorem ex_l1 : readLn [106, 32, 109, 97, 105, 110] = some ⟨[], exJ [109, 97, 105, 110]⟩ := by
  have := readLn_ins (x := exJ [109, 97, 105, 110]) (by kernel_rfl) (show I64 0 from ⟨by decide, by decide⟩) (by rw [ex_tj]; simp)
  rw [ex_tj] at this
  exact this
theorem ex_l2 : readLn [106, 32, 102] = some ⟨[], exJ [102]⟩ := by
  have := readLn_ins (x := exJ [102]) (by kernel_rfl) (show I64 0 from ⟨by decide, by decide⟩) (by rw [ex_tj]; simp)
  rw [ex_tj] at this
  exact this
theorem run_cons (p : List UInt8) (r : List (List UInt8)) (i : Nat) (st s : Ps) (t : List UInt8) (hb : bareL p = t) (h : stepPs st i t = some s) : runPs (p :: r) i st = runPs r (i + 1) s := by
  show (match stepPs st i (bareL p) with | some s => runPs r (i + 1) s | none => .inl ((i : Int) + 1)) = _
  rw [hb, h]
theorem ex_run1 : runPs (splitNL exT1) 0 ⟨[], [], []⟩ = .inr ⟨[], exC.lines, [1, 3]⟩ := by
  have hs : splitNL exT1 = [[109, 97, 105, 110, 58, 32, 35, 32, 104, 101, 114, 101], [], [32, 32, 106, 32, 109, 97, 105, 110], []] := by kernel_rfl
  rw [hs]
  rw [run_cons _ _ 0 _ ⟨[], [⟨[109, 97, 105, 110], zeroI⟩], [1]⟩ [109, 97, 105, 110, 58] (by kernel_rfl) (step_line _ 0 (by simp) (by rw [if_pos rfl]; exact readA_head (by decide)) ex_l0)]
  rw [run_cons _ _ 1 _ ⟨[], [⟨[109, 97, 105, 110], zeroI⟩], [1]⟩ [] (by kernel_rfl) (step_nil _ 1)]
  rw [run_cons _ _ 2 _ ⟨[], exC.lines, [1, 3]⟩ [106, 32, 109, 97, 105, 110] (by kernel_rfl) (step_line _ 2 (by simp) (by rw [if_neg (by simp)]) ex_l1)]
  rw [run_cons _ _ 3 _ ⟨[], exC.lines, [1, 3]⟩ [] (by kernel_rfl) (step_nil _ 3)]
  rfl
theorem ex_run2 : runPs (splitNL exT2) 0 ⟨[], [], []⟩ = .inr ⟨[], exC2.lines, [1, 2]⟩ := by
  have hs : splitNL exT2 = [[109, 97, 105, 110, 58], [9, 106, 32, 102], []] := by kernel_rfl
  rw [hs]
  rw [run_cons _ _ 0 _ ⟨[], [⟨[109, 97, 105, 110], zeroI⟩], [1]⟩ [109, 97, 105, 110, 58] (by kernel_rfl) (step_line _ 0 (by simp) (by rw [if_pos rfl]; exact readA_head (by decide)) ex_l0)]
  rw [run_cons _ _ 1 _ ⟨[], exC2.lines, [1, 2]⟩ [106, 32, 102] (by kernel_rfl) (step_line _ 1 (by simp) (by rw [if_neg (by simp)]) ex_l2)]
  rw [run_cons _ _ 2 _ ⟨[], exC2.lines, [1, 2]⟩ [] (by kernel_rfl) (step_nil _ 2)]
  rfl
theorem ex_f1 : faultL exC = (0, -1) := by kernel_rfl
theorem ex_f2 : faultL exC2 = (61, 1) := by kernel_rfl
theorem ex_p1 : parseL exT1 = (exC, 0, 0) := by
  rw [parse_end ex_run1]
  unfold endPs
  have h : faultL ⟨exC.lines, []⟩ = (0, -1) := ex_f1
  simp only [h]
  rfl
theorem ex_p2 : parseL exT2 = (⟨[], []⟩, 61, 2) := by
  rw [parse_end ex_run2]
  unfold endPs
  have h : faultL ⟨exC2.lines, []⟩ = (61, 1) := ex_f2
  simp only [h]
  rfl
theorem ex_txt8 : cdTxt exC = exP1 := by
  have h : lnTxt ⟨[], exJ [109, 97, 105, 110]⟩ = 9 :: txtL (exJ [109, 97, 105, 110]) ++ [10] := rfl
  unfold cdTxt exC
  simp only [List.flatMap_nil, List.flatMap_cons, List.nil_append, List.append_nil]
  rw [h, ex_tj]
  rfl
theorem ex_fit : CdFit exC := ⟨show LabFit exC.lines from (fun l hl => by
    simp [exC] at hl
    rcases hl with rfl | rfl <;> simp [zeroI, exJ]), show ∀ a ∈ ([] : List Ar), a.name.length ≤ 140737488355328 from (fun a h => by cases h)⟩
theorem ex_flat : flatI exC.lines = [exJ [109, 97, 105, 110]] := by kernel_rfl
theorem ex_to : (flatI exC.lines).map (toL exC) = [0] := by kernel_rfl
theorem ex_n64 : ∀ l ∈ exC.lines, I64 l.ins.n := fun l hl => by
  simp [exC] at hl
  rcases hl with rfl | rfl <;> exact (show I64 0 from ⟨by decide, by decide⟩)
end Go.Proofs.YtlaihjefmhcmcaaGreatDoor
