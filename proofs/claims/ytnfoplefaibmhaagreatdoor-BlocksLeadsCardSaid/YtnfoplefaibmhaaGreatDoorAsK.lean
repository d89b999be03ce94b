/- How texts of code are read, line by line. -/
import Derived.Test.YtnfoplefaibmhaaGreatDoorRows
import Derived.WalkKit
import Derived.ProofKit
import Derived.OpenShut
import Derived.WalkLawsBesides
import Derived.WalkSpells
import Derived.Outline
import Derived.Handy
import Derived.Lib.Hide
import Derived.Lib.OthersKept
import Derived.KernelRfl
import Derived.Carry
import Derived.Test.YtnfoplefaibmhaaGreatDoorAsO
import Derived.Test.YtnfoplefaibmhaaGreatDoorAsZ
namespace Go.Proofs.YtnfoplefaibmhaaGreatDoor
open Go.ChangeShapes Go.WideShapes Go.ChangeAt Go.RowKit
set_option linter.unusedVariables false
theorem readA_head {c : UInt8} {r : List UInt8} (h : c ≠ 46) : readA (c :: r) = none :=
  readA_none (fun a _ e => by
    unfold arrLine at e
    have e2 : c :: r = 46 :: ([97, 114, 114, 97, 121, 32] ++ (a.name ++ 32 :: Lib.itoa a.size)) := e
    injection e2 with e3 _
    exact h e3)
theorem readLn_lab {n : List UInt8} (h : labelB n = true) : readLn (n ++ [58]) = some ⟨n, zeroI⟩ := by
  unfold readLn
  rw [if_pos (by simp), List.dropLast_concat, if_pos h]
theorem readLn_ins {x : In} (h : rightB x = true) (hn : I64 x.n) (hl : (txtL x).getLast? ≠ some 58) : readLn (txtL x) = some ⟨[], x⟩ := by
  unfold readLn
  rw [if_neg hl, readI2_some h hn]; rfl
theorem run_cons (p : List UInt8) (r : List (List UInt8)) (i : Nat) (st s : Ps) (t : List UInt8) (hb : bareL p = t) (h : stepPs st i t = some s) : runPs (p :: r) i st = runPs r (i + 1) s := by
  show (match stepPs st i (bareL p) with | some s => runPs r (i + 1) s | none => .inl ((i : Int) + 1)) = _
  rw [hb, h]
end Go.Proofs.YtnfoplefaibmhaaGreatDoor
