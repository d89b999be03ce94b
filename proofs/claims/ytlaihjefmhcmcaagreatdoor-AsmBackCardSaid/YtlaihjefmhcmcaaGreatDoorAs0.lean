/- Code, in plain words; where it lies. -/
import Derived.Test.YtlaihjefmhcmcaaGreatDoorRows
import Derived.WalkKit
import Derived.ProofKit
import Derived.OpenShut
import Derived.WalkLawsBesides
import Derived.WalkSpells
import Derived.Handy
import Derived.Lib.Hide
import Derived.Lib.OthersKept
import Derived.Test.YtlaihjefmhcmcaaGreatDoorIn1
import Derived.Below
import Derived.Carry
namespace Go.Proofs.YtlaihjefmhcmcaaGreatDoor
open Go.ChangeShapes Go.WideShapes Go.ChangeAt Go.RowKit
structure Ln where
  label : List UInt8
  ins : In
deriving DecidableEq
structure Ar where
  name : List UInt8
  size : Int
deriving DecidableEq
structure Cd where
  lines : List Ln
  arrays : List Ar
deriving DecidableEq
def hasLab (ls : List Ln) (n : List UInt8) : Bool := ls.any fun l => decide (l.label = n)
def hasArr (rs : List Ar) (n : List UInt8) : Bool := rs.any fun a => decide (a.name = n)
/-- What is wrong with a line, i lines being ahead of it: 0, 60 or 61. -/
def lineE (c : Cd) (i : Nat) (l : Ln) : Int :=
  if l.label ≠ [] then (if labelB l.label = false ∨ l.ins ≠ zeroI then 60 else if hasLab (c.lines.take i) l.label then 61 else 0)
  else if rightB l.ins = false then 60
  else if l.ins.name ≠ [] ∧ (if l.ins.op = 17 then hasArr c.arrays l.ins.name else hasLab c.lines l.ins.name) = false then 61 else 0
def linesE (c : Cd) : List Ln → Nat → Int × Int
  | [], _ => (0, -1)
  | l :: r, i => if lineE c i l ≠ 0 then (lineE c i l, (i : Int)) else linesE c r (i + 1)
def arrsE : List Ar → List (List UInt8) → Bool
  | [], _ => false
  | a :: r, ns => ns.contains a.name || arrsE r (a.name :: ns)
def faultL (c : Cd) : Int × Int :=
  if 40000 < c.lines.length then (1, -1) else if (c.arrays.any fun a => !labelB a.name || decide (a.size < 1 ∨ 1048576 < a.size)) then (1, -1)
  else if arrsE c.arrays [] then (61, -1) else linesE c c.lines 0
def arrTxt (a : Ar) : List UInt8 := [46, 97, 114, 114, 97, 121, 32] ++ a.name ++ 32 :: Lib.itoa a.size ++ [10]
def lnTxt (l : Ln) : List UInt8 := if l.label ≠ [] then l.label ++ [58, 10] else 9 :: txtL l.ins ++ [10]
def cdTxt (c : Cd) : List UInt8 := c.arrays.flatMap arrTxt ++ c.lines.flatMap lnTxt
def flatI (ls : List Ln) : List In := (ls.filter fun l => decide (l.label = [])).map (·.ins)
def aheadL (ls : List Ln) (n : List UInt8) : Nat := ((ls.takeWhile fun l => decide (l.label ≠ n)).filter fun l => decide (l.label = [])).length
def toL (c : Cd) (x : In) : Int := if x.name = [] ∨ x.op = 17 then -1 else aheadL c.lines x.name
/-! Where it lies: a line has seven cells, an array two. -/
def LnAt (w : World) (a : Addr) (l : Ln) : Prop :=
  w.cell? a = some (.string (mk l.label)) ∧ w.cell? (a.add 1) = some (.int .i64 l.ins.op) ∧ w.cell? (a.add 2) = some (.int .i64 l.ins.d) ∧ w.cell? (a.add 3) = some (.int .i64 l.ins.a) ∧ w.cell? (a.add 4) = some (.int .i64 l.ins.b) ∧ w.cell? (a.add 5) = some (.int .i64 l.ins.n) ∧ w.cell? (a.add 6) = some (.string (mk l.ins.name))
def LnsAt (w : World) (v : Value) (L : List Ln) : Prop :=
  L.length ≤ 9223372036854775807 ∧ ∃ p cap, v = .slice p L.length cap ∧ ∀ i (h : i < L.length), ∃ a, p = some a ∧ LnAt w (a.add (i * 7)) (L[i]'h)
def ArAt (w : World) (a : Addr) (x : Ar) : Prop := w.cell? a = some (.string (mk x.name)) ∧ w.cell? (a.add 1) = some (.int .i64 x.size)
def ArsAt (w : World) (v : Value) (L : List Ar) : Prop :=
  L.length ≤ 9223372036854775807 ∧ ∃ p cap, v = .slice p L.length cap ∧ ∀ i (h : i < L.length), ∃ a, p = some a ∧ ArAt w (a.add (i * 2)) (L[i]'h)
theorem at_lt {w : World} {a : Addr} {v : Value} (h : w.cell? a = some v) : a.block < w.heap.size := by
  rcases Nat.lt_or_ge a.block w.heap.size with k | k
  · exact k
  · simp [World.cell?, Array.getElem?_eq_none k] at h
theorem LnAt.ext {w w' : World} {a : Addr} {l : Ln} (h : LnAt w a l) (g : Below w.heap.size w w') : LnAt w' a l := by
  obtain ⟨h0, h1, h2, h3, h4, h5, h6⟩ := h
  exact ⟨(g.cell (at_lt h0)).trans h0, (g.cell (at_lt h1)).trans h1, (g.cell (at_lt h2)).trans h2, (g.cell (at_lt h3)).trans h3, (g.cell (at_lt h4)).trans h4, (g.cell (at_lt h5)).trans h5, (g.cell (at_lt h6)).trans h6⟩
theorem LnsAt.ext {w w' : World} {v : Value} {L : List Ln} (h : LnsAt w v L) (g : Below w.heap.size w w') : LnsAt w' v L := by
  obtain ⟨h1, p, cap, e, h3⟩ := h
  refine ⟨h1, p, cap, e, fun i hi => ?_⟩
  obtain ⟨a, ea, c0⟩ := h3 i hi
  exact ⟨a, ea, c0.ext g⟩
theorem ArAt.ext {w w' : World} {a : Addr} {x : Ar} (h : ArAt w a x) (g : Below w.heap.size w w') : ArAt w' a x := ⟨(g.cell (at_lt h.1)).trans h.1, (g.cell (at_lt h.2)).trans h.2⟩
theorem ArsAt.ext {w w' : World} {v : Value} {L : List Ar} (h : ArsAt w v L) (g : Below w.heap.size w w') : ArsAt w' v L := by
  obtain ⟨h1, p, cap, e, h3⟩ := h
  refine ⟨h1, p, cap, e, fun i hi => ?_⟩
  obtain ⟨a, ea, c0⟩ := h3 i hi
  exact ⟨a, ea, c0.ext g⟩
end Go.Proofs.YtlaihjefmhcmcaaGreatDoor
