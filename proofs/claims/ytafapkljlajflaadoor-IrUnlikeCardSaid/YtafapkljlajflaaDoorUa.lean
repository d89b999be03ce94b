/- Units, in plain words; nothing of the program stands here. -/
import Derived.Test.YtafapkljlajflaaDoorUm0
namespace Go.Proofs.YtafapkljlajflaaDoor
open Go.RowKit
structure Ar where
  name : List UInt8
  size : Int
deriving DecidableEq
structure Xn where
  kind : Int
  d : Int
  a : Int
  b : Int
  op : Int
  n : Int
  name : List UInt8
  args : List Int
deriving DecidableEq
structure Tm where
  kind : Int
  a : Int
  to : Int
  els : Int
deriving DecidableEq
structure Bk where
  ins : List Xn
  term : Tm
deriving DecidableEq
structure Fl where
  name : List UInt8
  params : Int
  values : Int
  blocks : List Bk
deriving DecidableEq
structure Un where
  arrays : List Ar
  flows : List Fl
deriving DecidableEq
/-! What instructions have. -/
def hasK (k : Int) : Int := if k = 1 then 9 else if k = 2 then 3 else if k = 3 then 19 else if k = 4 then 39 else if k = 5 then 67 else if k = 6 then 70 else if k = 7 then 1 else if k = 8 then 2 else if k = 9 then 129 else 0
def hD (k : Int) : Bool := decide (k = 1 ∨ k = 2 ∨ k = 3 ∨ k = 4 ∨ k = 5 ∨ k = 7 ∨ k = 9)
def hA (k : Int) : Bool := decide (k = 2 ∨ k = 3 ∨ k = 4 ∨ k = 5 ∨ k = 6 ∨ k = 8)
def hB (k : Int) : Bool := decide (k = 4 ∨ k = 6)
def usesL (x : Xn) : List Int := (if hA x.kind then [x.a] else []) ++ (if hB x.kind then [x.b] else []) ++ (if x.kind = 9 then x.args else [])
def setsL (x : Xn) : Int := if hD x.kind then x.d else -1
def nextL (t : Tm) : List Int := if t.kind = 2 ∧ t.to ≠ t.els then [t.to, t.els] else if t.kind = 2 ∨ t.kind = 1 then [t.to] else []
theorem nine {k : Int} (h1 : 1 ≤ k) (h2 : k ≤ 9) : k = 1 ∨ k = 2 ∨ k = 3 ∨ k = 4 ∨ k = 5 ∨ k = 6 ∨ k = 7 ∨ k = 8 ∨ k = 9 := by omega
theorem hasK_no {k : Int} (h : k < 1 ∨ 9 < k) : hasK k = 0 := by
  unfold hasK
  repeat rw [if_neg (by omega)]
/-! Names. -/
def nameC (l : List UInt8) : Bool := nameB (mk l)
/-! What may be. -/
def lvL (k : Int) : Int := if k = 1 then 7 else if k = 2 then 7 else if k = 3 then 8 else if k = 4 then 8 else if k = 5 then 8 else if k = 6 then 3 else if k = 7 then 1 else if k = 8 then 2 else if k = 9 then 6 else if k = 10 then 6 else if k = 11 then 5 else if k = 12 then 5 else if k = 13 then 5 else if k = 14 then 5 else if k = 15 then 4 else if k = 16 then 4 else 0
def plcB (vals v : Int) : Bool := decide (0 ≤ v ∧ v < vals)
def fitB (vals : Int) (has : Bool) (v : Int) : Bool := if has then plcB vals v else decide (v = 0)
def opB (kind op : Int) : Bool := if kind = 3 then decide (17 ≤ op ∧ op ≤ 19) else if kind = 4 then decide (1 ≤ op ∧ op ≤ 16) else decide (op = 0)
def arrHas (A : List Ar) (n : List UInt8) : Bool := A.any fun a => decide (a.name = n)
def flwHas (F : List Fl) (n : List UInt8) : Bool := F.any fun f => decide (f.name = n)
/-- A function's place, by its name. -/
def plcOf (F : List Fl) (n : List UInt8) : Nat := F.findIdx fun f => decide (f.name = n)
def namB (u : Un) (kind : Int) (n : List UInt8) : Bool := if kind = 5 ∨ kind = 6 then arrHas u.arrays n else if kind = 9 then flwHas u.flows n else decide (n = [])
def argB (u : Un) (vals : Int) (x : Xn) : Bool := if x.kind = 9 then x.args.all (plcB vals) && decide ((x.args.length : Int) = ((u.flows[plcOf u.flows x.name]?).map (·.params)).getD 0) else decide (x.args = [])
def insB (u : Un) (vals : Int) (x : Xn) : Bool :=
  decide (1 ≤ x.kind ∧ x.kind ≤ 9) && fitB vals (hD x.kind) x.d && fitB vals (hA x.kind) x.a && fitB vals (hB x.kind) x.b && (decide (x.kind = 1) || decide (x.n = 0)) && opB x.kind x.op && namB u x.kind x.name && argB u vals x
def trmB (f : Fl) (t : Tm) : Bool :=
  if t.kind = 1 then plcB f.blocks.length t.to && decide (t.a = 0) && decide (t.els = 0)
  else if t.kind = 2 then plcB f.values t.a && plcB f.blocks.length t.to && plcB f.blocks.length t.els
  else if t.kind = 3 ∨ t.kind = 4 then plcB f.values t.a && decide (t.to = 0) && decide (t.els = 0) else false
def blkB (u : Un) (f : Fl) (b : Bk) : Bool := b.ins.all (insB u f.values) && trmB f b.term
def cntI (f : Fl) : Nat := (f.blocks.map fun b => b.ins.length).sum
def flwB (f : Fl) : Bool := decide (0 ≤ f.params ∧ f.params ≤ 6 ∧ f.params ≤ f.values ∧ f.values ≤ 50000) && decide (1 ≤ f.blocks.length ∧ f.blocks.length ≤ 20000 ∧ cntI f ≤ 200000)
/-- Names, each a name, none twice. -/
def namesB : List (List UInt8) → List (List UInt8) → Bool
  | _, [] => true
  | had, n :: r => nameC n && !had.contains n && namesB (n :: had) r
def declB (u : Un) : Bool := u.arrays.all (fun a => decide (1 ≤ a.size ∧ a.size ≤ 1048576)) && namesB [] (u.arrays.map (·.name) ++ u.flows.map (·.name)) && flwHas u.flows [109, 97, 105, 110] && decide (((u.flows[plcOf u.flows [109, 97, 105, 110]]?).map (·.params)).getD 0 ≤ 0)
/-- The first block that may not be, from the k-th on. -/
def badBk (u : Un) (f : Fl) : List Bk → Nat → Option Nat
  | [], _ => none
  | b :: r, k => if blkB u f b then badBk u f r (k + 1) else some k
def badFl (u : Un) : List Fl → Nat → Option (Nat × Nat)
  | [], _ => none
  | f :: r, i => if flwB f then (match badBk u f f.blocks 0 with | some k => some (i, k) | none => badFl u r (i + 1)) else some (i, 0)
/-- What is wrong with a unit, and where. -/
def wrongU (u : Un) : Int × Nat × Nat := if declB u then (match badFl u u.flows 0 with | some (i, k) => (70, i, k) | none => (0, 0, 0)) else (1, 0, 0)
/-! Texts. -/
def signL (k : Int) : List UInt8 := if k = 1 then [43] else if k = 2 then [45] else if k = 3 then [42] else if k = 4 then [47] else if k = 5 then [37] else if k = 6 then [38] else if k = 7 then [124] else if k = 8 then [94] else if k = 9 then [60, 60] else if k = 10 then [62, 62] else if k = 11 then [60] else if k = 12 then [60, 61] else if k = 13 then [62] else if k = 14 then [62, 61] else if k = 15 then [61, 61] else if k = 16 then [33, 61] else if k = 17 then [45] else if k = 18 then [33] else if k = 19 then [126] else []
def valT (v : Int) : List UInt8 := 118 :: Lib.itoa v
def blkT (v : Int) : List UInt8 := 98 :: Lib.itoa v
def joinV : List Int → List UInt8
  | [] => []
  | [v] => valT v
  | v :: r => valT v ++ [44, 32] ++ joinV r
def setT (x : Xn) : List UInt8 := valT x.d ++ [32, 61, 32]
def insT (x : Xn) : List UInt8 :=
  if x.kind = 6 then x.name ++ [91] ++ valT x.a ++ [93, 32, 61, 32] ++ valT x.b
  else if x.kind = 8 then [112, 114, 105, 110, 116, 32] ++ valT x.a
  else if x.kind = 1 then setT x ++ Lib.itoa x.n
  else if x.kind = 2 then setT x ++ valT x.a
  else if x.kind = 3 then setT x ++ signL x.op ++ [32] ++ valT x.a
  else if x.kind = 4 then setT x ++ valT x.a ++ [32] ++ signL x.op ++ [32] ++ valT x.b
  else if x.kind = 5 then setT x ++ x.name ++ [91] ++ valT x.a ++ [93]
  else if x.kind = 7 then setT x ++ [114, 101, 97, 100]
  else setT x ++ x.name ++ [40] ++ joinV x.args ++ [41]
def trmT (t : Tm) : List UInt8 :=
  if t.kind = 1 then [106, 117, 109, 112, 32] ++ blkT t.to
  else if t.kind = 2 then [105, 102, 32] ++ valT t.a ++ [32] ++ blkT t.to ++ [32] ++ blkT t.els
  else if t.kind = 3 then [114, 101, 116, 117, 114, 110, 32] ++ valT t.a
  else [116, 114, 97, 112, 32] ++ valT t.a
def arrT (a : Ar) : List UInt8 := [97, 114, 114, 97, 121, 32] ++ a.name ++ [32] ++ Lib.itoa a.size ++ [10]
def insLn (x : Xn) : List UInt8 := [9] ++ insT x ++ [10]
def bkT (i : Nat) (b : Bk) : List UInt8 := blkT i ++ [58, 10] ++ b.ins.flatMap insLn ++ ([9] ++ trmT b.term ++ [10])
def bksT : List Bk → Nat → List UInt8
  | [], _ => []
  | b :: r, i => bkT i b ++ bksT r (i + 1)
def flHead (f : Fl) : List UInt8 := [102, 117, 110, 99, 32] ++ f.name ++ [32] ++ Lib.itoa f.params ++ [32] ++ Lib.itoa f.values ++ [10]
def flT (f : Fl) : List UInt8 := flHead f ++ bksT f.blocks 0
def unT (u : Un) : List UInt8 := u.arrays.flatMap arrT ++ u.flows.flatMap flT
/-! What the law makes of raw blocks. -/
def mainN : List UInt8 := [109, 97, 105, 110]
def namesL : List (List UInt8) := [mainN, [102], [103]]
def abL : List (List UInt8) := [[97], [98]]
def argsOf (k : Nat) (a b : Int) : List Int := (List.range k).map fun (i : Nat) => pickN (wrap64 (a + wrap64 ((i : Int) * b))) 10
def insF (r : Xn) : Xn :=
  let k := 1 + pickN r.kind 9
  { kind := k
    d := if k ≠ 6 ∧ k ≠ 8 then pickN r.d 10 else 0
    a := if k ≠ 1 ∧ k ≠ 7 ∧ k ≠ 9 then pickN r.a 10 else 0
    b := if k = 4 ∨ k = 6 then pickN r.b 10 else 0
    op := if k = 3 then 17 + pickN r.op 3 else if k = 4 then 1 + pickN r.op 16 else 0
    n := if k = 1 then r.n else 0
    name := if k = 5 ∨ k = 6 then abL.getD (pickN r.n 2).toNat [] else if k = 9 then namesL.getD (pickN r.n 3).toNat [] else []
    args := if k = 9 then argsOf (pickN r.n 3).toNat r.a r.b else [] }
def trmF (t : Tm) (n : Int) : Tm :=
  let k := 1 + pickN t.kind 4
  { kind := k, a := if k ≠ 1 then pickN t.a 10 else 0, to := if k ≤ 2 then pickN t.to n else 0, els := if k = 2 then pickN t.els n else 0 }
def blkF (r : Bk) (n : Int) : Bk := { ins := (r.ins.take 6).map insF, term := trmF r.term n }
def zeroT : Tm := ⟨0, 0, 0, 0⟩
def zeroK : Bk := ⟨[], zeroT⟩
/-- The raw blocks of function k: how many, and which. -/
def cntK (n k : Nat) : Nat := min 8 ((n + 2 - k) / 3)
def rawK (raw : List Bk) (k j : Nat) : List Bk := (List.range j).map fun t => raw.getD (k + 3 * t) zeroK
def bksOf (raw : List Bk) (k : Nat) : List Bk := if cntK raw.length k = 0 then [zeroK] else rawK raw k (cntK raw.length k)
def flwF (raw : List Bk) (k : Nat) : Fl := { name := namesL.getD k [], params := k, values := 10, blocks := (bksOf raw k).map fun b => blkF b (bksOf raw k).length }
def arrsAB : List Ar := [⟨[97], 4⟩, ⟨[98], 10⟩]
def fitU (raw : List Bk) : Un := { arrays := arrsAB, flows := [flwF raw 0, flwF raw 1, flwF raw 2] }
/-! Raw numbers. -/
def AllX (x : Xn) : Prop := I64 x.kind ∧ I64 x.d ∧ I64 x.a ∧ I64 x.b ∧ I64 x.op ∧ I64 x.n
def AllT (t : Tm) : Prop := I64 t.kind ∧ I64 t.a ∧ I64 t.to ∧ I64 t.els
def AllK (b : Bk) : Prop := (∀ x ∈ b.ins, AllX x) ∧ AllT b.term
end Go.Proofs.YtafapkljlajflaaDoor
