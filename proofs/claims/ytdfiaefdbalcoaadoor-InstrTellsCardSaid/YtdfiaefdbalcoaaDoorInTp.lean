/- The document's own answer, in plain words. -/
import Derived.Test.YtdfiaefdbalcoaaDoorIn1
import Derived.IntWalk
namespace Go.Proofs.YtdfiaefdbalcoaaDoor
/-! What may be. -/
def rstep (x : In) (o : In) (c : UInt8) : Option In :=
  if c = 68 then some { o with d := x.d } else if c = 65 then some { o with a := x.a } else if c = 66 then some { o with b := x.b }
  else if c = 78 then some { o with n := x.n } else if c = 83 then (if smallB x.n then some { o with n := x.n } else none)
  else if c = 76 then (if labelB x.name then some { o with name := x.name } else none) else some o
def rfold (x : In) : List UInt8 → In → Option In
  | [], o => some o
  | c :: h, o => match rstep x o c with | some o' => rfold x h o' | none => none
def rrightB (x : In) : Bool := isOp x.op && match rfold x (hasL x.op) ⟨x.op, 0, 0, 0, 0, []⟩ with | some o => decide (o = x) && regB x.d && regB x.a && regB x.b | none => false
theorem rfold_eq (x : In) : ∀ (h : List UInt8) (o : In), rfold x h o = if (h.contains 83 && !smallB x.n) || (h.contains 76 && !labelB x.name) then none else
    some { op := o.op, d := if h.contains 68 then x.d else o.d, a := if h.contains 65 then x.a else o.a, b := if h.contains 66 then x.b else o.b, n := if h.contains 78 || h.contains 83 then x.n else o.n, name := if h.contains 76 then x.name else o.name }
  | [], o => by simp [rfold]
  | c :: h, o => by
    have ih := rfold_eq x h
    unfold rfold rstep
    by_cases h1 : c = 68
    · subst h1; rw [if_pos rfl]; simp only; rw [ih]; simp
    by_cases h2 : c = 65
    · subst h2; rw [if_neg h1, if_pos rfl]; simp only; rw [ih]; simp
    by_cases h3 : c = 66
    · subst h3; rw [if_neg h1, if_neg h2, if_pos rfl]; simp only; rw [ih]; simp
    by_cases h4 : c = 78
    · subst h4; rw [if_neg h1, if_neg h2, if_neg h3, if_pos rfl]; simp only; rw [ih]; simp
    by_cases h5 : c = 83
    · subst h5; rw [if_neg h1, if_neg h2, if_neg h3, if_neg h4, if_pos rfl]
      cases hs : smallB x.n
      · simp
      · simp only [if_true]; rw [ih, hs]; simp
    by_cases h6 : c = 76
    · subst h6; rw [if_neg h1, if_neg h2, if_neg h3, if_neg h4, if_neg h5, if_pos rfl]
      cases hs : labelB x.name
      · simp
      · simp only [if_true]; rw [ih, hs]; simp
    · rw [if_neg h1, if_neg h2, if_neg h3, if_neg h4, if_neg h5, if_neg h6]; simp only; rw [ih]
      have e1 : ((68 : UInt8) == c) = false := beq_eq_false_iff_ne.2 (fun e => h1 e.symm)
      have e2 : ((65 : UInt8) == c) = false := beq_eq_false_iff_ne.2 (fun e => h2 e.symm)
      have e3 : ((66 : UInt8) == c) = false := beq_eq_false_iff_ne.2 (fun e => h3 e.symm)
      have e4 : ((78 : UInt8) == c) = false := beq_eq_false_iff_ne.2 (fun e => h4 e.symm)
      have e5 : ((83 : UInt8) == c) = false := beq_eq_false_iff_ne.2 (fun e => h5 e.symm)
      have e6 : ((76 : UInt8) == c) = false := beq_eq_false_iff_ne.2 (fun e => h6 e.symm)
      simp only [List.contains_cons, e1, e2, e3, e4, e5, e6, Bool.false_or]
theorem rright_eq (x : In) : rrightB x = rightB x := by
  rw [right_eq]
  unfold rrightB rightE
  rw [rfold_eq]
  obtain ⟨op, d, a, b, n, name⟩ := x
  dsimp only
  have z : regB 0 = true := by decide
  have z0 : ∀ v : Int, (0 = v) = (v = 0) := fun v => propext eq_comm
  have zn : ∀ l : List UInt8, ([] = l) = (l = []) := fun l => propext eq_comm
  cases isOp op
  · rfl
  · cases (hasL op).contains 68 <;> cases (hasL op).contains 65 <;> cases (hasL op).contains 66 <;> cases (hasL op).contains 83 <;> cases (hasL op).contains 78 <;> cases (hasL op).contains 76 <;> cases smallB n <;> cases labelB name <;>
      (rw [Bool.eq_iff_iff]; simp [In.mk.injEq, and_assoc, z0, zn]; try (intros; simp_all); try (constructor <;> (intro h; simp_all)))
end Go.Proofs.YtdfiaefdbalcoaaDoor
