package emit

import (
	"counterproof/api"
)

// ins writes an instruction of the unit: one of the machine's at least, so that no step of the unit is none of the code.
func (w *writer) ins(x api.Ins) {
	switch x.Kind {
	case api.InsNum:
		w.set(x.D, x.N)
	case api.InsMove:
		if own := w.register(x.D); own != regNone {
			w.take(x.A, own)
		} else {
			w.keep(x.D, w.get(x.A, regFirst))
		}
	case api.InsOne:
		w.one(x.Op, w.target(x.D), w.get(x.A, regFirst))
		w.done(x.D)
	case api.InsTwo:
		a := w.get(x.A, regFirst)
		w.two(x.Op, w.target(x.D), a, w.get(x.B, regOther))
		w.done(x.D)
	case api.InsLoad:
		w.element(x.Name, w.get(x.A, regFirst))
		w.put(api.Instr{Op: api.InLd, D: w.target(x.D), A: regFirst})
		w.done(x.D)
	case api.InsStore:
		w.element(x.Name, w.get(x.A, regFirst))
		w.put(api.Instr{Op: api.InSd, A: regFirst, B: w.get(x.B, regOther)})
	case api.InsRead:
		w.call(api.CallRead)
		w.keep(x.D, regValue)
	case api.InsPrint:
		w.take(x.A, regValue)
		w.call(api.CallPrint)
	case api.InsCall:
		for i, v := range x.Args {
			w.take(v, regParam+i)
		}
		w.put(api.Instr{Op: api.InJal, Name: functionLabel(x.Name)})
		w.keep(x.D, regValue)
	}
}

func (w *writer) one(op, d, a int) {
	switch op {
	case api.OpNeg:
		w.three(api.InSub, d, regNone, a)
	case api.OpNot:
		w.three(api.InSeqz, d, a, 0)
	case api.OpInv:
		w.three(api.InSub, d, regNone, a)
		w.add(d, d, -1)
	}
}

func (w *writer) two(op, d, a, b int) {
	switch op {
	case api.OpDiv, api.OpRem:
		w.branch(api.InBeq, b, regNone, labelDiv)
		w.three(same(op), d, a, b)
	case api.OpLt:
		w.three(api.InSlt, d, a, b)
	case api.OpGt:
		w.three(api.InSlt, d, b, a)
	case api.OpGe:
		w.three(api.InSlt, d, a, b)
		w.three(api.InSeqz, d, d, 0)
	case api.OpLe:
		w.three(api.InSlt, d, b, a)
		w.three(api.InSeqz, d, d, 0)
	case api.OpEq:
		w.three(api.InSub, d, a, b)
		w.three(api.InSeqz, d, d, 0)
	case api.OpNe:
		w.three(api.InSub, d, a, b)
		w.three(api.InSnez, d, d, 0)
	default:
		w.three(same(op), d, a, b)
	}
}

// same is the instruction that makes what an operator makes, if that makes something.
func same(op int) int {
	switch op {
	case api.OpAdd:
		return api.InAdd
	case api.OpSub:
		return api.InSub
	case api.OpMul:
		return api.InMul
	case api.OpDiv:
		return api.InDiv
	case api.OpRem:
		return api.InRem
	case api.OpAnd:
		return api.InAnd
	case api.OpOr:
		return api.InOr
	case api.OpXor:
		return api.InXor
	case api.OpShl:
		return api.InSll
	}
	return api.InSra // of OpShr, which is left
}

// element puts the place of an array's word into regFirst. The number of the word may stand there; it is read before.
func (w *writer) element(name string, a int) {
	w.number64(regOther, w.length(name))
	w.three(api.InSltu, regOther, a, regOther)
	w.branch(api.InBeq, regOther, regNone, labelBounds)
	w.number64(regOther, 3)
	w.three(api.InSll, regOther, a, regOther)
	w.put(api.Instr{Op: api.InLa, D: regFirst, Name: name})
	w.three(api.InAdd, regFirst, regFirst, regOther)
}

// length is how many words an array has.
func (w *writer) length(name string) int {
	for _, a := range w.unit.Arrays {
		if a.Name == name {
			return a.Size
		}
	}
	return 0
}

// term writes a block's end, ahead of a block. A jump is written even if it leads there: it is a step of the unit.
func (w *writer) term(t api.Term, next int) {
	switch t.Kind {
	case api.TermJump:
		w.jump(w.blockLabel(t.To))
	case api.TermIf:
		w.choice(w.get(t.A, regFirst), t, next)
	case api.TermReturn:
		w.take(t.A, regValue)
		if next < len(w.flow.Blocks) {
			w.jump(w.returnLabel())
		}
	case api.TermTrap:
		w.take(t.A, regValue)
		w.call(api.CallTrap)
	}
}

func (w *writer) choice(a int, t api.Term, next int) {
	if t.To == next {
		w.branch(api.InBeq, a, regNone, w.blockLabel(t.Else))
		return
	}
	w.branch(api.InBne, a, regNone, w.blockLabel(t.To))
	if t.Else != next {
		w.jump(w.blockLabel(t.Else))
	}
}
