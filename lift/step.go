package lift

import (
	"counterproof/api"
	"counterproof/instr"
)

// The registers that have a part in more than one instruction.
const (
	regBack  reg = 1
	regStack reg = 2
	regValue reg = 10
	regCall  reg = 17
)

// step is what an instruction does, and whether what stands behind it in the block is not come to. Each is a statement at least, so that the program has no fewer steps.
func (l *lifter) step(at int) ([]api.Stmt, bool) {
	in := l.list[at]
	a, b := reg(in.A), reg(in.B)
	switch in.Op {
	case api.InBeq:
		return l.branch(two(api.OpEq, a.value(), b.value()), at), true
	case api.InBne:
		return l.branch(two(api.OpNe, a.value(), b.value()), at), true
	case api.InBlt:
		return l.branch(two(api.OpLt, a.value(), b.value()), at), true
	case api.InBge:
		return l.branch(two(api.OpGe, a.value(), b.value()), at), true
	case api.InJ:
		return body(l.goes(l.to[at])), true
	case api.InJal:
		return body(regBack.set(number(width*(at+1))), l.goes(l.to[at])), true
	case api.InRet:
		l.need(funcBack)
		return body(set(block, call(funcBack, regBack.value()))), true
	case api.InCall:
		return l.ecall()
	}
	if instr.Writes(in) == int(regCall) {
		l.asked = 0
		if in.Op == api.InLi {
			l.asked = in.N
		}
	}
	return l.plain(in), false
}

func (l *lifter) need(name string) { l.needs[name]++ }

func (l *lifter) branch(e api.Expr, at int) []api.Stmt {
	return body(choose(e, body(l.goes(l.to[at])), body(l.goes(at+1))))
}

// plain is what an instruction does that neither turns nor asks for anything.
func (l *lifter) plain(in api.Instr) []api.Stmt {
	a, b, d := reg(in.A), reg(in.B), reg(in.D)
	switch in.Op {
	case api.InDiv:
		return body(choose(same(b.value(), 0), body(d.set(number(-1))), body(d.set(two(api.OpDiv, a.value(), b.value())))))
	case api.InRem:
		return body(choose(same(b.value(), 0), body(d.set(a.value())), body(d.set(two(api.OpRem, a.value(), b.value())))))
	case api.InSltu:
		// Without signs it is the other way round where the signs are unlike.
		unlike := two(api.OpLt, two(api.OpXor, a.value(), b.value()), number(0))
		return body(d.set(two(api.OpXor, two(api.OpLt, a.value(), b.value()), unlike)))
	case api.InSeqz:
		return body(d.set(same(a.value(), 0)))
	case api.InSnez:
		return body(d.set(two(api.OpNe, a.value(), number(0))))
	case api.InMv:
		return body(d.set(a.value()))
	case api.InLi:
		return body(d.set(number(in.N)))
	case api.InLa:
		return body(d.set(number(l.places[in.Name])))
	case api.InAddi:
		return body(d.set(plus(a.value(), in.N)))
	case api.InLd:
		l.need(funcGet)
		return body(d.set(call(funcGet, a.value(), number(in.N))))
	case api.InSd:
		l.need(funcPut)
		return body(ask(call(funcPut, a.value(), number(in.N), b.value())))
	}
	return body(d.set(two(operator(in.Op), a.value(), b.value())))
}

// operator is the one that makes what an instruction makes.
func operator(op int) int {
	switch op {
	case api.InAdd:
		return api.OpAdd
	case api.InSub:
		return api.OpSub
	case api.InMul:
		return api.OpMul
	case api.InAnd:
		return api.OpAnd
	case api.InOr:
		return api.OpOr
	case api.InXor:
		return api.OpXor
	case api.InSll:
		return api.OpShl
	case api.InSra:
		return api.OpShr
	}
	return api.OpLt // of InSlt, which is left
}

// ecall asks for what x17 says, which mostly is known here.
func (l *lifter) ecall() ([]api.Stmt, bool) {
	switch l.asked {
	case 0:
		l.need(funcCall)
		done := when(same(regCall.value(), api.CallExit), give(regValue.value()))
		return body(done, regValue.set(call(funcCall, regCall.value(), regValue.value()))), false
	case api.CallPrint:
		return body(tell(regValue.value())), false
	case api.CallRead:
		return body(regValue.set(api.Expr{Kind: api.ExprRead})), false
	case api.CallExit:
		return body(give(regValue.value())), true
	case api.CallEnd:
		l.need(funcEnd)
		return body(give(call(funcEnd, regValue.value()))), true
	case api.CallTrap:
		return body(trap(regValue.value())), true
	}
	return body(fault()), true
}
