package lift

import (
	"strconv"

	"counterproof/api"
)

// reg is a register of the machine, which a variable of the program stands for.
type reg int

func (r reg) name() string { return "x" + strconv.Itoa(int(r)) }

// value is what a register is: x0 is never looked at, whatever is put into its variable.
func (r reg) value() api.Expr {
	if r == 0 {
		return number(0)
	}
	return variable(r.name())
}

func (r reg) set(e api.Expr) api.Stmt { return set(r.name(), e) }

func variable(name string) api.Expr { return api.Expr{Kind: api.ExprVar, Name: name} }

// number is a number; those below 0 have no expression of one piece.
func number(n int) api.Expr {
	switch {
	case n == -1<<63:
		return two(api.OpShl, number(1), number(63))
	case n < 0:
		return api.Expr{Kind: api.ExprOne, Op: api.OpNeg, Args: exprs(number(-n))}
	}
	return api.Expr{Kind: api.ExprNum, N: n}
}

func exprs(list ...api.Expr) []api.Expr { return list }

func two(op int, a, b api.Expr) api.Expr {
	return api.Expr{Kind: api.ExprTwo, Op: op, Args: exprs(a, b)}
}

// plus is a sum with a number.
func plus(e api.Expr, n int) api.Expr {
	switch {
	case n == 0:
		return e
	case e.Kind == api.ExprNum:
		return number(e.N + n)
	case n < 0:
		return two(api.OpSub, e, number(-n))
	}
	return two(api.OpAdd, e, number(n))
}

func same(e api.Expr, n int) api.Expr { return two(api.OpEq, e, number(n)) }

func call(name string, args ...api.Expr) api.Expr {
	return api.Expr{Kind: api.ExprCall, Name: name, Args: args}
}

func element(at api.Expr) api.Expr {
	return api.Expr{Kind: api.ExprIndex, Name: memory, Args: exprs(at)}
}

// body puts statements, one behind the other, together.
func body(list ...api.Stmt) []api.Stmt { return list }

func set(name string, e api.Expr) api.Stmt {
	return api.Stmt{Kind: api.StmtSet, Name: name, Args: exprs(e)}
}

func give(e api.Expr) api.Stmt { return api.Stmt{Kind: api.StmtReturn, Args: exprs(e)} }

func ask(e api.Expr) api.Stmt { return api.Stmt{Kind: api.StmtCall, Args: exprs(e)} }

func store(at, e api.Expr) api.Stmt {
	return api.Stmt{Kind: api.StmtStore, Name: memory, Args: exprs(at, e)}
}

func tell(e api.Expr) api.Stmt { return api.Stmt{Kind: api.StmtPrint, Args: exprs(e)} }

func trap(e api.Expr) api.Stmt { return api.Stmt{Kind: api.StmtTrap, Args: exprs(e)} }

// fault is what the machine's fault is.
func fault() api.Stmt { return trap(number(api.FaultCode)) }

func when(e api.Expr, then ...api.Stmt) api.Stmt {
	return api.Stmt{Kind: api.StmtIf, Args: exprs(e), Then: then}
}

func choose(e api.Expr, then, other []api.Stmt) api.Stmt {
	return api.Stmt{Kind: api.StmtIf, Args: exprs(e), Then: then, Else: other}
}
