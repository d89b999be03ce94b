package tree

import (
	"slices"

	"counterproof/api"
	"counterproof/arith"
	"counterproof/scan"
)

// exprShape is what an expression of a kind has; all else of it is empty.
type exprShape struct {
	op, n, name bool
	least, most int // of Args
}

func exprShapeOf(kind int) (exprShape, bool) {
	switch kind {
	case api.ExprNum:
		return exprShape{n: true}, true
	case api.ExprVar:
		return exprShape{name: true}, true
	case api.ExprOne:
		return exprShape{op: true, least: 1, most: 1}, true
	case api.ExprTwo:
		return exprShape{op: true, least: 2, most: 2}, true
	case api.ExprCall:
		return exprShape{name: true, most: api.MaxParams}, true
	case api.ExprIndex:
		return exprShape{name: true, least: 1, most: 1}, true
	case api.ExprRead:
		return exprShape{}, true
	}
	return exprShape{}, false
}

// stmtShape is what a statement of a kind has; all else of it is empty.
type stmtShape struct {
	name         bool
	args         int
	first, other bool // Then, Else
}

func stmtShapeOf(kind int) (stmtShape, bool) {
	switch kind {
	case api.StmtSet:
		return stmtShape{name: true, args: 1}, true
	case api.StmtStore:
		return stmtShape{name: true, args: 2}, true
	case api.StmtIf:
		return stmtShape{args: 1, first: true, other: true}, true
	case api.StmtWhile:
		return stmtShape{args: 1, first: true}, true
	case api.StmtBreak, api.StmtContinue:
		return stmtShape{}, true
	case api.StmtReturn, api.StmtPrint, api.StmtTrap, api.StmtCall:
		return stmtShape{args: 1}, true
	}
	return stmtShape{}, false
}

// named tells whether a thing that has a name, or has none, has one that may be, or has none.
func named(has bool, name string) bool {
	if has {
		return scan.Name(name)
	}
	return name == ""
}

func wrongName(name string) bool { return !scan.Name(name) }

func wrongFunc(f api.Func) bool {
	if wrongName(f.Name) || len(f.Params) > api.MaxParams {
		return true
	}
	return slices.ContainsFunc(f.Params, wrongName) || slices.ContainsFunc(f.Locals, wrongName) || !rightStmts(f.Body, api.MaxDeep)
}

// rightStmts, like rightExpr, goes no deeper than may be, so that a tree that is far too deep is told soon.
func rightStmts(list []api.Stmt, deep int) bool {
	for _, s := range list {
		if deep == 0 || !shapedStmt(s) || slices.ContainsFunc(s.Args, wrongExpr) {
			return false
		}
		if !rightStmts(s.Then, deep-1) || !rightStmts(s.Else, deep-1) {
			return false
		}
	}
	return true
}

func shapedStmt(s api.Stmt) bool {
	shape, ok := stmtShapeOf(s.Kind)
	if !ok || len(s.Args) != shape.args || !named(shape.name, s.Name) {
		return false
	}
	if !shape.first && len(s.Then) > 0 || !shape.other && len(s.Else) > 0 {
		return false
	}
	return s.Kind != api.StmtCall || s.Args[0].Kind == api.ExprCall
}

func wrongExpr(e api.Expr) bool { return !RightExpr(e) }

func rightExpr(e api.Expr, deep int) bool {
	if deep == 0 || !shapedExpr(e) {
		return false
	}
	for _, a := range e.Args {
		if !rightExpr(a, deep-1) {
			return false
		}
	}
	return true
}

func shapedExpr(e api.Expr) bool {
	s, ok := exprShapeOf(e.Kind)
	if !ok || len(e.Args) < s.least || len(e.Args) > s.most || !named(s.name, e.Name) {
		return false
	}
	if s.op {
		ok = rightOp(e)
	} else {
		ok = e.Op == 0
	}
	return ok && e.N >= 0 && (s.n || e.N == 0)
}

func rightOp(e api.Expr) bool {
	if e.Kind == api.ExprTwo {
		return arith.Level(e.Op) > 0
	}
	_, ok := arith.One(e.Op, 0)
	return ok
}
