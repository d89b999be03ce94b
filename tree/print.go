package tree

import (
	"strconv"
	"strings"

	"counterproof/api"
	"counterproof/arith"
)

// tight is the level of what binds more strongly than every operator of two numbers.
const tight = 9

// printer is a text that is being written; tabs stand ahead of each of its lines.
type printer struct {
	strings.Builder
	tabs int
}

// Print is a program's text.
func Print(p api.Prog) (string, api.Errno) {
	if !Right(p) {
		return "", api.ErrArg
	}
	var w printer
	for _, a := range p.Arrays {
		w.line("int ", a.Name, "[", strconv.Itoa(a.Size), "];")
	}
	for _, f := range p.Funcs {
		w.function(f)
	}
	return w.String(), api.OK
}

// PrintExpr is an expression's text.
func PrintExpr(e api.Expr) (string, api.Errno) {
	if !RightExpr(e) {
		return "", api.ErrArg
	}
	var w printer
	w.expr(e)
	return w.String(), api.OK
}

func (w *printer) words(parts ...string) {
	for _, s := range parts {
		w.WriteString(s)
	}
}

// begin puts a line's tabs; what is written then is ended by end.
func (w *printer) begin(parts ...string) {
	for range w.tabs {
		w.WriteByte('\t')
	}
	w.words(parts...)
}

func (w *printer) end(parts ...string) {
	w.words(parts...)
	w.WriteByte('\n')
}

func (w *printer) line(parts ...string) {
	w.begin(parts...)
	w.end()
}

func (w *printer) function(f api.Func) {
	w.begin("int ", f.Name, "(")
	for i, name := range f.Params {
		if i > 0 {
			w.words(", ")
		}
		w.words("int ", name)
	}
	w.end(") {")
	w.tabs++
	for _, name := range f.Locals {
		w.line("int ", name, ";")
	}
	w.stmts(f.Body)
	w.tabs--
	w.line("}")
}

// within writes statements that stand in another one.
func (w *printer) within(list []api.Stmt) {
	w.tabs++
	w.stmts(list)
	w.tabs--
}

func (w *printer) stmts(list []api.Stmt) {
	for _, s := range list {
		w.stmt(s)
	}
}

func (w *printer) stmt(s api.Stmt) {
	switch s.Kind {
	case api.StmtSet:
		w.begin(s.Name, " = ")
		w.expr(s.Args[0])
		w.end(";")
	case api.StmtStore:
		w.begin(s.Name, "[")
		w.expr(s.Args[0])
		w.words("] = ")
		w.expr(s.Args[1])
		w.end(";")
	case api.StmtIf:
		w.head("if (", s.Args[0], ") {")
		w.within(s.Then)
		if len(s.Else) > 0 {
			w.line("} else {")
			w.within(s.Else)
		}
		w.line("}")
	case api.StmtWhile:
		w.head("while (", s.Args[0], ") {")
		w.within(s.Then)
		w.line("}")
	case api.StmtBreak:
		w.line("break;")
	case api.StmtContinue:
		w.line("continue;")
	case api.StmtReturn:
		w.head("return ", s.Args[0], ";")
	case api.StmtPrint:
		w.head("print(", s.Args[0], ");")
	case api.StmtTrap:
		w.head("trap(", s.Args[0], ");")
	case api.StmtCall:
		w.head("", s.Args[0], ";")
	}
}

// head is a line with an expression in it.
func (w *printer) head(ahead string, e api.Expr, behind string) {
	w.begin(ahead)
	w.expr(e)
	w.end(behind)
}

func (w *printer) expr(e api.Expr) {
	switch e.Kind {
	case api.ExprNum:
		w.words(strconv.Itoa(e.N))
	case api.ExprVar:
		w.words(e.Name)
	case api.ExprOne:
		sign, _ := arith.Sign(e.Op)
		w.words(sign)
		w.part(e.Args[0], tight)
	case api.ExprTwo:
		sign, _ := arith.Sign(e.Op)
		level := arith.Level(e.Op)
		w.part(e.Args[0], level)
		w.words(" ", sign, " ")
		w.part(e.Args[1], level+1)
	case api.ExprCall:
		w.words(e.Name, "(")
		w.list(e.Args)
		w.words(")")
	case api.ExprIndex:
		w.words(e.Name, "[")
		w.expr(e.Args[0])
		w.words("]")
	case api.ExprRead:
		w.words("read()")
	}
}

func (w *printer) list(args []api.Expr) {
	for i, e := range args {
		if i > 0 {
			w.words(", ")
		}
		w.expr(e)
	}
}

// part writes an expression that stands where nothing below a level may, without parentheses.
func (w *printer) part(e api.Expr, level int) {
	if e.Kind != api.ExprTwo || arith.Level(e.Op) >= level {
		w.expr(e)
		return
	}
	w.words("(")
	w.expr(e)
	w.words(")")
}
