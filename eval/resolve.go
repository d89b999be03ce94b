package eval

import (
	"counterproof/api"
	"counterproof/pages"
)

// expression, statement and function are a program's, with places in place of names, so that no step looks one up.
type expression struct {
	kind, op, n int
	place       int // of a variable, an array or a function
	args        []expression
}

type statement struct {
	kind         int
	place        int // of a variable or an array
	args         []expression
	first, other []statement
}

type function struct {
	variables int
	body      []statement
}

// places are where names stand.
type places struct{ arrays, funcs, variables map[string]int }

// resolve is a program's functions and its arrays.
func resolve(p api.Prog) ([]function, []*pages.Array) {
	at := places{arrays: map[string]int{}, funcs: map[string]int{}}
	var arrays []*pages.Array
	for i, a := range p.Arrays {
		at.arrays[a.Name] = i
		arrays = append(arrays, pages.New(a.Size))
	}
	for i, f := range p.Funcs {
		at.funcs[f.Name] = i
	}
	var funcs []function
	for _, f := range p.Funcs {
		funcs = append(funcs, at.function(f))
	}
	return funcs, arrays
}

func (at places) function(f api.Func) function {
	at.variables = map[string]int{}
	for i, name := range f.Params {
		at.variables[name] = i
	}
	for i, name := range f.Locals {
		at.variables[name] = len(f.Params) + i
	}
	return function{len(f.Params) + len(f.Locals), at.stmts(f.Body)}
}

func (at places) stmts(list []api.Stmt) []statement {
	var out []statement
	for _, s := range list {
		place := at.variables[s.Name]
		if s.Kind == api.StmtStore {
			place = at.arrays[s.Name]
		}
		out = append(out, statement{s.Kind, place, at.exprs(s.Args), at.stmts(s.Then), at.stmts(s.Else)})
	}
	return out
}

func (at places) exprs(list []api.Expr) []expression {
	var out []expression
	for _, e := range list {
		place := at.variables[e.Name]
		switch e.Kind {
		case api.ExprIndex:
			place = at.arrays[e.Name]
		case api.ExprCall:
			place = at.funcs[e.Name]
		}
		out = append(out, expression{e.Kind, e.Op, e.N, place, at.exprs(e.Args)})
	}
	return out
}
