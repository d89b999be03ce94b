package sample

import (
	"strconv"

	"counterproof/api"
)

// maker makes a program whose names are all of what there is.
type maker struct {
	*Dice
	arrays []api.Array
	funcs  []api.Func
	vars   []string
	loops  int // in which what is made stands
}

// Prog is a program that chapter 5's Check has no error of; most of them end soon, but by no means all.
func Prog(d *Dice) api.Prog {
	m := maker{Dice: d}
	for i := range d.Roll(4) {
		m.arrays = append(m.arrays, api.Array{Name: "a" + strconv.Itoa(i), Size: 1 + d.Roll(6)})
	}
	for i := range 1 + d.Roll(4) {
		f := api.Func{Name: "f" + strconv.Itoa(i), Params: names("p", d.Roll(4)), Locals: names("x", 1+d.Roll(4))}
		if i == 0 {
			f.Name, f.Params = "main", nil
		}
		m.funcs = append(m.funcs, f)
	}
	for i := range m.funcs {
		m.vars = append(append([]string(nil), m.funcs[i].Params...), m.funcs[i].Locals...)
		m.funcs[i].Body = m.stmts(3, 2+d.Roll(5))
	}
	k := d.Roll(len(m.funcs))
	m.funcs[0], m.funcs[k] = m.funcs[k], m.funcs[0]
	return api.Prog{Arrays: m.arrays, Funcs: m.funcs}
}

// Expr is an expression that chapter 3 calls right, of names that need not be there.
func Expr(d *Dice, deep int) api.Expr {
	m := maker{Dice: d, arrays: []api.Array{{Name: "a", Size: 1}, {Name: "b", Size: 9}}, funcs: []api.Func{{Name: "f"}, {Name: "g", Params: names("p", 3)}}, vars: names("x", 4)}
	return m.expr(deep)
}

func names(ahead string, n int) []string {
	var out []string
	for i := range n {
		out = append(out, ahead+strconv.Itoa(i))
	}
	return out
}

func num(n int) api.Expr { return api.Expr{Kind: api.ExprNum, N: n} }

func variable(name string) api.Expr { return api.Expr{Kind: api.ExprVar, Name: name} }

func two(op int, a, b api.Expr) api.Expr {
	return api.Expr{Kind: api.ExprTwo, Op: op, Args: []api.Expr{a, b}}
}

func (m *maker) leaf() api.Expr {
	switch m.Roll(8) {
	case 0, 1, 2:
		return num(m.Number() & (1<<63 - 1))
	case 3:
		return api.Expr{Kind: api.ExprRead}
	}
	return variable(Pick(m.Dice, m.vars))
}

func (m *maker) expr(deep int) api.Expr {
	if deep <= 1 {
		return m.leaf()
	}
	switch m.Roll(12) {
	case 0, 1:
		return m.leaf()
	case 2, 3:
		return api.Expr{Kind: api.ExprOne, Op: api.OpNeg + m.Roll(3), Args: []api.Expr{m.expr(deep - 1)}}
	case 4:
		return m.call(deep)
	case 5:
		if len(m.arrays) > 0 {
			a := Pick(m.Dice, m.arrays)
			return api.Expr{Kind: api.ExprIndex, Name: a.Name, Args: []api.Expr{m.place(a, deep-1)}}
		}
	case 6:
		return two(api.OpDiv+m.Roll(2), m.expr(deep-1), m.divisor(deep-1))
	}
	return two(1+m.Roll(16), m.expr(deep-1), m.divisor(deep-1))
}

// divisor is seldom 0.
func (m *maker) divisor(deep int) api.Expr {
	if m.Once(3) {
		return m.expr(deep)
	}
	return num(1 + m.Roll(5))
}

// place is mostly one of an array's.
func (m *maker) place(a api.Array, deep int) api.Expr {
	if m.Once(4) {
		return m.expr(deep)
	}
	if m.Once(2) || deep < 2 {
		return num(m.Roll(a.Size))
	}
	return two(api.OpAnd, m.expr(deep-1), num(a.Size>>1))
}

func (m *maker) call(deep int) api.Expr {
	f := Pick(m.Dice, m.funcs)
	e := api.Expr{Kind: api.ExprCall, Name: f.Name}
	for range f.Params {
		e.Args = append(e.Args, m.expr(deep-1))
	}
	return e
}

func (m *maker) stmts(deep, n int) []api.Stmt {
	var out []api.Stmt
	for range n {
		out = append(out, m.stmt(deep))
	}
	return out
}

func (m *maker) one(kind int) api.Stmt {
	return api.Stmt{Kind: kind, Args: []api.Expr{m.expr(3)}}
}

func (m *maker) set(name string, e api.Expr) api.Stmt {
	return api.Stmt{Kind: api.StmtSet, Name: name, Args: []api.Expr{e}}
}

func (m *maker) stmt(deep int) api.Stmt {
	switch m.Roll(16) {
	case 0, 1:
		if len(m.arrays) > 0 {
			a := Pick(m.Dice, m.arrays)
			return api.Stmt{Kind: api.StmtStore, Name: a.Name, Args: []api.Expr{m.place(a, 2), m.expr(3)}}
		}
	case 2, 3, 4:
		if deep > 1 {
			s := m.one(api.StmtIf)
			s.Then, s.Else = m.stmts(deep-1, m.Roll(3)), m.stmts(deep-1, m.Roll(3))
			return s
		}
	case 5, 6, 7:
		if deep > 1 {
			return m.loop(deep)
		}
	case 8:
		if m.loops > 0 {
			return api.Stmt{Kind: api.StmtBreak + m.Roll(2)}
		}
	case 9:
		return api.Stmt{Kind: api.StmtCall, Args: []api.Expr{m.call(3)}}
	case 10:
		if m.Once(3) {
			return m.one(Pick(m.Dice, []int{api.StmtReturn, api.StmtTrap, api.StmtReturn}))
		}
	case 11, 12:
		return m.set(Pick(m.Dice, m.vars), m.expr(4))
	}
	return m.one(api.StmtPrint)
}

// loop is mostly one that counts, and so ends.
func (m *maker) loop(deep int) api.Stmt {
	m.loops++
	s := m.one(api.StmtWhile)
	s.Then = m.stmts(deep-1, m.Roll(3))
	m.loops--
	if !m.Once(4) {
		x := Pick(m.Dice, m.vars)
		s.Args[0] = two(api.OpLt, variable(x), num(1+m.Roll(5)))
		s.Then = append([]api.Stmt{m.set(x, two(api.OpAdd, variable(x), num(1)))}, s.Then...)
	}
	return s
}
