package tree_test

import (
	"reflect"
	"strconv"
	"strings"
	"testing"

	"counterproof/api"
	"counterproof/arith"
	"counterproof/sample"
	"counterproof/scan"
	"counterproof/tree"
)

func num(n int) api.Expr            { return api.Expr{Kind: api.ExprNum, N: n} }
func name(s string) api.Expr        { return api.Expr{Kind: api.ExprVar, Name: s} }
func list(e ...api.Expr) []api.Expr { return e }
func one(op int, e api.Expr) api.Expr {
	return api.Expr{Kind: api.ExprOne, Op: op, Args: list(e)}
}
func two(op int, a, b api.Expr) api.Expr {
	return api.Expr{Kind: api.ExprTwo, Op: op, Args: list(a, b)}
}
func call(s string, e ...api.Expr) api.Expr {
	return api.Expr{Kind: api.ExprCall, Name: s, Args: e}
}
func index(s string, e api.Expr) api.Expr {
	return api.Expr{Kind: api.ExprIndex, Name: s, Args: list(e)}
}

var x, read = name("x"), api.Expr{Kind: api.ExprRead}

func stmt(kind int, s string, args ...api.Expr) api.Stmt {
	return api.Stmt{Kind: kind, Name: s, Args: args}
}
func block(s ...api.Stmt) []api.Stmt { return s }

// prog is a program of one function with these statements.
func prog(s ...api.Stmt) api.Prog {
	return api.Prog{Funcs: []api.Func{{Name: "main", Body: s}}}
}

// signs puts so many signs ahead of a number.
func signs(n int) api.Expr {
	e := num(1)
	for range n {
		e = one(api.OpNot, e)
	}
	return e
}

// within puts a statement into so many others of one kind, as Then or as Else.
func within(n int, kind int, other bool, s api.Stmt) api.Stmt {
	for range n {
		outer := api.Stmt{Kind: kind, Args: list(x)}
		if other {
			outer.Else = block(s)
		} else {
			outer.Then = block(s)
		}
		s = outer
	}
	return s
}

// nest puts a statement into so many others.
func nest(n int, s api.Stmt) api.Stmt {
	for i := range n {
		if i%2 == 0 {
			s = api.Stmt{Kind: api.StmtIf, Args: list(x), Else: block(s)}
		} else {
			s = api.Stmt{Kind: api.StmtWhile, Args: list(x), Then: block(s)}
		}
	}
	return s
}

var six = list(x, x, x, x, x, x)

func TestRightExpr(t *testing.T) {
	long := strings.Repeat("n", 20)
	for i, e := range []api.Expr{
		num(0), num(1<<63 - 1), x, name(long), read, one(api.OpNeg, x), one(api.OpNot, x), one(api.OpInv, num(3)), call("f"), call("f", six...), index("a", x), signs(39),
		{Kind: api.ExprNum, Args: []api.Expr{}}, {Kind: api.ExprCall, Name: "f", Args: []api.Expr{}},
	} {
		if !tree.RightExpr(e) {
			t.Error("T1: right", i, e)
		}
		if _, err := tree.PrintExpr(e); err != api.OK {
			t.Error("T3: right", i, e)
		}
	}
	for op := -1; op < 22; op++ {
		if tree.RightExpr(one(op, x)) != (op >= api.OpNeg && op <= api.OpInv) || tree.RightExpr(two(op, x, x)) != (op >= 1 && op <= api.OpNe) {
			t.Error("T1: operator", op)
		}
	}
	bad := []api.Expr{{}, {Kind: -1}, {Kind: 8}, num(-1), num(-1 << 63), name(""), name("1"), name("if"), name(long + "n"), signs(40), signs(60000), call("f", append(list(x), six...)...), call("read"), index("", x), call("")}
	for _, kind := range []int{api.ExprNum, api.ExprVar, api.ExprOne, api.ExprTwo, api.ExprIndex, api.ExprRead} {
		e := map[int]api.Expr{api.ExprNum: num(1), api.ExprVar: x, api.ExprOne: one(api.OpNeg, x), api.ExprTwo: two(api.OpAdd, x, x), api.ExprIndex: index("a", x), api.ExprRead: read}[kind]
		e.Args = append(list(e.Args...), x) // one more than it has
		bad = append(bad, e)
	}
	for _, e := range []api.Expr{num(1), x, one(api.OpNeg, x), two(api.OpAdd, x, x), call("f", x), index("a", x), read} {
		for i, other := range []api.Expr{{Op: 1}, {Op: api.OpNeg}, {N: 1}, {Name: "x"}, {Args: list(x)}, {Args: list(x, x)}} {
			f := e
			switch {
			case other.Op != 0 && e.Op == 0:
				f.Op = other.Op
			case other.N != 0 && e.Kind != api.ExprNum:
				f.N = other.N
			case other.Name != "" && e.Name == "":
				f.Name = other.Name
			case len(other.Args) > 0 && e.Kind != api.ExprCall && len(e.Args) != len(other.Args):
				f.Args = other.Args
			default:
				continue
			}
			if tree.RightExpr(f) {
				t.Error("T1: more than it may have", i, f)
			}
		}
		if len(e.Args) > 0 {
			f := e
			f.Args = append(append([]api.Expr(nil), e.Args[1:]...), api.Expr{})
			bad = append(bad, f)
			if e.Kind != api.ExprCall {
				f.Args = nil
				bad = append(bad, f)
			}
		}
	}
	for i, e := range bad {
		if tree.RightExpr(e) {
			t.Error("T1: wrong", i)
		}
		if s, err := tree.PrintExpr(e); s != "" || err != api.ErrArg {
			t.Error("T3: wrong", i, s, err)
		}
		if tree.Right(prog(stmt(api.StmtPrint, "", e))) {
			t.Error("T2: a wrong expression", i)
		}
	}
}

func TestRight(t *testing.T) {
	seven := strings.Fields("a b c d e f g")
	good := []api.Prog{
		{}, {Arrays: []api.Array{{Name: "a", Size: 1}, {Name: "a", Size: 1 << 20}}}, {Funcs: []api.Func{{Name: "f", Params: seven[:6], Locals: seven}, {Name: "f"}}},
		prog(stmt(api.StmtSet, "y", x), stmt(api.StmtStore, "a", x, read), stmt(api.StmtIf, "", x), stmt(api.StmtWhile, "", x), stmt(api.StmtBreak, ""), stmt(api.StmtContinue, ""), stmt(api.StmtReturn, "", x), stmt(api.StmtPrint, "", x), stmt(api.StmtTrap, "", x), stmt(api.StmtCall, "", call("f"))),
		prog(nest(39, stmt(api.StmtReturn, "", signs(39)))),
	}
	for i, p := range good {
		if _, err := tree.Print(p); !tree.Right(p) || err != api.OK {
			t.Error("T2: right", i)
		}
	}
	bad := []api.Prog{
		prog(nest(40, stmt(api.StmtBreak, ""))), prog(nest(60000, stmt(api.StmtBreak, ""))), prog(stmt(api.StmtReturn, "", signs(40))), prog(api.Stmt{}), prog(api.Stmt{Kind: 11}), prog(api.Stmt{Kind: -1}),
		prog(stmt(api.StmtCall, "", x)), prog(stmt(api.StmtCall, "", read)), prog(stmt(api.StmtSet, "", x)), prog(stmt(api.StmtStore, "9", x, x)), prog(stmt(api.StmtPrint, "x", x)), prog(stmt(api.StmtBreak, "x")),
	}
	for _, size := range []int{0, -1, 1<<20 + 1, 1<<63 - 1} {
		bad = append(bad, api.Prog{Arrays: []api.Array{{Name: "b", Size: 1}, {Name: "a", Size: size}}})
	}
	for _, s := range []string{"", "int", "a b", "é", strings.Repeat("a", 21)} {
		bad = append(bad, api.Prog{Arrays: []api.Array{{Name: s, Size: 1}}}, api.Prog{Funcs: []api.Func{{Name: s}}}, api.Prog{Funcs: []api.Func{{Name: "f", Params: []string{"a", s}}}}, api.Prog{Funcs: []api.Func{{Name: "f", Locals: []string{"a", s}}}})
	}
	bad = append(bad, api.Prog{Funcs: []api.Func{{Name: "f", Params: seven}}})
	how := map[int]int{api.StmtSet: 1, api.StmtStore: 2, api.StmtIf: 1, api.StmtWhile: 1, api.StmtBreak: 0, api.StmtContinue: 0, api.StmtReturn: 1, api.StmtPrint: 1, api.StmtTrap: 1, api.StmtCall: 1}
	for kind := 1; kind <= 10; kind++ {
		s := stmt(kind, "")
		if kind <= api.StmtStore {
			s.Name = "y"
		}
		for n := range 4 {
			s.Args = list(call("f"), x, x)[:n]
			if tree.Right(prog(s)) != (n == how[kind]) {
				t.Error("T2: so many of Args", kind, n)
			}
		}
		s.Args = list(call("f"), x, x)[:how[kind]]
		then, other := s, s
		then.Then, other.Else = block(stmt(api.StmtBreak, "")), block(stmt(api.StmtBreak, ""))
		if tree.Right(prog(then)) != (kind == api.StmtIf || kind == api.StmtWhile) || tree.Right(prog(other)) != (kind == api.StmtIf) {
			t.Error("T2: statements in one of kind", kind)
		}
		then.Then = block(api.Stmt{})
		other.Else = block(stmt(api.StmtPrint, "", num(-1)))
		bad = append(bad, prog(then), prog(other))
	}
	for n := 30; n < 85; n++ {
		for i, s := range []api.Stmt{within(n, api.StmtIf, false, stmt(api.StmtBreak, "")), within(n, api.StmtIf, true, stmt(api.StmtBreak, "")), within(n, api.StmtWhile, false, stmt(api.StmtBreak, ""))} {
			if tree.Right(prog(stmt(api.StmtBreak, ""), s)) != (n < 40) {
				t.Error("T2: so deep", n, i)
			}
		}
	}
	for i, p := range bad {
		if tree.Right(p) {
			t.Error("T2: wrong", i)
		}
		if s, err := tree.Print(p); s != "" || err != api.ErrArg {
			t.Error("T4: wrong", i, s, err)
		}
	}
}

func TestPrintExpr(t *testing.T) {
	a, b, c := name("a"), name("b"), name("c")
	add, mul := two(api.OpAdd, a, b), two(api.OpMul, a, b)
	for want, e := range map[string]api.Expr{
		"0": num(0), "9223372036854775807": num(1<<63 - 1), "x": x, "read()": read, "f()": call("f"), "f(a + b, a)": call("f", add, a), "f(f(a), b, c)": call("f", call("f", a), b, c), "v[a + b]": index("v", add), "v[v[a]]": index("v", index("v", a)),
		"(1 + x) * -2": two(api.OpMul, two(api.OpAdd, num(1), x), one(api.OpNeg, num(2))), "a + b + c": two(api.OpAdd, add, c), "c + (a + b)": two(api.OpAdd, c, add), "a * b - c": two(api.OpSub, mul, c), "c - a * b": two(api.OpSub, c, mul), "c - (a + b)": two(api.OpSub, c, add), "--a": one(api.OpNeg, one(api.OpNeg, a)), "-(a * b)": one(api.OpNeg, mul), "!~-a": one(api.OpNot, one(api.OpInv, one(api.OpNeg, a))), "-f(a)": one(api.OpNeg, call("f", a)),
		"(a | b) & c": two(api.OpAnd, two(api.OpOr, a, b), c), "a | b ^ c & a": two(api.OpOr, a, two(api.OpXor, b, two(api.OpAnd, c, a))), "a == b == (b == c)": two(api.OpEq, two(api.OpEq, a, b), two(api.OpEq, b, c)), "a << (b >> c)": two(api.OpShl, a, two(api.OpShr, b, c)), "a << b >> c": two(api.OpShr, two(api.OpShl, a, b), c),
	} {
		if s, err := tree.PrintExpr(e); s != want || err != api.OK {
			t.Errorf("T3: told %q %v, not %q", s, err, want)
		}
	}
}

func TestPrint(t *testing.T) {
	p := api.Prog{
		Arrays: []api.Array{{Name: "a", Size: 12}, {Name: "b", Size: 1 << 20}},
		Funcs: []api.Func{
			{Name: "f"}, {Name: "g", Params: []string{"p"}, Locals: []string{"q", "r"}},
			{Name: "main", Params: []string{"p", "q"}, Body: block(
				stmt(api.StmtSet, "q", num(1)), stmt(api.StmtStore, "a", x, two(api.OpAdd, x, num(1))),
				api.Stmt{Kind: api.StmtIf, Args: list(x)},
				api.Stmt{Kind: api.StmtIf, Args: list(two(api.OpAdd, x, x)), Then: block(stmt(api.StmtBreak, "")), Else: block(api.Stmt{Kind: api.StmtWhile, Args: list(read), Then: block(stmt(api.StmtContinue, ""), stmt(api.StmtCall, "", call("g", x)))})},
				api.Stmt{Kind: api.StmtIf, Args: list(x), Else: block(stmt(api.StmtReturn, "", x))},
				api.Stmt{Kind: api.StmtWhile, Args: list(x)}, stmt(api.StmtPrint, "", x), stmt(api.StmtTrap, "", num(7)))},
		},
	}
	want := `int a[12];
int b[1048576];
int f() {
}
int g(int p) {
	int q;
	int r;
}
int main(int p, int q) {
	q = 1;
	a[x] = x + 1;
	if (x) {
	}
	if (x + x) {
		break;
	} else {
		while (read()) {
			continue;
			g(x);
		}
	}
	if (x) {
	} else {
		return x;
	}
	while (x) {
	}
	print(x);
	trap(7);
}
`
	if s, err := tree.Print(p); s != want || err != api.OK {
		t.Errorf("T4: told %v\n%s", err, s)
	}
	if s, err := tree.Print(api.Prog{}); s != "" || err != api.OK {
		t.Error("T4: of nothing", s, err)
	}
}

// text is an expression's text, made from its parts' texts.
func text(e api.Expr) string {
	var parts []string
	for _, a := range e.Args {
		parts = append(parts, text(a))
	}
	in := func(i, level int) string {
		if a := e.Args[i]; a.Kind == api.ExprTwo && arith.Level(a.Op) < level {
			return "(" + parts[i] + ")"
		}
		return parts[i]
	}
	sign, _ := arith.Sign(e.Op)
	return map[int]func() string{
		api.ExprNum:   func() string { return strconv.Itoa(e.N) },
		api.ExprVar:   func() string { return e.Name },
		api.ExprOne:   func() string { return sign + in(0, 9) },
		api.ExprTwo:   func() string { return in(0, arith.Level(e.Op)) + " " + sign + " " + in(1, arith.Level(e.Op)+1) },
		api.ExprCall:  func() string { return e.Name + "(" + strings.Join(parts, ", ") + ")" },
		api.ExprIndex: func() string { return e.Name + "[" + parts[0] + "]" },
		api.ExprRead:  func() string { return "read()" },
	}[e.Kind]()
}

// TestTheorem: T6.
func TestTheorem(t *testing.T) {
	d := sample.New(3)
	exprs, progs := map[string]api.Expr{}, map[string]api.Prog{}
	for range 4000 {
		e := sample.Expr(d, 1+d.Roll(5))
		s, err := tree.PrintExpr(e)
		if err != api.OK || s != text(e) {
			t.Fatalf("T3: told %q %v, not %q", s, err, text(e))
		}
		if other, ok := exprs[s]; ok && !tree.Same(prog(stmt(api.StmtPrint, "", e)), prog(stmt(api.StmtPrint, "", other))) {
			t.Fatal("T6: two of one text", s)
		}
		exprs[s] = e
	}
	for range 500 {
		p := sample.Prog(d)
		s, err := tree.Print(p)
		if other, ok := progs[s]; ok && !tree.Same(p, other) || err != api.OK {
			t.Fatal("T6: two of one text", s, err)
		}
		progs[s] = p
		if tokens, err, _ := scan.Scan(s); len(s) <= api.MaxText && (err != api.OK || len(tokens) == 0) {
			t.Fatal("T6: no tokens", s)
		}
	}
	if len(exprs) < 1000 || len(progs) < 400 {
		t.Error("too few that are unlike", len(exprs), len(progs))
	}
}

// changed are programs with one thing changed, all unlike one another.
func changed() []api.Prog {
	base := func() api.Prog {
		return api.Prog{Arrays: []api.Array{{Name: "a", Size: 2}}, Funcs: []api.Func{{Name: "main", Params: []string{"p"}, Locals: []string{"q"}, Body: block(api.Stmt{Kind: api.StmtIf, Args: list(two(api.OpAdd, x, num(1))), Then: block(stmt(api.StmtSet, "q", x)), Else: block(stmt(api.StmtPrint, "", x))})}}}
	}
	var out []api.Prog
	for _, change := range []func(p *api.Prog){
		func(p *api.Prog) {},
		func(p *api.Prog) { p.Arrays[0].Name = "b" }, func(p *api.Prog) { p.Arrays[0].Size = 3 }, func(p *api.Prog) { p.Arrays = append(p.Arrays, p.Arrays[0]) }, func(p *api.Prog) { p.Arrays = nil },
		func(p *api.Prog) { p.Funcs[0].Name = "f" }, func(p *api.Prog) { p.Funcs[0].Params[0] = "r" }, func(p *api.Prog) { p.Funcs[0].Params = nil }, func(p *api.Prog) { p.Funcs[0].Locals[0] = "r" }, func(p *api.Prog) { p.Funcs[0].Locals = nil }, func(p *api.Prog) { p.Funcs = nil }, func(p *api.Prog) { p.Funcs = append(p.Funcs, p.Funcs[0]) },
		func(p *api.Prog) { p.Funcs[0].Body = nil }, func(p *api.Prog) { p.Funcs[0].Body[0].Kind = api.StmtWhile }, func(p *api.Prog) { p.Funcs[0].Body[0].Name = "z" }, func(p *api.Prog) { p.Funcs[0].Body[0].Args[0].Op = api.OpSub }, func(p *api.Prog) { p.Funcs[0].Body[0].Args[0].Kind = 1 }, func(p *api.Prog) { p.Funcs[0].Body[0].Args[0].Args[1].N = 2 }, func(p *api.Prog) { p.Funcs[0].Body[0].Args[0].Args[0].Name = "y" }, func(p *api.Prog) { p.Funcs[0].Body[0].Args = nil },
		func(p *api.Prog) { p.Funcs[0].Body[0].Then[0].Name = "y" }, func(p *api.Prog) { p.Funcs[0].Body[0].Then = nil }, func(p *api.Prog) { p.Funcs[0].Body[0].Else[0].Kind = api.StmtTrap }, func(p *api.Prog) { p.Funcs[0].Body[0].Else = nil }, func(p *api.Prog) { b := &p.Funcs[0].Body[0]; b.Then, b.Else = b.Else, b.Then },
	} {
		p := base()
		change(&p)
		out = append(out, p)
	}
	return out
}

func TestSame(t *testing.T) {
	as, bs := changed(), changed()
	for i, a := range as {
		for j, b := range bs {
			if tree.Same(a, b) != (i == j) {
				t.Error("T5: Same", i, j)
			}
		}
	}
	empty := api.Prog{Arrays: []api.Array{}, Funcs: []api.Func{}}
	if !tree.Same(empty, api.Prog{}) || !tree.Same(api.Prog{}, empty) {
		t.Error("T5: lists without elements")
	}
	with := prog(api.Stmt{Kind: 3, Args: []api.Expr{{Args: []api.Expr{}}}, Then: []api.Stmt{}, Else: []api.Stmt{}})
	with.Funcs[0].Params, with.Funcs[0].Locals = []string{}, []string{}
	if !tree.Same(with, prog(api.Stmt{Kind: 3, Args: []api.Expr{{}}})) {
		t.Error("T5: lists without elements, within")
	}
}

func TestSize(t *testing.T) {
	for i, c := range []struct {
		p    api.Prog
		want int
	}{
		{api.Prog{}, 0}, {prog(), 0}, {prog(stmt(api.StmtBreak, "")), 1}, {changed()[0], 8}, {prog(stmt(api.StmtPrint, "", signs(39))), 41}, {prog(nest(3, stmt(api.StmtPrint, "", x))), 8}, {prog(stmt(api.StmtCall, "", call("f", six...))), 8},
		{api.Prog{Arrays: []api.Array{{Name: "a", Size: 5}}, Funcs: []api.Func{{Name: "f", Params: []string{"p"}, Body: block(stmt(api.StmtBreak, ""))}, {Name: "g", Locals: []string{"q"}, Body: block(stmt(api.StmtBreak, ""))}}}, 2},
		{prog(nest(50000, stmt(api.StmtBreak, ""))), 100001}, {prog(api.Stmt{Kind: api.StmtBreak, Args: list(x, one(99, x)), Then: block(api.Stmt{}), Else: block(api.Stmt{})}), 6},
	} {
		if n := tree.Size(c.p); n != c.want {
			t.Error("T5: Size", i, n, c.want)
		}
	}
}

// TestMemory: what is handed in is not written into.
func TestMemory(t *testing.T) {
	a, b := changed(), changed()
	for i := range a {
		tree.Right(a[i])
		tree.Print(a[i])
		tree.Size(a[i])
		tree.Same(a[i], b[i])
	}
	if !reflect.DeepEqual(a, changed()) {
		t.Error("R3: written into")
	}
}
