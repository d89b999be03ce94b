package eval_test

import (
	"math/big"
	"reflect"
	"slices"
	"strings"
	"testing"

	"counterproof/api"
	"counterproof/eval"
	"counterproof/parse"
	"counterproof/sample"
	"counterproof/tree"
)

func prog(t *testing.T, s string) api.Prog {
	t.Helper()
	p, err, line := parse.Parse(s)
	if err != api.OK {
		t.Fatal(s, err, line)
	}
	return p
}

func same(a, b api.Run) bool {
	return a.Status == b.Status && a.Code == b.Code && a.Steps == b.Steps && slices.Equal(a.Out, b.Out)
}

func TestRun(t *testing.T) {
	const enough = 100000
	for _, c := range []struct {
		text  string
		in    []int
		steps int
		want  api.Run
	}{
		{"int main() {}", nil, 0, api.Run{Status: api.StatDone}},
		{"int main() {}", nil, -5, api.Run{Status: api.StatDone}},
		{"int main() { print(6 * 7); }", nil, enough, api.Run{Status: api.StatDone, Out: []int{42}, Steps: 4}},
		{"int main() { print(6 * 7); }", nil, 4, api.Run{Status: api.StatDone, Out: []int{42}, Steps: 4}},
		{"int main() { print(6 * 7); }", nil, 3, api.Run{Steps: 3}},
		{"int main() { print(6 * 7); }", nil, 0, api.Run{}},
		{"int main() { print(6 * 7); }", nil, -1, api.Run{}},
		{"int main() { print(1 / read()); return 7; }", []int{1}, enough, api.Run{Status: api.StatDone, Code: 7, Out: []int{1}, Steps: 6}},
		{"int main() { print(1 / read()); return 7; }", []int{0}, enough, api.Run{Status: api.StatDiv, Steps: 4}},
		{"int main() { print(1); return 1 % 0; }", nil, enough, api.Run{Status: api.StatDiv, Out: []int{1}, Steps: 6}},
		{"int a[2]; int main() { a[2] = 1; }", nil, enough, api.Run{Status: api.StatBounds, Steps: 3}},
		{"int a[2]; int main() { a[0 - 1] = 1; }", nil, enough, api.Run{Status: api.StatBounds, Steps: 5}},
		{"int a[2]; int main() { a[0] = 5; a[1] = 6; print(a[0] + a[1]); return a[2]; }", nil, enough, api.Run{Status: api.StatBounds, Out: []int{11}, Steps: 15}},
		{"int a[2]; int main() { return a[-1]; }", nil, enough, api.Run{Status: api.StatBounds, Steps: 4}},
		{"int a[2]; int main() { a[5] = 1 / 0; }", nil, enough, api.Run{Status: api.StatDiv, Steps: 5}},
		{"int a[1048576]; int b[1048576]; int main() { a[1048575] = 3; print(a[1048575]); print(b[1048575]); print(a[513]); }", nil, enough, api.Run{Status: api.StatDone, Out: []int{3, 0, 0}, Steps: 12}},
		{"int f(int n) { return f(n); } int main() { f(1); }", nil, enough, api.Run{Status: api.StatDepth, Steps: 3 + 49*3}},
		{"int f(int n) { print(n); if (n < 49) { f(n + 1); } } int main() { f(1); return 9; }", nil, enough, api.Run{Status: api.StatDone, Code: 9, Out: upTo(1, 49), Steps: 49*6 + 48*5 + 5}},
		{"int f(int n) { print(n); f(n + 1); } int main() { f(1); }", nil, enough, api.Run{Status: api.StatDepth, Out: upTo(1, 49), Steps: 49*7 + 3}},
		{"int main() { main(); }", nil, enough, api.Run{Status: api.StatDepth, Steps: 100}},
		{"int f(int n) { } int g() { g(); } int main() { f(1 / 0); g(); }", nil, enough, api.Run{Status: api.StatDiv, Steps: 5}},
		{"int main() { trap(7); }", nil, enough, api.Run{Status: api.StatTrap, Code: 7, Steps: 2}},
		{"int f() { trap(-1); } int main() { print(f()); }", nil, enough, api.Run{Status: api.StatTrap, Code: -1, Steps: 5}},
		{"int main() { print(read()); print(read()); print(read()); }", []int{5, -7}, enough, api.Run{Status: api.StatDone, Out: []int{5, -7, -1}, Steps: 6}},
		{"int main() { int x; while (x < 3) { x = x + 1; } return x; }", nil, enough, api.Run{Status: api.StatDone, Code: 3, Steps: 1 + 4*3 + 3*4 + 2}},
		{"int main() { int x; while (1) { x = x + 1; if (x == 2) { continue; } if (x > 3) { break; } print(x); } print(9); }", nil, enough, api.Run{Status: api.StatDone, Out: []int{1, 3, 9}, Steps: 57}},
		{"int main() { int x; while (x < 2) { x = x + 1; while (1) { break; } print(x); } }", nil, enough, api.Run{Status: api.StatDone, Out: []int{1, 2}, Steps: 1 + 3*3 + 2*(4+3+2)}},
		{"int main() { while (1) { while (1) { return 4; } } }", nil, enough, api.Run{Status: api.StatDone, Code: 4, Steps: 6}},
		{"int main() { if (0) { print(1); } else { print(2); } if (-5) { print(3); } if (0) { print(4); } }", nil, enough, api.Run{Status: api.StatDone, Out: []int{2, 3}, Steps: 11}},
		{"int f(int a, int b) { int c; c = c + 1; a = a + 10; return a * 100 + b * 10 + c; } int main() { int a; a = 1; print(f(a, 2)); print(f(a, 3)); print(a); }", nil, enough, api.Run{Status: api.StatDone, Out: []int{1121, 1131, 1}, Steps: 2 + 2*4 + 2 + 2*18}},
		{"int f() { print(1); return 5; } int g() { print(2); } int main() { print(f() - g()); }", nil, enough, api.Run{Status: api.StatDone, Out: []int{1, 2, 5}, Steps: 4 + 4 + 2}},
		{"int a[1]; int f() { a[0] = a[0] + 1; return a[0]; } int main() { print(a[0] + f() * 10 + a[0] * 100); }", nil, enough, api.Run{Status: api.StatDone, Out: []int{110}, Steps: 12 + 9}},
		{"int main() { while (1) { } }", nil, 1000, api.Run{Steps: 1000}},
		{"int main() { while (1) { print(5); } }", nil, 10, api.Run{Out: []int{5, 5, 5}, Steps: 10}},
		{"int main() { print(!0); print(!7); print(~0); print(-3); print(9223372036854775807 + 1); }", nil, enough, api.Run{Status: api.StatDone, Out: []int{1, 0, -1, -3, -1 << 63}, Steps: 16}},
		{"int main() { x = 1; }", nil, enough, api.Run{}}, {"int f() { }", nil, enough, api.Run{}}, {"", nil, enough, api.Run{}},
	} {
		if got := eval.Run(prog(t, c.text), c.in, c.steps); !same(got, c.want) {
			t.Error("E1:", c.text, "told", got, "not", c.want)
		}
	}
	if got := eval.Run(api.Prog{Funcs: []api.Func{{Name: "main", Body: []api.Stmt{{}}}}}, nil, 9); !same(got, api.Run{}) {
		t.Error("E1: not right:", got)
	}
}

func upTo(from, to int) []int {
	var out []int
	for n := from; n <= to; n++ {
		out = append(out, n)
	}
	return out
}

// other is a run by the words of the document, with names looked up where they are met, and numbers without an end that are cut.
type other struct {
	p     api.Prog
	in    []int
	mem   map[string]map[int]int
	run   api.Run
	limit int
	calls int
}

type over struct{ status, code int }

func (o *other) step() {
	if o.run.Steps >= o.limit {
		panic(over{})
	}
	o.run.Steps++
}

func cut(n *big.Int) int {
	return int(new(big.Int).And(n, new(big.Int).SetUint64(1<<64-1)).Uint64())
}

func told(is bool) int {
	if is {
		return 1
	}
	return 0
}

func two(op, a, b int) int {
	x, y, z := big.NewInt(int64(a)), big.NewInt(int64(b)), new(big.Int)
	switch {
	case (op == api.OpDiv || op == api.OpRem) && b == 0:
		panic(over{api.StatDiv, 0})
	case op >= api.OpLt && op <= api.OpNe:
		return told([]bool{a < b, a <= b, a > b, a >= b, a == b, a != b}[op-api.OpLt])
	case op == api.OpShl:
		return cut(z.Lsh(x, uint(b&63)))
	case op == api.OpShr:
		return cut(z.Rsh(x, uint(b&63)))
	}
	return cut(map[int]func(x, y *big.Int) *big.Int{api.OpAdd: z.Add, api.OpSub: z.Sub, api.OpMul: z.Mul, api.OpDiv: z.Quo, api.OpRem: z.Rem, api.OpAnd: z.And, api.OpOr: z.Or, api.OpXor: z.Xor}[op](x, y))
}

func (o *other) size(name string) int {
	for _, a := range o.p.Arrays {
		if a.Name == name {
			return a.Size
		}
	}
	panic(name)
}

func (o *other) expr(e api.Expr, env map[string]int) int {
	o.step()
	var n []int
	for _, a := range e.Args {
		n = append(n, o.expr(a, env))
	}
	switch e.Kind {
	case api.ExprNum:
		return e.N
	case api.ExprVar:
		v, ok := env[e.Name]
		if !ok {
			panic(e.Name)
		}
		return v
	case api.ExprOne:
		return map[int]int{api.OpNeg: -n[0], api.OpNot: told(n[0] == 0), api.OpInv: -1 - n[0]}[e.Op]
	case api.ExprTwo:
		return two(e.Op, n[0], n[1])
	case api.ExprIndex:
		if n[0] < 0 || n[0] >= o.size(e.Name) {
			panic(over{api.StatBounds, 0})
		}
		return o.mem[e.Name][n[0]]
	case api.ExprRead:
		if len(o.in) == 0 {
			return -1
		}
		v := o.in[0]
		o.in = o.in[1:]
		return v
	}
	if o.calls == 50 {
		panic(over{api.StatDepth, 0})
	}
	return o.call(e.Name, n)
}

func (o *other) call(name string, n []int) int {
	f := o.p.Funcs[slices.IndexFunc(o.p.Funcs, func(f api.Func) bool { return f.Name == name })]
	env := map[string]int{}
	for i, s := range f.Params {
		env[s] = n[i]
	}
	for _, s := range f.Locals {
		env[s] = 0
	}
	o.calls++
	_, v := o.stmts(f.Body, env)
	o.calls--
	return v
}

func (o *other) stmts(list []api.Stmt, env map[string]int) (string, int) {
	for _, s := range list {
		if how, v := o.stmt(s, env); how != "" {
			return how, v
		}
	}
	return "", 0
}

func (o *other) stmt(s api.Stmt, env map[string]int) (string, int) {
	o.step()
	if s.Kind == api.StmtWhile {
		for o.expr(s.Args[0], env) != 0 {
			if how, v := o.stmts(s.Then, env); how == "return" {
				return how, v
			} else if how == "break" {
				return "", 0
			}
		}
		return "", 0
	}
	var n []int
	for _, a := range s.Args {
		n = append(n, o.expr(a, env))
	}
	switch s.Kind {
	case api.StmtSet:
		env[s.Name] = n[0]
	case api.StmtStore:
		if n[0] < 0 || n[0] >= o.size(s.Name) {
			panic(over{api.StatBounds, 0})
		}
		if o.mem[s.Name] == nil {
			o.mem[s.Name] = map[int]int{}
		}
		o.mem[s.Name][n[0]] = n[1]
	case api.StmtIf:
		if n[0] != 0 {
			return o.stmts(s.Then, env)
		}
		return o.stmts(s.Else, env)
	case api.StmtBreak:
		return "break", 0
	case api.StmtContinue:
		return "continue", 0
	case api.StmtReturn:
		return "return", n[0]
	case api.StmtPrint:
		o.run.Out = append(o.run.Out, n[0])
	case api.StmtTrap:
		panic(over{api.StatTrap, n[0]})
	}
	return "", 0
}

func reference(p api.Prog, in []int, steps int) (run api.Run) {
	o := other{p: p, in: in, mem: map[string]map[int]int{}, limit: steps}
	defer func() {
		run = o.run
		if x := recover(); x != nil {
			run.Status, run.Code = x.(over).status, x.(over).code
		}
	}()
	o.run.Code = o.call("main", nil)
	o.run.Status = api.StatDone
	return
}

func TestRandom(t *testing.T) {
	d := sample.New(10)
	var ended [7]int
	for range 3000 {
		p, in, steps := sample.Prog(d), d.Numbers(6), d.Roll(3000)
		got, want := eval.Run(p, in, steps), reference(p, in, steps)
		if !same(got, want) {
			s, _ := tree.Print(p)
			t.Fatal("E1:", s, in, steps, "told", got, "not", want)
		}
		ended[got.Status]++
	}
	for status := api.StatGoing; status <= api.StatTrap; status++ {
		if ended[status] < 5 {
			t.Error("too few runs that end with status", status, ended)
		}
	}
}

// TestTheorem: E3.
func TestTheorem(t *testing.T) {
	d := sample.New(11)
	for range 150 {
		p, in := sample.Prog(d), d.Numbers(4)
		most := eval.Run(p, in, 700)
		for steps := -1; steps <= 700; steps++ {
			got := eval.Run(p, in, steps)
			if got.Status != api.StatGoing {
				if !same(got, most) {
					t.Fatal("E3: it ended otherwise", steps, got, most)
				}
				break
			}
			if got.Code != 0 || got.Steps != max(steps, 0) || len(got.Out) > len(most.Out) || !slices.Equal(got.Out, most.Out[:len(got.Out)]) {
				t.Fatal("E3: it told something else", steps, got, most)
			}
		}
		asked := strings.Count(text(p), "read()")
		if asked == 0 && !same(most, eval.Run(p, nil, 700)) {
			t.Error("E3: what it has not read")
		}
		if most.Status != api.StatGoing && !same(most, eval.Run(p, append(slices.Clone(in), enoughMinus(700)...), 700)) {
			t.Error("E3: what is read behind the end is -1", in)
		}
	}
	p := prog(t, "int main() { print(read()); if (read()) { print(read()); } }")
	if !same(eval.Run(p, []int{4, 0, 5, 6}, 99), eval.Run(p, []int{4, 0}, 99)) {
		t.Error("E3: what it has not read")
	}
}

func text(p api.Prog) string {
	s, _ := tree.Print(p)
	return s
}

func enoughMinus(n int) []int {
	out := make([]int, n)
	for i := range out {
		out[i] = -1
	}
	return out
}

func TestValue(t *testing.T) {
	for s, want := range map[string]int{"0": 0, "'a'": 97, "-5": -5, "!0 + ~0": 0, "1 + 2 * 3": 7, "7 / 2 % 2": 1, "9223372036854775807 + 1": -1 << 63, "(-9223372036854775807 - 1) / -1": -1 << 63, "1 << 65": 2, "(3 < 4) == 1": 1} {
		e, _, _ := parse.Expr(s)
		if n, ok := eval.Value(e); n != want || !ok {
			t.Error("E2:", s, n, ok)
		}
	}
	for _, s := range []string{"x", "a[0]", "f()", "f(1)", "read()", "1 + x", "-read()", "1 / 0", "1 % 0", "1 / (2 - 2)", "0 * (1 / 0)", "1 + f(2)", "!a[1]", "1 && 2"} {
		e, _, _ := parse.Expr(s)
		if n, ok := eval.Value(e); n != 0 || ok {
			t.Error("E2:", s, n, ok)
		}
	}
	deep := api.Expr{Kind: api.ExprNum, N: 1}
	for range 39 {
		deep = api.Expr{Kind: api.ExprOne, Op: api.OpNeg, Args: []api.Expr{deep}}
	}
	if n, ok := eval.Value(deep); n != -1 || !ok {
		t.Error("E2: deep", n, ok)
	}
	one := []api.Expr{{Kind: api.ExprNum, N: 1}}
	for i, e := range []api.Expr{{}, {Kind: api.ExprNum, N: -1}, {Kind: api.ExprNum, Name: "x"}, {Kind: api.ExprOne, Op: api.OpNeg, Args: []api.Expr{deep}}, {Kind: api.ExprOne, Op: api.OpAdd, Args: one}, {Kind: api.ExprTwo, Op: api.OpAdd, Args: one}, {Kind: api.ExprOne, Op: api.OpNeg}, {Kind: 99, Args: one}} {
		if n, ok := eval.Value(e); n != 0 || ok {
			t.Error("E2: not right", i, n, ok)
		}
	}
	d := sample.New(12)
	fine := 0
	for range 4000 {
		e := sample.Expr(d, 1+d.Roll(4))
		p := api.Prog{Funcs: []api.Func{{Name: "main", Body: []api.Stmt{{Kind: api.StmtPrint, Args: []api.Expr{e}}}}}}
		want := eval.Run(p, nil, 1000)
		s, _ := tree.PrintExpr(e)
		known := len(want.Out) == 1 && !strings.Contains(s, "read")
		n, ok := eval.Value(e)
		if ok != known || known && n != want.Out[0] || !known && n != 0 {
			t.Error("E2:", s, n, ok, want)
		}
		fine += told(known)
	}
	if fine < 200 {
		t.Error("too few", fine)
	}
}

// TestMemory: R3 and R4.
func TestMemory(t *testing.T) {
	p, in := prog(t, "int a[3]; int main() { a[0] = a[0] + read(); print(a[0]); }"), []int{5, 6}
	before := prog(t, text(p))
	first := eval.Run(p, in[:1], 99)
	if in[1] != 6 || !reflect.DeepEqual(p, before) {
		t.Error("R3: written into")
	}
	first.Out[0] = 77
	if got := eval.Run(p, in[:1], 99); !slices.Equal(got.Out, []int{5}) {
		t.Error("R4: a run that knows of another one", got)
	}
}
