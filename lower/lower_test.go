package lower_test

import (
	"reflect"
	"slices"
	"strings"
	"testing"

	"counterproof/api"
	"counterproof/eval"
	"counterproof/ir"
	"counterproof/irrun"
	"counterproof/lower"
	"counterproof/parse"
	"counterproof/sample"
	"counterproof/tree"
)

func prog(t *testing.T, s string) api.Prog {
	t.Helper()
	p, err, line := parse.Parse(s)
	if err != api.OK {
		t.Fatal(s, err, line)
	}
	return p
}

// follows tells whether b does what a does: it ends so, if a is at its end, and else it told at least as much.
func follows(a, b api.Run) bool {
	if a.Status != api.StatGoing {
		return a.Status == b.Status && a.Code == b.Code && slices.Equal(a.Out, b.Out)
	}
	return len(a.Out) <= len(b.Out) && slices.Equal(a.Out, b.Out[:len(a.Out)])
}

// lowered is the unit of a program, which must be as L1 says.
func lowered(t *testing.T, p api.Prog) api.Unit {
	t.Helper()
	u, err := lower.Lower(p)
	if err != api.OK {
		t.Fatal("L1:", err)
	}
	if err, at := ir.Check(u); err != api.OK {
		t.Fatal("L1: a unit that may not be", err, at)
	}
	if !slices.Equal(u.Arrays, p.Arrays) || len(u.Flows) != len(p.Funcs) {
		t.Fatal("L1: arrays, or so many functions")
	}
	for i, f := range u.Flows {
		if f.Name != p.Funcs[i].Name || f.Params != len(p.Funcs[i].Params) {
			t.Fatal("L1: a function", f.Name, f.Params)
		}
		for _, b := range f.Blocks {
			if slices.Contains(ir.Next(b.Term), 0) {
				t.Fatal("L1: an end leads to block 0 of", f.Name)
			}
		}
	}
	return u
}

// agree asks for L2, of so many steps, either way.
func agree(t *testing.T, p api.Prog, u api.Unit, in []int, n int) {
	t.Helper()
	s := 1 + tree.Size(p)
	if a, b := eval.Run(p, in, n), irrun.Run(u, in, 4*n+10); !follows(a, b) {
		text, _ := tree.Print(p)
		t.Fatal("L2: of the program's steps", n, text, in, a, b)
	}
	if a, b := irrun.Run(u, in, n), eval.Run(p, in, (9*n+20)*s); !follows(a, b) {
		text, _ := tree.Print(p)
		t.Fatal("L2: of the unit's steps", n, text, in, a, b)
	}
}

// texts are programs that turn at each kind of statement and expression.
var texts = []string{
	"int main() {}", "int main() { print(1 + 2); }", "int main() { return read() - read() * 2; }", "int main() { int x; x = x + 1; print(x); x = -x; print(!x); print(~x); return x; }",
	"int main() { int x; int y; x = 3; y = x; x = 4; print(y); print(x - y); }", "int main() { while (1) {} }", "int main() { while (1) { print(1); } }", "int main() { while (0) { print(1); } }", "int main() { if (read()) {} print(1); }", "int main() { if (read()) { print(1); } else { print(2); } }", "int main() { if (read()) { return 1; } else { return 2; } }", "int main() { if (read()) { return 1; } else { print(3); } print(4); }", "int main() { if (read()) { } else { trap(2); } print(4); }",
	"int main() { int i; while (i < 5) { i = i + 1; if (i == 2) { continue; } if (i == 4) { break; } print(i); } print(9); }", "int main() { int i; while (i < 3) { int_(); i = i + 1; while (1) { break; print(7); } } } int int_() { print(5); while (1) { return 3; } }", "int main() { while (1) { while (1) { return 5; print(1); } print(2); } print(3); }", "int main() { return 1; print(2); while (1) { break; } }", "int main() { trap(3); print(2); }", "int main() { while (1) { break; } while (1) { if (1) { break; } else { continue; } } print(1); }", "int main() { while (1) { continue; } }",
	"int a[3]; int main() { a[0] = 5; a[a[0] - 4] = a[0] + 1; print(a[0]); print(a[1]); print(a[2]); print(a[3]); }", "int a[3]; int main() { a[-1] = read(); }", "int a[3]; int main() { a[3] = 1 / 0; }", "int a[1]; int f() { a[0] = a[0] + 1; return a[0]; } int main() { print(a[0] + f() * 10 + a[0] * 100 + f() * 1000); a[f() - 3] = f(); print(a[0]); }",
	"int f(int a, int b) { int c; a = a + 10; c = c + 1; return a * 100 + b * 10 + c; } int main() { int a; a = 1; print(f(a, 2)); print(f(f(1, a), f(a, a))); print(a); }", "int f(int n) { return f(n); } int main() { f(1); }", "int f(int n) { if (n < 49) { return f(n + 1); } return n; } int main() { print(f(1)); }", "int f(int n) { print(n); if (n < 2) { return n; } return f(n - 1) + f(n - 2); } int main() { print(f(7)); }", "int main() { main(); }", "int f(int n) {} int main() { f(1 / 0); }", "int f(int x, int y) { x = y; y = 3; return x; } int main() { int x; x = 7; x = f(1, x) + x; print(x); }", "int main() { int x; x = 5; x = x * x - x / 2 % 3; print(x); x = (x < 3) + (x <= 3) + (x > 3) + (x >= 3) + (x == 3) + (x != 3) + (x << 2) + (x >> 1) + (x & 6) + (x | 6) + (x ^ 6); print(x); }", "int main() { print(1 / read()); }", "int main() { print(5 % read()); }",
}

func TestTexts(t *testing.T) {
	for _, s := range texts {
		p := prog(t, s)
		u := lowered(t, p)
		for _, in := range [][]int{nil, {0}, {1, 2}, {-7, 0, 3}} {
			for n := -1; n < 150; n++ {
				agree(t, p, u, in, n)
			}
			agree(t, p, u, in, 5000)
		}
	}
}

func TestRandom(t *testing.T) {
	d := sample.New(22)
	ended := 0
	for range 1500 {
		p, in := sample.Prog(d), d.Numbers(5)
		u := lowered(t, p)
		for range 4 {
			agree(t, p, u, in, d.Roll(300))
		}
		agree(t, p, u, in, 2000)
		if eval.Run(p, in, 2000).Status != api.StatGoing {
			ended++
		}
	}
	if ended < 500 {
		t.Error("too few that end", ended)
	}
}

// TestErrors: L1's errors.
func TestErrors(t *testing.T) {
	for _, s := range []string{"", "int f() {}", "int main() { x = 1; }", "int main(int x) {}", "int main() { break; }"} {
		if u, err := lower.Lower(prog(t, s)); err != api.ErrArg || len(u.Arrays)+len(u.Flows) > 0 {
			t.Error("L1:", s, err)
		}
	}
	if _, err := lower.Lower(api.Prog{Funcs: []api.Func{{Name: "main", Body: []api.Stmt{{}}}}}); err != api.ErrArg {
		t.Error("L1: not right", err)
	}
	long := func(n int, s api.Stmt) api.Prog {
		return api.Prog{Funcs: []api.Func{{Name: "main", Locals: []string{"x"}, Body: slices.Repeat([]api.Stmt{s}, n)}}}
	}
	num := []api.Expr{{Kind: api.ExprNum, N: 1}}
	told := api.Stmt{Kind: api.StmtPrint, Args: num}
	if u, err := lower.Lower(long(200001, told)); err != api.ErrLimit || len(u.Arrays)+len(u.Flows) > 0 {
		t.Error("L1: no unit can print so often", err)
	}
	if u, err := lower.Lower(long(20000, api.Stmt{Kind: api.StmtWhile, Args: num, Then: []api.Stmt{told}})); err != api.ErrLimit || len(u.Arrays)+len(u.Flows) > 0 {
		t.Error("L1: no unit has so many loops", err)
	}
	// A function of 1000 statements, expressions and locals has no limit.
	for i, s := range []api.Stmt{told, {Kind: api.StmtIf, Args: num}, {Kind: api.StmtWhile, Args: num}, {Kind: api.StmtSet, Name: "x", Args: num}, {Kind: api.StmtReturn, Args: num}, {Kind: api.StmtCall, Args: []api.Expr{{Kind: api.ExprCall, Name: "main"}}}} {
		p := long(499, s)
		agree(t, p, lowered(t, p), nil, 3000)
		if n := tree.Size(p) + 1; n > 1000 {
			t.Error(i, n)
		}
	}
	locals := long(1, told)
	for i := range 990 {
		locals.Funcs[0].Locals = append(locals.Funcs[0].Locals, "y"+strings.Repeat("z", i%10)+string(rune('a'+i/10%10))+string(rune('a'+i/100)))
	}
	lowered(t, locals)
	nest := told
	for i := range 39 {
		nest = api.Stmt{Kind: api.StmtWhile, Args: num, Then: []api.Stmt{nest, {Kind: api.StmtBreak}}}
		if i%2 == 0 {
			nest = api.Stmt{Kind: api.StmtIf, Args: num, Else: []api.Stmt{nest.Then[0]}}
		}
	}
	p := long(1, nest)
	agree(t, p, lowered(t, p), nil, 1000)
}

// TestSame: L3, and R3.
func TestSame(t *testing.T) {
	for seed := range 50 {
		p, q := sample.Prog(sample.New(seed)), sample.Prog(sample.New(seed))
		a, b := lowered(t, p), lowered(t, q)
		if !reflect.DeepEqual(a, b) || !reflect.DeepEqual(p, q) {
			t.Error("L3: another unit, or R3: written into")
		}
		if len(a.Arrays) > 0 {
			a.Arrays[0].Name = "other"
		}
		for i := range a.Flows[0].Blocks {
			for k := range a.Flows[0].Blocks[i].Ins {
				args := a.Flows[0].Blocks[i].Ins[k].Args
				for j := range args {
					args[j] = 99
				}
				_ = append(args, 99)
			}
			_ = append(a.Flows[0].Blocks[i].Ins, api.Ins{})
		}
		if c := lowered(t, p); !reflect.DeepEqual(b, c) {
			t.Error("R3: shared")
		}
	}
}
