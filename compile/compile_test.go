package compile_test

import (
	"reflect"
	"slices"
	"strings"
	"testing"

	"counterproof/api"
	"counterproof/asm"
	"counterproof/check"
	"counterproof/compile"
	"counterproof/dead"
	"counterproof/emit"
	"counterproof/eval"
	"counterproof/fold"
	"counterproof/lower"
	"counterproof/mach"
	"counterproof/parse"
	"counterproof/sample"
	"counterproof/scan"
	"counterproof/tree"
)

func prog(t *testing.T, s string) api.Prog {
	t.Helper()
	p, err, line := parse.Parse(s)
	if err != api.OK {
		t.Fatal(s, err, line)
	}
	return p
}

func text(p api.Prog) string {
	s, _ := tree.Print(p)
	return s
}

// follows tells whether b does what a does: it ends so, if a is at its end, and else it told at least as much.
func follows(a, b api.Run) bool {
	if a.Status != api.StatGoing {
		return a.Status == b.Status && a.Code == b.Code && slices.Equal(a.Out, b.Out)
	}
	return len(a.Out) <= len(b.Out) && slices.Equal(a.Out, b.Out[:len(a.Out)])
}

// agree asks for K4, of so many steps, either way.
func agree(t *testing.T, p api.Prog, c api.Code, in []int, n int) {
	t.Helper()
	if a, b := eval.Run(p, in, n), mach.Run(c, in, 400*n+1200); !follows(a, b) {
		t.Fatal("K4: of the program's steps", n, text(p), in, a, b)
	}
	a := mach.Run(c, in, n)
	if b := eval.Run(p, in, (9*n+300)*(1+tree.Size(p))); !follows(a, b) || a.Status == api.StatFault {
		t.Fatal("K4: of the code's steps", n, text(p), in, a, b)
	}
}

func TestLine(t *testing.T) {
	p := prog(t, "int a[1]; int b[2]; int f(int x) { int y; int z; print(1); if (x) { print(2); while (y) { print(3); } } else { print(4); } print(5); } int g() { } int main() { while (1) { } if (1) { } print(6); if (1) { break; } else { } return 7; }")
	want := map[[2]int]int{{0, 0}: 6, {0, 1}: 7, {0, 2}: 8, {0, 3}: 9, {0, 4}: 10, {0, 5}: 13, {0, 6}: 15, {0, 7}: 3, {0, -1}: 3, {0, 1 << 62}: 3, {1, 0}: 17, {1, -5}: 17, {2, 0}: 20, {2, 1}: 22, {2, 2}: 24, {2, 3}: 25, {2, 4}: 26, {2, 5}: 28, {2, 6}: 19, {3, 0}: 1, {-1, 0}: 1, {-1 << 63, 0}: 1, {1 << 62, 5}: 1}
	for at, line := range want {
		if got := compile.Line(p, at[0], at[1]); got != line {
			t.Error("K1:", at, got, line)
		}
	}
	if compile.Line(api.Prog{}, 0, 0) != 1 || compile.Line(api.Prog{Arrays: []api.Array{{Name: "a"}}, Funcs: []api.Func{{Name: "main"}}}, 0, 0) != 1 {
		t.Error("K1: not right, or no such function")
	}
	// By the texts themselves: each statement's first line.
	d := sample.New(32)
	for range 100 {
		p := sample.Prog(d)
		lines := strings.Split(text(p), "\n")
		for f := range p.Funcs {
			if head := compile.Line(p, f, -1); !strings.HasPrefix(lines[head-1], "int "+p.Funcs[f].Name+"(") {
				t.Fatal("K1: a function", head, lines[head-1])
			}
			k := 0
			var walk func(list []api.Stmt, tabs int)
			walk = func(list []api.Stmt, tabs int) {
				for _, s := range list {
					line := lines[compile.Line(p, f, k)-1]
					begin := map[int]string{api.StmtSet: s.Name + " = ", api.StmtStore: s.Name + "[", api.StmtIf: "if (", api.StmtWhile: "while (", api.StmtBreak: "break;", api.StmtContinue: "continue;", api.StmtReturn: "return ", api.StmtPrint: "print(", api.StmtTrap: "trap(", api.StmtCall: ""}[s.Kind]
					if !strings.HasPrefix(line, strings.Repeat("\t", tabs)+begin) {
						t.Fatal("K1: a statement", f, k, line)
					}
					k++
					walk(s.Then, tabs+1)
					walk(s.Else, tabs+1)
				}
			}
			walk(p.Funcs[f].Body, 1)
			if compile.Line(p, f, k) != compile.Line(p, f, -1) {
				t.Fatal("K1: no such statement", f, k)
			}
		}
	}
}

func TestErrors(t *testing.T) {
	for _, c := range []struct {
		text  string
		level int
		want  api.Errno
		line  int
	}{
		{"int main() {}", -1, api.ErrArg, 1}, {"int main() {}", 3, api.ErrArg, 1}, {"@", 3, api.ErrArg, 1}, {"\n@", 1, api.ErrLex, 2}, {"int main() {", 0, api.ErrParse, 1}, {"\n\n}", 2, api.ErrParse, 3}, {strings.Repeat(" ", 20001), 1, api.ErrArg, 0}, {"int a[0];", 0, api.ErrLimit, 1},
		{"int main() { x = 1; }", 0, api.ErrUnknown, 2}, {"int main() { int y; print(1); x = 1; }", 1, api.ErrUnknown, 4}, {"int a[1]; int f() {} int main() { if (1) { break; } }", 2, api.ErrLoop, 6}, {"", 1, api.ErrMain, 1}, {"int a[1]; int f() { print(1); }", 1, api.ErrMain, 3}, {"int a[1]; int a[1];", 1, api.ErrTwice, 1}, {"int a[1]; int a() { } int main() { }", 1, api.ErrTwice, 2}, {"int main() { int x; int x; print(1); }", 1, api.ErrTwice, 4}, {"int f(int x, int x) { } int main() { }", 1, api.ErrTwice, 1}, {"int f(int x) { } int main() { f(); }", 1, api.ErrArity, 4},
	} {
		code, err, line := compile.Compile(c.text, c.level)
		if err != c.want || line != c.line || len(code.Lines)+len(code.Arrays) > 0 {
			t.Errorf("K2, K3: %.60q told %v %v, not %v %v", c.text, err, line, c.want, c.line)
		}
		if p, err, _ := parse.Parse(c.text); err == api.OK {
			if code, err, line := compile.Tree(p, c.level); err != c.want || line != c.line || len(code.Lines)+len(code.Arrays) > 0 {
				t.Errorf("K2: %.60q told %v %v, not %v %v", c.text, err, line, c.want, c.line)
			}
			if err, at := check.Check(p); err != api.OK && c.level >= 0 && c.level <= 2 && compile.Line(p, at[0], at[1]) != c.line {
				t.Errorf("K2: %.60q is told at another line", c.text)
			}
		}
	}
	if _, err, line := compile.Tree(api.Prog{Arrays: []api.Array{{Name: "1"}}}, 1); err != api.ErrArg || line != 1 {
		t.Error("K2: not right", err, line)
	}
	huge := api.Prog{Funcs: []api.Func{{Name: "main", Body: slices.Repeat([]api.Stmt{{Kind: api.StmtPrint, Args: []api.Expr{{Kind: api.ExprNum}}}}, 200001)}}}
	if _, err, line := compile.Tree(huge, 2); err != api.ErrLimit || line != 1 {
		t.Error("K2: more than a unit may have", err, line)
	}
	long := api.Prog{Funcs: []api.Func{{Name: "main", Body: slices.Repeat([]api.Stmt{{Kind: api.StmtPrint, Args: []api.Expr{{Kind: api.ExprNum}}}}, 40001)}}}
	wide := "int f(int x) { return x; } int main() { int v; v = 0"
	for range 3 {
		wide += " + f(read())"
	}
	for level := range 3 {
		if c, err, line := compile.Tree(long, level); err != api.ErrLimit || line != 1 || len(c.Lines) > 0 {
			t.Error("K2: a long program", level, err, line)
		}
		if c, err, line := compile.Compile(many(200), level); err != api.ErrLimit || line != 1 || len(c.Lines) > 0 {
			t.Error("K2: more values than a frame has", level, err, line)
		}
		if _, err, _ := compile.Compile(wide+"; print(v); }", level); err != api.OK {
			t.Error("K3:", level, err)
		}
	}
}

// many is a program that reads so many numbers ahead of telling them.
func many(n int) string {
	var locals, sets, prints strings.Builder
	for i := range n {
		name := "v" + string(rune('a'+i/26)) + string(rune('a'+i%26))
		locals.WriteString("int " + name + "; ")
		sets.WriteString(name + " = read(); ")
		prints.WriteString("print(" + name + "); ")
	}
	return "int main() { " + locals.String() + sets.String() + prints.String() + "}"
}

// texts are the examples of the whole, and what turns at each kind of statement.
var texts = []string{
	"int main() { print(6 * 7); }", "int main() { return 1 / read(); }", "int a[2]; int main() { a[2] = 1; }", "int f(int n) { return f(n); } int main() { f(1); }", "int main() { trap(7); }", "int main() { print(2 * 21); }", "int main() {}", "int main() { while (1) {} }", "int main() { while (1) { print(read()); } }",
	"int main() { int x; int y; while (x < 5) { x = x + 1; if (x == 2) { continue; } if (x == 4) { break; } y = y + x * 10; print(y); } return y - x; }", "int f(int n) { print(n); if (n < 2) { return n; } return f(n - 1) + f(n - 2); } int main() { print(f(6)); }", "int a[3]; int f(int i, int n) { a[i] = a[i] + n; return a[i]; } int main() { int i; while (i < 3) { print(f(i, i * i)); print(f(i, 1)); i = i + 1; } print(a[0] + a[1] * 10 + a[2] * 100); print(a[i]); }", "int f(int a, int b, int c, int d, int e, int g) { print(a - b * c + d - e * g); return g; } int main() { print(f(1, 2, 3, 4, 5, f(6, 5, 4, 3, 2, 1))); }",
	"int main() { int x; x = 3; while (x) { x = x - 1; print(5 / x); } }", "int main() { int x; x = 3; if (x - 3) { print(1 / 0); } else { print(x * 4 % 5); } if (1) { return 8; } print(9); }", "int f(int n) { if (n < 49) { return f(n + 1); } return n; } int main() { print(f(1)); print(f(0)); }", "int main() { int x; x = x; x = x / 1; print(~x + !x); print((-9223372036854775807 - 1) / -1); print(1 << 63 >> 63); }", many(70),
}

func TestTexts(t *testing.T) {
	for _, s := range texts {
		p := prog(t, s)
		for level := range 3 {
			c, err, line := compile.Compile(s, level)
			if err != api.OK || line != 0 {
				t.Fatal("K3:", s, level, err, line)
			}
			if other, err, line := compile.Tree(p, level); err != api.OK || line != 0 || !asm.Same(c, other) {
				t.Error("K3: Tree of what Parse tells", s, level)
			}
			if len(c.Lines) > 200*len(s)+100 {
				t.Error("K6:", s, level, len(c.Lines))
			}
			for _, in := range [][]int{nil, {0}, {1, 5}, {-3, 2, 7}} {
				for n := -1; n < 120; n += 3 {
					agree(t, p, c, in, n)
				}
				agree(t, p, c, in, 6000)
			}
		}
	}
	c, _, _ := compile.Compile("int main() { print(2 * 21); }", 2)
	if got := mach.Run(c, nil, 100); got.Status != api.StatDone || got.Code != 0 || !slices.Equal(got.Out, []int{42}) {
		t.Error("K4:", got)
	}
}

// TestLevels: K2: what is done at each level.
func TestLevels(t *testing.T) {
	d := sample.New(41)
	unlike := 0
	// Of this one a third time would leave out more than the second did.
	progs := []api.Prog{prog(t, "int main() { int w; int x; int y; x = read(); y = read(); w = y; y = x; x = 5; print(y); print(w); }")}
	for range 150 {
		progs = append(progs, sample.Prog(d))
	}
	for _, p := range progs {
		u, _ := lower.Lower(p)
		v := u
		for range 2 {
			v, _ = fold.Fold(v)
			v, _ = dead.Dead(v)
		}
		var want [3]api.Code
		want[0], _ = emit.Emit(u, 0)
		want[1], _ = emit.Emit(u, 18)
		want[2], _ = emit.Emit(v, 18)
		for level := range 3 {
			c, err, line := compile.Tree(p, level)
			if err != api.OK || line != 0 || !asm.Same(c, want[level]) {
				t.Fatal("K2: level", level, text(p), err, line)
			}
		}
		if !asm.Same(want[0], want[1]) && !asm.Same(want[1], want[2]) {
			unlike++
		}
	}
	if unlike < 100 {
		t.Error("too few that are unlike", unlike)
	}
}

// TestRandom: K4 to K6 of programs made by chance.
func TestRandom(t *testing.T) {
	d := sample.New(33)
	var ended [7]int
	for range 500 {
		p, in := sample.Prog(d), d.Numbers(5)
		s := text(p)
		spread := ""
		if len(s) <= 5000 {
			tokens, _, _ := scan.Scan(s)
			for _, tok := range tokens {
				spread += sample.Pick(d, []string{" ", "\t\r", "\n\n", " // é { int\n"}) + tok.Text
			}
		}
		run := eval.Run(p, in, 1200)
		ended[run.Status]++
		for level := range 3 {
			c, err, _ := compile.Tree(p, level)
			if err != api.OK {
				t.Fatal("K2:", s, level, err)
			}
			for range 3 {
				agree(t, p, c, in, d.Roll(300)-1)
			}
			agree(t, p, c, in, 1200)
			if other, err, _ := compile.Tree(p, level); err != api.OK || !asm.Same(c, other) {
				t.Fatal("R4: other code", s, level)
			}
			if spread != "" {
				other, err, _ := compile.Compile(spread, level)
				if err != api.OK || !asm.Same(c, other) {
					t.Fatal("K5: blanks and comments", spread, level, err)
				}
				if len(c.Lines) > 200*len(s)+100 {
					t.Fatal("K6:", s, level, len(c.Lines))
				}
			}
			if got := mach.Run(c, in, 400*1200+1200); run.Status != api.StatGoing && (got.Status != run.Status || got.Code != run.Code || !slices.Equal(got.Out, run.Out)) {
				t.Fatal("K5: level", level, s, in, got, run)
			}
		}
	}
	for status := api.StatGoing; status <= api.StatTrap; status++ {
		if ended[status] < 3 {
			t.Error("too few runs that end with status", status, ended)
		}
	}
}

// TestShort: K6 of texts as short as may be for what they make.
func TestShort(t *testing.T) {
	short := []string{"int main(){}", "int main(){}" + strings.Repeat("int f(){}", 1), "int main(){while(1){}}", "int main(){main();main();main();}", "int main(){int a;int b;a=b;b=a;a=-b;b=!a;a=a/b;a=a%b;}", "int f(int a,int b,int c,int d,int e,int g){f(a,a,a,a,a,a);f(a,b,c,d,e,g);}int main(){}"}
	names := ""
	for i := range 26 {
		names += "int " + string(rune('a'+i)) + "(){}"
	}
	for _, s := range append(short, names+"int main(){}") {
		for level := range 3 {
			c, err, _ := compile.Compile(s, level)
			if err != api.OK || len(c.Lines) > 200*len(s)+100 {
				t.Error("K6:", s, level, err, len(c.Lines))
			}
		}
	}
}

// TestMemory: R3.
func TestMemory(t *testing.T) {
	for level := range 3 {
		p, q := sample.Prog(sample.New(10)), sample.Prog(sample.New(10))
		c, _, _ := compile.Tree(p, level)
		want, _, _ := compile.Tree(q, level)
		if !reflect.DeepEqual(p, q) {
			t.Error("R3: written into")
		}
		for i := range c.Arrays {
			c.Arrays[i].Size = 99
		}
		c.Lines[0].Label = "other"
		if again, _, _ := compile.Tree(p, level); !reflect.DeepEqual(p, q) || !asm.Same(again, want) {
			t.Error("R3: shared")
		}
	}
}
