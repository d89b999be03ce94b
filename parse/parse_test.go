package parse_test

import (
	"maps"
	"reflect"
	"slices"
	"strings"
	"testing"

	"counterproof/api"
	"counterproof/arith"
	"counterproof/parse"
	"counterproof/sample"
	"counterproof/scan"
	"counterproof/tree"
)

func num(n int) api.Expr            { return api.Expr{Kind: api.ExprNum, N: n} }
func name(s string) api.Expr        { return api.Expr{Kind: api.ExprVar, Name: s} }
func list(e ...api.Expr) []api.Expr { return e }
func one(op int, e api.Expr) api.Expr {
	return api.Expr{Kind: api.ExprOne, Op: op, Args: list(e)}
}
func two(op int, a, b api.Expr) api.Expr {
	return api.Expr{Kind: api.ExprTwo, Op: op, Args: list(a, b)}
}
func call(s string, e ...api.Expr) api.Expr {
	return api.Expr{Kind: api.ExprCall, Name: s, Args: e}
}
func index(s string, e api.Expr) api.Expr {
	return api.Expr{Kind: api.ExprIndex, Name: s, Args: list(e)}
}
func stmt(kind int, s string, args ...api.Expr) api.Stmt {
	return api.Stmt{Kind: kind, Name: s, Args: args}
}

func printing(e api.Expr) api.Prog {
	return api.Prog{Funcs: []api.Func{{Name: "f", Body: []api.Stmt{stmt(api.StmtPrint, "", e)}}}}
}

func TestExpr(t *testing.T) {
	a, b, c, read := name("a"), name("b"), name("c"), api.Expr{Kind: api.ExprRead}
	for s, want := range map[string]api.Expr{
		"1": num(1), "'a'": num(97), " a // b": a, "read ( )": read, "((((a))))": a, "9223372036854775807": num(1<<63 - 1),
		"1 + 2 * 3": two(api.OpAdd, num(1), two(api.OpMul, num(2), num(3))), "1 * 2 + 3": two(api.OpAdd, two(api.OpMul, num(1), num(2)), num(3)), "a - b - c": two(api.OpSub, two(api.OpSub, a, b), c), "a - (b - c)": two(api.OpSub, a, two(api.OpSub, b, c)), "a - b + c": two(api.OpAdd, two(api.OpSub, a, b), c),
		"a < b < c": two(api.OpLt, two(api.OpLt, a, b), c), "a == b < c": two(api.OpEq, a, two(api.OpLt, b, c)), "a << b + c": two(api.OpShl, a, two(api.OpAdd, b, c)), "a | b ^ c & a": two(api.OpOr, a, two(api.OpXor, b, two(api.OpAnd, c, a))), "a & b | c": two(api.OpOr, two(api.OpAnd, a, b), c),
		"-a * b": two(api.OpMul, one(api.OpNeg, a), b), "-(a * b)": one(api.OpNeg, two(api.OpMul, a, b)), "--!~a": one(api.OpNeg, one(api.OpNeg, one(api.OpNot, one(api.OpInv, a)))), "a - -b": two(api.OpSub, a, one(api.OpNeg, b)), "a--b": two(api.OpSub, a, one(api.OpNeg, b)), "-f(a)": one(api.OpNeg, call("f", a)), "-5": one(api.OpNeg, num(5)),
		"f()": call("f"), "f(a, b + c, g())": call("f", a, two(api.OpAdd, b, c), call("g")), "v[v[a] + 1]": index("v", two(api.OpAdd, index("v", a), num(1))), "f((a))": call("f", a),
	} {
		e, err, line := parse.Expr(s)
		if err != api.OK || line != 0 || !tree.Same(printing(e), printing(want)) {
			t.Errorf("P1: %q: %v %v %v, not %v", s, e, err, line, want)
		}
	}
	for s, line := range map[string]int{"": 1, "\n": 2, "a b": 1, "1 +\n": 2, "(a": 1, "a)": 1, "read": 1, "read(\n1)": 2, "f(a,\n)": 2, "f(,": 1, "v[\n]": 2, "v[a\n)": 2, "a\n=\nb": 2, "()": 1, "+a": 1, "a!b": 1, "if": 1, "int": 1, "a;": 1, "1a": 1, "f(a\nb)": 2, "a\n[b] [c]": 2, "1(": 1} {
		if e, err, at := parse.Expr(s); err != api.ErrParse || at != line || e.Kind != 0 || len(e.Args) > 0 {
			t.Errorf("P1: %q: %v %v %v, not line %v", s, e, err, at, line)
		}
	}
}

func TestOperators(t *testing.T) {
	for p := api.OpAdd; p <= api.OpNe; p++ {
		for q := api.OpAdd; q <= api.OpNe; q++ {
			a, _ := arith.Sign(p)
			b, _ := arith.Sign(q)
			want := two(q, two(p, name("x"), name("y")), name("z"))
			if arith.Level(q) > arith.Level(p) {
				want = two(p, name("x"), two(q, name("y"), name("z")))
			}
			if e, err, _ := parse.Expr("x" + a + "y" + b + "z"); err != api.OK || !tree.Same(printing(e), printing(want)) {
				t.Error("P1: which binds first:", a, b)
			}
		}
	}
}

func TestProgram(t *testing.T) {
	x := name("x")
	got, err, line := parse.Parse(`int a[10]; int b['c'];
int f(int p, int q) { int r; int s; r = 1; a[p] = q; f(p, q); }
int main() {
	if (x) { } if (x) { break; } else { continue; }
	while (x) { if (x) { return x; } else { } }
	print(x); trap(x); f();
}`)
	want := api.Prog{
		Arrays: []api.Array{{Name: "a", Size: 10}, {Name: "b", Size: 99}},
		Funcs: []api.Func{
			{Name: "f", Params: []string{"p", "q"}, Locals: []string{"r", "s"}, Body: []api.Stmt{stmt(api.StmtSet, "r", num(1)), stmt(api.StmtStore, "a", name("p"), name("q")), stmt(api.StmtCall, "", call("f", name("p"), name("q")))}},
			{Name: "main", Body: []api.Stmt{
				{Kind: api.StmtIf, Args: list(x)}, {Kind: api.StmtIf, Args: list(x), Then: []api.Stmt{stmt(api.StmtBreak, "")}, Else: []api.Stmt{stmt(api.StmtContinue, "")}},
				{Kind: api.StmtWhile, Args: list(x), Then: []api.Stmt{{Kind: api.StmtIf, Args: list(x), Then: []api.Stmt{stmt(api.StmtReturn, "", x)}}}},
				stmt(api.StmtPrint, "", x), stmt(api.StmtTrap, "", x), stmt(api.StmtCall, "", call("f"))}},
		},
	}
	if err != api.OK || line != 0 || !tree.Same(got, want) {
		t.Error("P1: told", got, err, line)
	}
	if got, err, line := parse.Parse(" // nothing"); err != api.OK || line != 0 || !tree.Same(got, api.Prog{}) {
		t.Error("P1: of nothing", got, err, line)
	}
}

// told asks for an error and its line.
func told(t *testing.T, s string, want api.Errno, at int) {
	t.Helper()
	p, err, line := parse.Parse(s)
	if err != want || line != at || want != api.OK && (len(p.Arrays) > 0 || len(p.Funcs) > 0) {
		if len(s) > 200 {
			s = s[:200]
		}
		t.Errorf("P1: %q: %v %v, not %v %v", s, err, line, want, at)
	}
}

func TestErrors(t *testing.T) {
	told(t, "int main() {", api.ErrParse, 1)
	told(t, "\nint main() {\n@", api.ErrLex, 3)
	told(t, "}\n@", api.ErrLex, 2)
	told(t, strings.Repeat("}", 20001), api.ErrArg, 0)
	told(t, strings.Repeat("}", 20000), api.ErrParse, 1)
	told(t, "int f() {}\nint a\n[1];", api.ErrParse, 3)
	told(t, "int a[x];", api.ErrParse, 1)
	told(t, "int a[1]\n", api.ErrParse, 2)
	told(t, "int f() { x = 1;\nint y; }", api.ErrParse, 2)
	told(t, "int f() { { } }", api.ErrParse, 1)
	told(t, "int f() { read(); }", api.ErrParse, 1)
	told(t, "int f() { 1; }", api.ErrParse, 1)
	told(t, "int f() { x; }", api.ErrParse, 1)
	told(t, "int f() { x == 1; }", api.ErrParse, 1)
	told(t, "int f() { if (1) return 1; }", api.ErrParse, 1)
	told(t, "int f() { else {} }", api.ErrParse, 1)
	told(t, "int f() { if (1) {} else\nif (1) {} }", api.ErrParse, 2)
	told(t, "int f() { return; }", api.ErrParse, 1)
	told(t, "int f() { while () {} }", api.ErrParse, 1)
	told(t, "int f(x) {}", api.ErrParse, 1)
	told(t, "int f(int x,) {}", api.ErrParse, 1)
	told(t, "int f() {};", api.ErrParse, 1)
	told(t, "int if() {}", api.ErrParse, 1)
	told(t, "x", api.ErrParse, 1)
	told(t, "\n\nint", api.ErrParse, 3)
	told(t, "int a[0];", api.ErrLimit, 1)
	told(t, "\nint a[1048577];", api.ErrLimit, 1)
	told(t, "int a[1048576];", api.OK, 0)
	told(t, "int f(int a, int b, int c, int d, int e, int f) {}", api.OK, 0)
	told(t, "\nint f(int a, int b, int c, int d, int e, int f, int g) {}", api.ErrLimit, 1)
	told(t, "\nint f(int a, int b, int c, int d, int e, int f, int g) {}\n}", api.ErrParse, 3)
	told(t, "int f() { g(1, 2, 3, 4, 5, 6); }", api.OK, 0)
	told(t, "int f() { g(1, 2, 3, 4, 5, 6, 7); }", api.ErrLimit, 1)
}

// TestDeep: what is deep is told by the tree, not by the text.
func TestDeep(t *testing.T) {
	sum := func(n int) string { return "1" + strings.Repeat("+1", n) }
	minus := func(n int) string { return strings.Repeat("-", n) + "1" }
	braces := func(n int) string {
		return "int f() {" + strings.Repeat("while (1) {", n) + "break;" + strings.Repeat("}", n) + "}"
	}
	parens := func(n int) string { return strings.Repeat("(", n) + "1" + strings.Repeat(")", n) }
	for s, deep := range map[string]bool{sum(39): false, sum(40): true, sum(9000): true, minus(39): false, minus(40): true, minus(19000): true, parens(9000): false} {
		want, line := api.OK, 0
		if deep {
			want, line = api.ErrLimit, 1
		}
		if e, err, at := parse.Expr(s); err != want || at != line || err != api.OK && (e.Kind != 0 || len(e.Args) > 0) {
			t.Error("P1: Expr", s[:20], err, at)
		}
		if _, err, at := parse.Expr("\n" + s + "+"); err != api.ErrParse || at != 2 {
			t.Error("P1: Expr of a deep one that is none", s[:20], err, at)
		}
		told(t, "int f() { print(\n"+s+"); }", want, line)
		told(t, "int f() { print(\n"+s+"; }", api.ErrParse, 2)
	}
	told(t, braces(39), api.OK, 0)
	told(t, braces(40), api.ErrLimit, 1)
	told(t, braces(1500), api.ErrLimit, 1)
	told(t, "\n"+braces(1500)+"\n}", api.ErrParse, 3)
}

// rules is the document's form of programs; a sequence ends where the first of its words that can't stand stands.
var rules = map[string][]string{
	"prog": {"end", "int NAME decl"}, "decl": {"[ NUMBER ] ; prog", "fn funcs"}, "funcs": {"end", "int NAME fn funcs"},
	"fn": {"( params ) { locals"}, "params": {"", "int NAME params2"}, "params2": {"", ", int NAME params2"}, "locals": {"int NAME ; locals", "stmts"}, "stmts": {"}", "stmt stmts"},
	"stmt": {"NAME = expr ;", "NAME [ expr ] = expr ;", "call ;", "if ( expr ) block other", "while ( expr ) block", "break ;", "continue ;", "return expr ;", "print ( expr ) ;", "trap ( expr ) ;"}, "other": {"", "else block"}, "block": {"{ stmts"},
	"expr": {"tight rest"}, "rest": {"", "SIGN tight rest"}, "tight": {"- tight", "! tight", "~ tight", "NUMBER", "NAME", "call", "NAME [ expr ]", "read ( )", "( expr )"}, "call": {"NAME ( args"}, "args": {")", "expr args2"}, "args2": {")", ", expr args2"},
}

var binary = strings.Fields("| ^ & + - * / % < > == != <= >= << >>")

func fits(symbol string, tok api.Token) bool {
	switch symbol {
	case "NAME":
		return tok.Kind == api.TokName
	case "NUMBER":
		return tok.Kind == api.TokNumber
	case "SIGN":
		return tok.Kind == api.TokSign && slices.Contains(binary, tok.Text)
	case "end":
		return tok.Kind == api.TokEnd
	}
	return (tok.Kind == api.TokWord || tok.Kind == api.TokSign) && tok.Text == symbol
}

// step is all that may still come behind a token, if what is in states may come ahead of it.
func step(states map[string]int, tok api.Token) map[string]int {
	out := map[string]int{}
	for work := slices.Collect(maps.Keys(states)); len(work) > 0; {
		top, below, _ := strings.Cut(work[len(work)-1], " ")
		work = work[:len(work)-1]
		if alternatives, ok := rules[top]; ok {
			for _, a := range alternatives {
				if s := strings.TrimSpace(a + " " + below); s != "" {
					work = append(work, s)
				}
			}
		} else if fits(top, tok) {
			out[below] = 1
		}
	}
	return out
}

// stuck is the place of the first token that can't stand where it does; below 0: there is none.
func stuck(tokens []api.Token) int {
	states := map[string]int{"prog": 1}
	for i, tok := range tokens {
		if states = step(states, tok); len(states) == 0 {
			return i
		}
	}
	return -1
}

// TestStuck: tokens that are put in, taken out and changed anywhere.
func TestStuck(t *testing.T) {
	d := sample.New(7)
	pool := strings.Fields("x y 1 'a' int if else while break continue return print read trap ( ) { } [ ] , ; = | + - ! ~ < == !=")
	odd := 0
	for range 3000 {
		s, _ := tree.Print(sample.Prog(d))
		if len(s) > 700 {
			continue
		}
		tokens, _, _ := scan.Scan(s)
		var texts []string
		for _, tok := range tokens[:len(tokens)-1] {
			texts = append(texts, tok.Text)
		}
		for range d.Roll(3) {
			switch k := d.Roll(len(texts)); d.Roll(4) {
			case 0:
				texts = slices.Delete(texts, k, k+1)
			case 1:
				texts = slices.Insert(texts, k, sample.Pick(d, pool))
			case 2:
				texts[k] = sample.Pick(d, pool)
			case 3:
				texts = texts[:k+1]
			}
		}
		s = strings.Join(texts, "\n")
		tokens, _, _ = scan.Scan(s)
		if at := stuck(tokens); at >= 0 {
			told(t, s, api.ErrParse, tokens[at].Line)
			odd++
		} else if _, err, _ := parse.Parse(s); err != api.OK && err != api.ErrLimit {
			t.Errorf("P1: %q: %v", s, err)
		}
	}
	if odd < 500 {
		t.Error("too few that are odd", odd)
	}
}

// TestTheorem: P2.
func TestTheorem(t *testing.T) {
	d := sample.New(8)
	for range 3000 {
		e := sample.Expr(d, 1+d.Roll(6))
		s, _ := tree.PrintExpr(e)
		if got, err, _ := parse.Expr(s); len(s) <= api.MaxText && (err != api.OK || !tree.Same(printing(got), printing(e))) {
			t.Fatal("P2: an expression", s, got, err)
		}
	}
	fine := 0
	for range 600 {
		p := sample.Prog(d)
		s, _ := tree.Print(p)
		if len(s) > 6000 {
			continue
		}
		fine++
		got, err, line := parse.Parse(s)
		if err != api.OK || line != 0 || !tree.Same(got, p) {
			t.Fatal("P2: a program", s, err, line)
		}
		if again, _ := tree.Print(got); again != s {
			t.Fatal("P2: another text", s, again)
		}
		tokens, _, _ := scan.Scan(s)
		spread := ""
		for _, tok := range tokens {
			spread += sample.Pick(d, []string{" ", "\t\r", "\n\n", " // é { int\n"}) + tok.Text
		}
		if got, err, _ := parse.Parse(spread); err != api.OK || !tree.Same(got, p) {
			t.Fatal("P2: blanks and comments", spread, err)
		}
	}
	if fine < 300 {
		t.Error("too few", fine)
	}
}

// TestMemory: R3: what comes out is new memory.
func TestMemory(t *testing.T) {
	const s = "int a[3]; int f(int p, int q) { int r; g(1, 2 + 3); if (1) { print(1); } } int h() { }"
	a, _, _ := parse.Parse(s)
	b, _, _ := parse.Parse(s)
	_ = append(a.Funcs[0].Params, "other")
	_ = append(a.Funcs[0].Body[0].Args[0].Args[:1], num(9))
	a.Funcs[0].Locals[0] = "other"
	c, _, _ := parse.Parse(s)
	if !reflect.DeepEqual(b, c) || !tree.Same(b, c) || tree.Same(a, b) {
		t.Error("R3: what came out was changed")
	}
}
