package check_test

import (
	"reflect"
	"slices"
	"testing"

	"counterproof/api"
	"counterproof/check"
	"counterproof/parse"
	"counterproof/sample"
	"counterproof/tree"
)

// prog is the program of a text.
func prog(t *testing.T, s string) api.Prog {
	t.Helper()
	p, err, line := parse.Parse(s)
	if err != api.OK {
		t.Fatal(s, err, line)
	}
	return p
}

func TestPlace(t *testing.T) {
	p := prog(t, "int a[1]; int b[2]; int b[3]; int f() {} int g() {} int f() {}")
	for name, want := range map[string][2]int{"a": {-1, 0}, "b": {-1, 1}, "f": {0, -1}, "g": {1, -1}, "": {-1, -1}, "main": {-1, -1}} {
		if n, k := check.Place(p, name), check.Array(p, name); n != want[0] || k != want[1] {
			t.Error("C1:", name, n, k)
		}
	}
	if check.Place(api.Prog{}, "") != -1 || check.Array(api.Prog{}, "") != -1 {
		t.Error("C1: of nothing")
	}
	odd := api.Prog{Arrays: []api.Array{{Name: "", Size: -1}}, Funcs: []api.Func{{Name: "x"}, {Name: ""}}}
	if check.Place(odd, "") != 1 || check.Array(odd, "") != 0 {
		t.Error("C1: of names that may not be")
	}
}

func TestCheck(t *testing.T) {
	const ok = "int main() {} "
	for _, c := range []struct {
		text     string
		want     api.Errno
		at, stmt int
	}{
		{ok, api.OK, 0, 0},
		{"int a[1]; int b[1]; int f(int x, int y) { int z; x = y + z; a[x] = b[y]; f(x, f(y, z)); } " + ok, api.OK, 0, 0},
		{"int main() { int x; while (x) { break; if (x) { continue; } else { break; } } }", api.OK, 0, 0},
		{"int f(int x) { return f(x); } int g(int x) { return x; } " + ok, api.OK, 0, 0},
		// two of one name
		{"int a[1]; int a[1];", api.ErrTwice, 0, 0}, {"int f() {} int f() {}", api.ErrTwice, 0, 0}, {"int f[1]; int f() {} " + ok, api.ErrTwice, 0, 0}, {"int main() {} int main() {}", api.ErrTwice, 0, 0}, {"int main[1]; int main() {}", api.ErrTwice, 0, 0},
		// no main
		{"", api.ErrMain, 0, 0}, {"int f() { x = 1; }", api.ErrMain, 0, 0}, {"int main(int x) { y = 1; }", api.ErrMain, 0, 0}, {"int main[1];", api.ErrMain, 0, 0},
		// two of one name in a function, which comes ahead of its statements
		{ok + "int f(int x, int x) { y = 1; }", api.ErrTwice, 1, 0}, {ok + "int f(int x) { int x; }", api.ErrTwice, 1, 0}, {ok + "int f() { int x; int x; }", api.ErrTwice, 1, 0}, {"int a[1]; " + ok + "int f(int a) { }", api.ErrTwice, 1, 0}, {ok + "int f() { int main; }", api.ErrTwice, 1, 0}, {ok + "int f() { int f; }", api.ErrTwice, 1, 0}, {ok + "int g() { y = 1; } int f() { int f; }", api.ErrUnknown, 1, 0}, {ok + "int g(int f) {} int f() { y = 1; }", api.ErrTwice, 1, 0},
		// loops
		{"int main() { break; }", api.ErrLoop, 0, 0}, {"int main() { continue; }", api.ErrLoop, 0, 0}, {"int main() { while (1) { break; } continue; }", api.ErrLoop, 0, 2}, {"int main() { if (1) { print(1); break; } }", api.ErrLoop, 0, 2}, {"int main() { if (1) { while (1) { } } else { break; } }", api.ErrLoop, 0, 2}, {"int main() { while (1) { if (1) { } else { break; } } break; }", api.ErrLoop, 0, 3},
		// names that are not there
		{"int main() { x = 1; }", api.ErrUnknown, 0, 0}, {"int main() { print(x); }", api.ErrUnknown, 0, 0}, {"int a[1]; int main() { a = 1; }", api.ErrUnknown, 0, 0}, {"int a[1]; int main() { print(a); }", api.ErrUnknown, 0, 0}, {"int main() { main = 1; }", api.ErrUnknown, 0, 0}, {"int main() { print(main); }", api.ErrUnknown, 0, 0},
		{"int main() { int x; x[0] = 1; }", api.ErrUnknown, 0, 0}, {"int main() { main[0] = 1; }", api.ErrUnknown, 0, 0}, {"int main() { int x; print(x[0]); }", api.ErrUnknown, 0, 0}, {"int main() { print(main[0]); }", api.ErrUnknown, 0, 0}, {"int main() { int x; x(); }", api.ErrUnknown, 0, 0}, {"int a[1]; int main() { a(); }", api.ErrUnknown, 0, 0}, {"int main() { print(f()); }", api.ErrUnknown, 0, 0},
		{"int f(int x) { } int main() { print(x); }", api.ErrUnknown, 1, 0}, {"int main() { int x; } int f() { return x; }", api.ErrUnknown, 1, 0},
		// so many of Args
		{"int main() { main(1); }", api.ErrArity, 0, 0}, {"int f(int x) {} int main() { f(); }", api.ErrArity, 1, 0}, {"int f(int x) {} int main() { f(1, 2); }", api.ErrArity, 1, 0}, {"int f(int x) {} int main() { print(1); return f(f(1, 2)); }", api.ErrArity, 1, 1},
		// the first one in the order of the text
		{"int main() { x = main(1); }", api.ErrUnknown, 0, 0}, {"int main() { int x; x = main(1) + y; }", api.ErrArity, 0, 0}, {"int main() { int x; x = y + main(1); }", api.ErrUnknown, 0, 0}, {"int main() { main(1, y); }", api.ErrArity, 0, 0}, {"int f(int x) {} int main() { f(f(y)); f(); }", api.ErrUnknown, 1, 0}, {"int a[1]; int main() { a[main(1)] = y; }", api.ErrArity, 0, 0}, {"int a[1]; int main() { b[main(1)] = y; }", api.ErrUnknown, 0, 0}, {"int a[1]; int main() { print(a[y] + main(1)); }", api.ErrUnknown, 0, 0}, {"int main() { if (main(1)) { break; } }", api.ErrArity, 0, 0}, {"int main() { while (x) { x = 1; } }", api.ErrUnknown, 0, 0},
		// numbers of statements
		{"int main() { print(1); print(y); }", api.ErrUnknown, 0, 1}, {"int main() { if (1) { print(1); print(2); } else { print(3); while (1) { print(4); } } print(y); }", api.ErrUnknown, 0, 6}, {"int main() { if (1) { print(1); print(2); } else { print(3); print(y); } print(y); }", api.ErrUnknown, 0, 4}, {"int main() { print(1); } int f() { print(1); print(2); print(y); }", api.ErrUnknown, 1, 2},
	} {
		if err, at := check.Check(prog(t, c.text)); err != c.want || at != [2]int{c.at, c.stmt} {
			t.Error("C2:", c.text, "told", err, at, "not", c.want, c.at, c.stmt)
		}
	}
}

func TestWrong(t *testing.T) {
	main := api.Func{Name: "main"}
	deep := api.Stmt{Kind: api.StmtBreak}
	for range 60000 {
		deep = api.Stmt{Kind: api.StmtIf, Args: []api.Expr{{Kind: api.ExprRead}}, Then: []api.Stmt{deep}}
	}
	for i, p := range []api.Prog{
		{Arrays: []api.Array{{Name: "a"}}, Funcs: []api.Func{main}}, {Arrays: []api.Array{{Name: "if", Size: 1}}, Funcs: []api.Func{main}}, {Funcs: []api.Func{main, main, {Name: "2"}}}, {Funcs: []api.Func{{Name: "main", Body: []api.Stmt{{}}}}}, {Funcs: []api.Func{{Name: "main", Body: []api.Stmt{deep}}}},
	} {
		if err, at := check.Check(p); err != api.ErrArg || at != [2]int{} {
			t.Error("C2: not right", i, err, at)
		}
	}
}

// inOrder are a function's statements, in the order of their numbers.
func inOrder(list []api.Stmt) []*api.Stmt {
	var out []*api.Stmt
	for i := range list {
		out = append(append(append(out, &list[i]), inOrder(list[i].Then)...), inOrder(list[i].Else)...)
	}
	return out
}

// exprs are all expressions of a statement, in the order of the text.
func exprs(list []api.Expr) []*api.Expr {
	var out []*api.Expr
	for i := range list {
		out = append(append(out, &list[i]), exprs(list[i].Args)...)
	}
	return out
}

// spoil puts one wrong name into a statement, and tells the error of that.
func spoil(d *sample.Dice, s *api.Stmt) api.Errno {
	if (s.Kind == api.StmtSet || s.Kind == api.StmtStore) && d.Once(2) {
		s.Name = "nobody"
		return api.ErrUnknown
	}
	for _, e := range exprs(s.Args) {
		switch e.Kind {
		case api.ExprVar, api.ExprIndex:
			e.Name = "nobody"
			return api.ErrUnknown
		case api.ExprCall:
			if d.Once(2) {
				e.Name = "nobody"
				return api.ErrUnknown
			}
			if len(e.Args) < 6 {
				e.Args = append(e.Args, api.Expr{Kind: api.ExprNum})
				return api.ErrArity
			}
		}
	}
	return api.OK
}

// TestTheorem: C3.
func TestTheorem(t *testing.T) {
	d := sample.New(9)
	spoiled := 0
	for range 1500 {
		p := sample.Prog(d)
		if err, at := check.Check(p); err != api.OK || at != [2]int{} {
			s, _ := tree.Print(p)
			t.Fatal("C3: of what there is", s, err, at)
		}
		main := p.Funcs[check.Place(p, "main")]
		others := slices.DeleteFunc(slices.Clone(p.Funcs), func(f api.Func) bool { return f.Name == "main" })
		slices.Reverse(others)
		for _, funcs := range [][]api.Func{append([]api.Func{main}, others...), append(slices.Clone(others), main)} {
			if err, _ := check.Check(api.Prog{Arrays: p.Arrays, Funcs: funcs}); err != api.OK {
				t.Error("C3: functions in another order", err)
			}
		}
		f := d.Roll(len(p.Funcs))
		if all := inOrder(p.Funcs[f].Body); len(all) > 0 {
			k := d.Roll(len(all))
			want := spoil(d, all[k])
			if want == api.OK {
				continue
			}
			spoiled++
			if err, at := check.Check(p); err != want || at != [2]int{f, k} {
				t.Error("C3: one wrong name", err, at, "not", want, f, k)
			}
		}
	}
	if spoiled < 300 {
		t.Error("too few", spoiled)
	}
}

// TestMemory: R3.
func TestMemory(t *testing.T) {
	a, b := sample.Prog(sample.New(1)), sample.Prog(sample.New(1))
	check.Check(a)
	check.Place(a, "main")
	if !reflect.DeepEqual(a, b) {
		t.Error("R3: written into")
	}
}
