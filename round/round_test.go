package round_test

import (
	"reflect"
	"slices"
	"strings"
	"testing"

	"counterproof/api"
	"counterproof/asm"
	"counterproof/compile"
	"counterproof/eval"
	"counterproof/lift"
	"counterproof/mach"
	"counterproof/parse"
	"counterproof/round"
	"counterproof/sample"
	"counterproof/tree"
)

// code is the code of a text whose lines are parted by semicolons.
func code(t *testing.T, s string) api.Code {
	t.Helper()
	c, err, line := asm.Parse(strings.ReplaceAll(s, ";", "\n"))
	if err != api.OK {
		t.Fatal(s, err, line)
	}
	return c
}

// follows tells whether b does what a does: it ends so, if a is at its end, and else it told at least as much.
func follows(a, b api.Run) bool {
	if a.Status != api.StatGoing {
		return a.Status == b.Status && a.Code == b.Code && slices.Equal(a.Out, b.Out)
	}
	return len(a.Out) <= len(b.Out) && slices.Equal(a.Out, b.Out[:len(a.Out)])
}

// agree asks for R4, of so many steps, either way; but no run is longer than two million steps, which is far more than what is run here needs.
func agree(t *testing.T, c, again api.Code, in []int, n int) {
	t.Helper()
	p, _ := lift.Lift(c)
	text, _ := asm.Print(c)
	if a, b := lift.Seen(mach.Run(c, in, n)), mach.Run(again, in, min(100000*n+200000, 2000000)); !follows(a, b) || b.Status == api.StatFault {
		t.Fatal("R4: of the code's steps", n, text, in, a, b)
	}
	if a, b := mach.Run(again, in, n), lift.Seen(mach.Run(c, in, min((9*n+500)*(1+tree.Size(p)), 2000000))); !follows(a, b) || a.Status == api.StatFault {
		t.Fatal("R4: of the other code's steps", n, text, in, a, b)
	}
}

func TestErrors(t *testing.T) {
	ret := api.Line{In: api.Instr{Op: api.InRet}}
	for i, c := range []struct {
		code  api.Code
		level int
		want  api.Errno
	}{
		{api.Code{Lines: []api.Line{{}}}, 1, api.ErrArg}, {api.Code{Lines: []api.Line{ret}}, -1, api.ErrArg}, {api.Code{Lines: []api.Line{ret}}, 3, api.ErrArg}, {api.Code{Lines: slices.Repeat([]api.Line{ret}, 20001)}, 1, api.ErrLimit}, {api.Code{Lines: slices.Repeat([]api.Line{ret}, 20001)}, 7, api.ErrLimit}, {api.Code{Arrays: []api.Array{{Name: "a", Size: 1 << 20}}}, 1, api.ErrLimit}, {api.Code{}, 2, api.OK}, {api.Code{Lines: slices.Repeat([]api.Line{ret}, 20000)}, 1, api.ErrLimit},
	} {
		if got, err := round.Again(c.code, c.level); err != c.want || err != api.OK && len(got.Lines)+len(got.Arrays) > 0 {
			t.Error("R1:", i, err, c.want)
		}
	}
	long := "int main() {" + strings.Repeat("print(1);", 2000) + "}"
	for _, c := range []struct {
		text  string
		level int
		want  api.Errno
		line  int
	}{
		{"int main() {", 1, api.ErrParse, 1}, {"\n@", 1, api.ErrLex, 2}, {"int main() { x = 1; }", 0, api.ErrUnknown, 2}, {"int main() {}", 3, api.ErrArg, 1}, {strings.Repeat(" ", 20001), 1, api.ErrArg, 0}, {"int a[1048576]; int main() { a[0] = 1; }", 1, api.ErrLimit, 1}, {"int a[1048576]; int main() { x = 1; }", 1, api.ErrUnknown, 3}, {long, 0, api.ErrLimit, 1},
	} {
		a, p, b, err, line := round.Trip(c.text, c.level)
		if err != c.want || line != c.line || len(a.Lines)+len(a.Arrays)+len(b.Lines)+len(b.Arrays)+len(p.Arrays)+len(p.Funcs) > 0 {
			t.Errorf("R2: %.50q told %v %v, not %v %v", c.text, err, line, c.want, c.line)
		}
	}
}

// texts are the document's examples of the whole, and more.
var texts = []string{"int main() { print(6 * 7); }", "int main() { return 1 / read(); }", "int a[2]; int main() { a[2] = 1; }", "int f(int n) { return f(n); } int main() { f(1); }", "int main() { trap(7); }", "int main() { return 3; }", "int main() {}", "int main() { while (1) { print(read()); } }", "int a[9]; int f(int i) { a[i] = i * i; return a[i] - 1; } int main() { int i; while (i < 9) { print(f(i) + a[i]); i = i + 1; } return a[3]; }", "int f(int n) { if (n < 2) { return n; } return f(n - 1) + f(n - 2); } int main() { print(f(6)); }"}

func TestTrip(t *testing.T) {
	for _, s := range texts {
		for level := range 3 {
			a, p, b, err, line := round.Trip(s, level)
			if err != api.OK || line != 0 {
				t.Fatal("R2:", s, level, err, line)
			}
			c, _, _ := compile.Compile(s, level)
			q, _ := lift.Lift(c)
			again, _ := round.Again(c, level)
			want, _, _ := compile.Tree(q, level)
			if !asm.Same(a, c) || !tree.Same(p, q) || !asm.Same(b, again) || !asm.Same(again, want) {
				t.Error("R1, R2:", s, level)
			}
			for _, in := range [][]int{nil, {0}, {2, 3}} {
				for _, n := range []int{0, 1, 5, 20, 60, 200} {
					agree(t, a, b, in, n)
				}
				if !round.Agree(a, b, in, 3000) || !round.Agree(a, b, in, 50) || !round.Agree(b, a, in, 1) {
					t.Error("R3: of a trip", s, level, in)
				}
			}
		}
	}
}

func TestAgree(t *testing.T) {
	codes := map[string]api.Code{
		"bad": {Lines: []api.Line{{}}}, "fault": code(t, "ret"), "trap": code(t, "li x17, 5; li x10, 1099511627776; ecall"), "other trap": code(t, "li x17, 5; li x10, 1; ecall"), "done": code(t, "li x17, 3; ecall"), "done 1": code(t, "li x17, 3; li x10, 1; ecall"), "div": code(t, "li x17, 4; li x10, 2; ecall"),
		"ones": code(t, "li x10, 1; li x17, 1; a: ;ecall; j a"), "twos": code(t, "li x10, 2; li x17, 1; a: ;ecall; j a"), "one, done": code(t, "li x10, 1; li x17, 1; ecall; li x17, 3; ecall"), "ones, done": code(t, "li x10, 1; li x17, 1; ecall; ecall; li x17, 3; ecall"), "one, going": code(t, "li x10, 1; li x17, 1; ecall; a: ;j a"), "two, done": code(t, "li x10, 2; li x17, 1; ecall; li x10, 1; li x17, 3; ecall"), "going": code(t, "a: ;j a"), "reads": code(t, "li x17, 2; ecall; li x17, 1; ecall; a: ;j a"),
	}
	yes := []string{"fault trap", "bad fault", "bad ones", "bad going", "ones one,_going", "ones going", "going done", "going fault", "one,_going one,_done", "one,_going ones,_done", "going ones,_done", "going two,_done", "ones reads", "one,_going reads", "going reads", "one,_done reads", "ones,_done reads", "bad reads", "bad done", "bad trap", "going trap", "going div", "bad div", "going other_trap", "bad other_trap", "going done_1", "bad done_1", "bad one,_done", "bad ones,_done", "bad two,_done", "bad twos", "going twos", "bad one,_going", "going one,_going", "going one,_done"}
	for x, a := range codes {
		for y, b := range codes {
			want := x == y || slices.Contains(yes, strings.ReplaceAll(x, " ", "_")+" "+strings.ReplaceAll(y, " ", "_")) || slices.Contains(yes, strings.ReplaceAll(y, " ", "_")+" "+strings.ReplaceAll(x, " ", "_"))
			if round.Agree(a, b, []int{1}, 50) != want {
				t.Error("R3:", x, "and", y, "not", want)
			}
			if !round.Agree(a, b, []int{1}, 0) || !round.Agree(a, b, nil, -5) {
				t.Error("R3: in no steps", x, y)
			}
		}
	}
	if round.Agree(codes["ones"], codes["reads"], []int{2}, 50) || round.Agree(codes["reads"], codes["ones"], nil, 50) {
		t.Error("R3: what is read")
	}
	if !round.Agree(codes["one, done"], codes["two, done"], nil, 2) || round.Agree(codes["one, done"], codes["two, done"], nil, 3) {
		t.Error("R3: so many steps")
	}
}

// TestTheorem: R4 and R5 of code made by chance.
func TestTheorem(t *testing.T) {
	d := sample.New(37)
	var ended [7]int
	small := 0
	for range 250 {
		c, in := sample.Code(d, 20), d.Numbers(4)
		if list, _ := asm.Flat(c); len(list) > 40 {
			continue
		}
		small++
		for level := range 3 {
			again, err := round.Again(c, level)
			if err != api.OK {
				s, _ := asm.Print(c)
				t.Fatal("R5: compiled again", s, level, err)
			}
			if err, _ := asm.Check(again); err != api.OK {
				t.Fatal("R5:", err)
			}
			p, err := lift.Lift(again)
			if err != api.OK {
				t.Fatal("R5: lifted again", level, err)
			}
			for range 2 {
				agree(t, c, again, in, d.Roll(60))
			}
			agree(t, c, again, in, 100)
			if a, b := mach.Run(again, in, 300), eval.Run(p, in, 250*300+500); !follows(a, b) {
				t.Fatal("P3: of what comes of that", a, b)
			}
			if other, _ := round.Again(c, level); !asm.Same(again, other) {
				t.Fatal("R4: other code")
			}
		}
		ended[mach.Run(c, in, 100).Status]++
	}
	for status, n := range ended {
		if n < 1 {
			t.Error("too few runs that end with status", status, ended)
		}
	}
	if small < 100 {
		t.Error("too few", small)
	}
}

// TestSmall: R5 of code of 40 instructions of each kind, with all registers, and arrays of 1000 words.
func TestSmall(t *testing.T) {
	for op := api.InAdd; op <= api.InCall; op++ {
		c := api.Code{Arrays: []api.Array{{Name: "q", Size: 999}, {Name: "r", Size: 1}}, Lines: []api.Line{{Label: "q"}}}
		for i := range 40 {
			in := api.Instr{Op: op, D: i % 32, A: (i + 7) % 32, B: (i + 13) % 32, N: 2047 - i, Name: "q"}
			switch {
			case op >= api.InRet:
				in = api.Instr{Op: op}
			case op == api.InJ || op == api.InJal:
				in = api.Instr{Op: op, Name: "q"}
			case op >= api.InBeq:
				in.D, in.N = 0, 0
			case op == api.InSd:
				in.D, in.Name = 0, ""
			case op == api.InLd || op == api.InAddi:
				in.B, in.Name = 0, ""
			case op == api.InLa:
				in.A, in.B, in.N = 0, 0, 0
			case op == api.InLi:
				in.A, in.B, in.Name = 0, 0, ""
			case op >= api.InSeqz:
				in.B, in.N, in.Name = 0, 0, ""
			default:
				in.N, in.Name = 0, ""
			}
			c.Lines = append(c.Lines, api.Line{In: in})
		}
		if err, at := asm.Check(c); err != api.OK {
			t.Fatal(op, err, at)
		}
		for level := range 3 {
			again, err := round.Again(c, level)
			if err != api.OK {
				t.Fatal("R5: compiled again", op, level, err)
			}
			if _, err := lift.Lift(again); err != api.OK {
				t.Fatal("R5: lifted again", op, level, err)
			}
			agree(t, c, again, []int{1, 2}, 45)
		}
	}
}

// TestExamples: the document's ten examples of the whole.
func TestExamples(t *testing.T) {
	told := func(what string, r, want api.Run) {
		t.Helper()
		if r.Status != want.Status || r.Code != want.Code || !slices.Equal(r.Out, want.Out) {
			t.Error(what, "told", r, "not", want)
		}
	}
	for s, want := range map[string]api.Run{"int main() { print(6 * 7); }": {Status: api.StatDone, Out: []int{42}}, "int main() { return 1 / read(); }": {Status: api.StatDiv}, "int a[2]; int main() { a[2] = 1; }": {Status: api.StatBounds}, "int f(int n) { return f(n); } int main() { f(1); }": {Status: api.StatDepth}, "int main() { trap(7); }": {Status: api.StatTrap, Code: 7}} {
		tree, _, _ := parse.Parse(s)
		told(s, eval.Run(tree, []int{0}, 100000), want)
		for level := range 3 {
			a, p, b, err, _ := round.Trip(s, level)
			if err != api.OK {
				t.Fatal(s, err)
			}
			told(s, mach.Run(a, []int{0}, 100000), want)
			told(s, eval.Run(p, []int{0}, 100000), want)
			told(s, mach.Run(b, []int{0}, 1000000), want)
		}
	}
	for _, s := range []string{"ret", "ld x0, 0(x0)"} {
		c := code(t, s)
		told(s, mach.Run(c, nil, 99), api.Run{Status: api.StatFault})
		p, _ := lift.Lift(c)
		told(s, eval.Run(p, nil, 999), api.Run{Status: api.StatTrap, Code: 1 << 40})
		for level := range 3 {
			again, _ := round.Again(c, level)
			told(s, mach.Run(again, nil, 9999), api.Run{Status: api.StatTrap, Code: 1 << 40})
		}
	}
	if _, err, line := compile.Compile("int main() { x = 1; }", 1); err != api.ErrUnknown || line != 2 {
		t.Error("example 9", err, line)
	}
	if _, err, line := compile.Compile("int main() {", 1); err != api.ErrParse || line != 1 {
		t.Error("example 10", err, line)
	}
}

// TestBytes: P5: whatever bytes are handed in.
func TestBytes(t *testing.T) {
	d := sample.New(38)
	pieces := strings.Fields("int main() f() ( ) { } ; a [ ] = 1 0 + / x while if else return break print( trap( read() 'é' '\xff' // ret ecall li x17, j a: .array @")
	known := []api.Errno{api.ErrArg, api.ErrLex, api.ErrParse, api.ErrLimit, api.ErrTwice, api.ErrUnknown, api.ErrArity, api.ErrLoop, api.ErrMain}
	fine := 0
	for range 3000 {
		s := ""
		if d.Once(2) {
			s = "int main() {"
		}
		for range d.Roll(12) {
			s += sample.Pick(d, pieces) + sample.Pick(d, []string{" ", "\n", "", "\xff"}[:2+d.Roll(40)/38])
		}
		s += sample.Pick(d, []string{"", "}", ";}"})
		level := d.Roll(3)
		a, p, b, err, line := round.Trip(s, level)
		a2, p2, b2, err2, line2 := round.Trip(s, level)
		if err != err2 || line != line2 || !asm.Same(a, a2) || !asm.Same(b, b2) || !tree.Same(p, p2) {
			t.Fatalf("P5: %q is told otherwise", s)
		}
		if err == api.OK {
			fine++
		} else if !slices.Contains(known, err) || line < 1 {
			t.Errorf("P5: %q told %v %v", s, err, line)
		}
		if c, err, line := asm.Parse(s); err != api.OK && (err != api.ErrAsm && err != api.ErrLabel || line < 1) || err == api.OK && !round.Agree(c, c, nil, 99) {
			t.Errorf("P5: %q told %v %v", s, err, line)
		}
	}
	if fine < 30 {
		t.Error("too few that are compiled", fine)
	}
}

// TestMemory: R3.
func TestMemory(t *testing.T) {
	a, b := sample.Code(sample.New(12), 9), sample.Code(sample.New(12), 9)
	x, _ := round.Again(a, 2)
	in := []int{1, 2}
	round.Agree(a, x, in[:1], 50)
	if !reflect.DeepEqual(a, b) || in[1] != 2 {
		t.Error("R3: written into")
	}
	x.Lines[0].Label = "other"
	_ = append(x.Arrays, api.Array{})
	y, _ := round.Again(a, 2)
	z, _ := round.Again(b, 2)
	if !asm.Same(y, z) || asm.Same(x, y) {
		t.Error("R3: shared")
	}
}
