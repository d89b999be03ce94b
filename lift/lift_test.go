package lift_test

import (
	"fmt"
	"reflect"
	"slices"
	"strings"
	"testing"

	"counterproof/api"
	"counterproof/asm"
	"counterproof/check"
	"counterproof/compile"
	"counterproof/eval"
	"counterproof/lift"
	"counterproof/mach"
	"counterproof/sample"
	"counterproof/tree"
)

// code is the code of a text whose lines are parted by semicolons.
func code(t *testing.T, s string) api.Code {
	t.Helper()
	c, err, line := asm.Parse(strings.ReplaceAll(s, ";", "\n"))
	if err != api.OK {
		t.Fatal(s, err, line)
	}
	return c
}

// follows tells whether b does what a does: it ends so, if a is at its end, and else it told at least as much.
func follows(a, b api.Run) bool {
	if a.Status != api.StatGoing {
		return a.Status == b.Status && a.Code == b.Code && slices.Equal(a.Out, b.Out)
	}
	return len(a.Out) <= len(b.Out) && slices.Equal(a.Out, b.Out[:len(a.Out)])
}

// lifted is the program of code, which must be as V2 says.
func lifted(t *testing.T, c api.Code) api.Prog {
	t.Helper()
	p, err := lift.Lift(c)
	if err != api.OK {
		t.Fatal("V2:", err)
	}
	if err, at := check.Check(p); err != api.OK {
		t.Fatal("V2: a program with an error", err, at)
	}
	words := api.StackWords
	for _, a := range c.Arrays {
		words += a.Size
	}
	if len(p.Arrays) != 1 || p.Arrays[0].Size != words {
		t.Fatal("V2: arrays", p.Arrays)
	}
	for _, f := range p.Funcs {
		if len(f.Params)+len(f.Locals) > 60 {
			t.Fatal("V2: names of variables", f.Name)
		}
	}
	return p
}

// agree asks for V3, of so many steps, either way.
func agree(t *testing.T, c api.Code, p api.Prog, in []int, n int) {
	t.Helper()
	if a, b := lift.Seen(mach.Run(c, in, n)), eval.Run(p, in, 250*n+500); !follows(a, b) {
		s, _ := asm.Print(c)
		t.Fatal("V3: of the code's steps", n, s, in, a, b)
	}
	if a, b := eval.Run(p, in, n), lift.Seen(mach.Run(c, in, n+10)); !follows(a, b) {
		s, _ := asm.Print(c)
		t.Fatal("V3: of the program's steps", n, s, in, a, b)
	}
}

func TestSeen(t *testing.T) {
	for status := api.StatGoing; status <= api.StatTrap; status++ {
		r := api.Run{Status: status, Code: 5, Out: []int{1, 2}, Steps: 9}
		got := lift.Seen(r)
		if !reflect.DeepEqual(got, r) {
			t.Error("V1:", status, got)
		}
		got.Out[0] = 77
		_ = append(got.Out, 99)
		if r.Out[0] != 1 {
			t.Error("R3: what was handed in")
		}
	}
	got := lift.Seen(api.Run{Status: api.StatFault, Code: 0, Out: []int{3}, Steps: 4})
	if !reflect.DeepEqual(got, api.Run{Status: api.StatTrap, Code: 1 << 40, Out: []int{3}, Steps: 4}) {
		t.Error("V1: a fault", got)
	}
}

func TestErrors(t *testing.T) {
	ret := api.Line{In: api.Instr{Op: api.InRet}}
	array := func(sizes ...int) api.Code {
		var c api.Code
		for i, n := range sizes {
			c.Arrays = append(c.Arrays, api.Array{Name: fmt.Sprint("a", i), Size: n})
		}
		return c
	}
	for i, c := range []struct {
		code api.Code
		want api.Errno
	}{
		{api.Code{Lines: []api.Line{{}}}, api.ErrArg}, {api.Code{Lines: slices.Repeat([]api.Line{ret}, 40001)}, api.ErrArg}, {api.Code{Lines: slices.Repeat([]api.Line{ret}, 20001)}, api.ErrLimit}, {api.Code{Lines: slices.Repeat([]api.Line{ret}, 20000)}, api.OK}, {api.Code{Lines: append(slices.Repeat([]api.Line{ret}, 20001), api.Line{})}, api.ErrArg},
		{array(1<<20 - 4096), api.OK}, {array(1<<20 - 4095), api.ErrLimit}, {array(1<<19, 1<<19-4096), api.OK}, {array(1<<19, 1<<19-4096, 1), api.ErrLimit}, {array(0), api.ErrArg}, {array(1<<20, 1<<20), api.ErrLimit},
	} {
		p, err := lift.Lift(c.code)
		if err != c.want || err != api.OK && len(p.Arrays)+len(p.Funcs) > 0 {
			t.Error("V2:", i, err, c.want)
		}
		if err == api.OK {
			lifted(t, c.code)
		}
	}
	var labels api.Code
	for i := range 39999 {
		labels.Lines = append(labels.Lines, api.Line{Label: fmt.Sprint("l", i)})
	}
	agree(t, labels, lifted(t, labels), nil, 9)
}

// texts are codes of all kinds of ends, and of all kinds of what is not behaved.
var texts = []string{
	"li x17, 3; li x10, 7; ecall", "", "a:", "ret", "ld x0, 0(x0)", "sd x0, 0(x0)", "ecall", "li x5, 1", "j a; a:", "jal a; a:", "a: ;j a", "a: ;jal a", "li x0, 5; li x0, 6; li x0, 7; li x0, 8; mv x0, x0; add x0, x1, x2; li x17, 3; mv x10, x0; ecall",
	"li x17, 6; ecall", "li x17, 0; ecall", "li x17, -1; ecall", "li x17, 5; li x10, -4; ecall", "li x17, 5; li x10, 1099511627776; ecall", "li x17, 4; li x10, 2; ecall", "li x17, 4; li x10, 3; ecall", "li x17, 4; li x10, 4; ecall", "li x17, 4; li x10, 5; ecall", "li x17, 4; ecall", "li x17, 4; li x10, 1; ecall", "li x17, 4; li x10, 6; ecall",
	// an ecall of which nothing is known
	"li x17, 2; ecall; mv x17, x10; li x10, 4; ecall; li x17, 1; ecall; li x17, 3; ecall", "li x17, 2; ecall; mv x17, x10; j a; a: ;li x10, 2; ecall; li x17, 3; ecall", "li x17, 1; j a; a: ;li x10, 5; ecall; addi x17, x17, 1; ecall; addi x17, x17, 1; ecall", "li x17, 2; ecall; mv x5, x10; ecall; mv x17, x5; ecall; ecall; ecall", "li x17, 1; add x17, x17, x17; ecall; li x17, 1; ecall; addi x17, x17, 2; ecall", "li x17, 1; ld x17, -8(x2); ecall", "li x17, 1; la x17, q; ecall",
	// memory
	"li x5, 9; sd x5, -8(x2); ld x6, -8(x2); mv x10, x6; li x17, 1; ecall; ld x10, -16(x2); ecall; ld x10, 0(x2); ecall; li x17, 3; li x10, 9; ecall", "li x5, 32768; sub x5, x2, x5; sd x5, 0(x5); ld x10, 0(x5); li x17, 1; ecall; ld x10, -8(x5); li x17, 3; li x10, 9; ecall", "ld x5, -4(x2); li x17, 3; li x10, 9; ecall", "ld x5, 4(x0); li x17, 3; li x10, 9; ecall", "li x5, 65536; ld x5, 0(x5); li x17, 3; li x10, 9; ecall", "la x5, q; li x6, 4; sd x6, 8(x5); sd x5, 0(x5); ld x10, 8(x5); li x17, 1; ecall; ld x10, 0(x5); ecall; ld x10, 16(x5); ecall; li x17, 3; li x10, 9; ecall", "la x5, q; ld x5, -8(x5); li x17, 3; li x10, 9; ecall", "la x5, q; ld x5, 1(x5); li x17, 3; li x10, 9; ecall", "la x5, r; li x6, 7; sd x6, 0(x5); la x5, q; ld x10, 16(x5); li x17, 1; ecall; ld x10, 24(x5); ecall; li x17, 3; li x10, 9; ecall", "li x5, -9223372036854775808; ld x5, 0(x5); li x17, 3; li x10, 9; ecall", "li x5, 9223372036854775800; ld x5, 0(x5); li x17, 3; li x10, 9; ecall", "li x5, 9223372036854775807; sd x5, 1(x5); li x17, 3; li x10, 9; ecall", "sd x2, -8(x2); sd x5, 0(x2); li x17, 3; li x10, 9; ecall", "li x2, 0; ld x5, -8(x2); li x17, 3; li x10, 9; ecall",
	"la x5, r; li x6, 11; sd x6, 0(x5); li x7, 1073709056; li x6, 12; sd x6, 0(x7); la x5, q; li x6, 13; sd x6, 0(x5); sd x6, -8(x2); li x17, 1; la x5, r; ld x10, 0(x5); ecall; ld x10, 0(x7); ecall; ld x10, -16(x5); ecall; ld x10, 8(x7); ecall; li x17, 3; ecall",
	// calls and returns
	"jal f; li x17, 3; ecall; f: ;li x10, 6; ret", "li x1, 4; ret", "jal a; a: ;li x17, 1; mv x10, x1; ecall; li x5, 4; beq x1, x5, b; ecall; j c; b: ;addi x1, x1, 24; ret; c: ;li x17, 3; ecall", "a: ;ret; jal a", "j b; a: ;ret; b: ;jal a", "jal f; jal g; li x17, 3; ecall; f: ;li x10, 6; ret; g: ;addi x10, x10, 1; mv x5, x1; jal f; mv x1, x5; ret", "li x1, 5; ret; jal a; a:", "li x1, -4; ret; jal a; a:", "li x1, 12; ret; jal a; li x17, 3; li x10, 8; ecall; a:", "jal f; f: ;addi x5, x5, 1; li x6, 5; beq x5, x6, e; ret; e: ;li x17, 3; mv x10, x5; ecall",
	// numbers
	"li x5, -7; li x6, 2; li x17, 1; div x10, x5, x6; ecall; rem x10, x5, x6; ecall; div x10, x5, x0; ecall; rem x10, x5, x0; ecall; div x5, x6, x5; mv x10, x5; ecall; rem x6, x6, x6; mv x10, x6; ecall", "li x5, -9223372036854775808; li x6, -1; li x17, 1; div x10, x5, x6; ecall; rem x10, x5, x6; ecall; sltu x10, x5, x6; ecall; sltu x10, x6, x5; ecall; sltu x10, x0, x5; ecall; sltu x10, x5, x0; ecall; sltu x10, x5, x5; ecall; slt x10, x5, x6; ecall; slt x10, x0, x5; ecall", "li x5, 9223372036854775807; li x17, 1; addi x10, x5, 2047; ecall; addi x10, x0, -2047; ecall; addi x10, x10, -1; ecall; addi x10, x10, 0; ecall; mul x10, x5, x5; ecall; sll x10, x5, x5; ecall; sra x10, x10, x5; ecall; seqz x10, x10; ecall; snez x10, x10; ecall; xor x10, x5, x10; ecall; and x10, x10, x5; ecall; or x10, x10, x5; ecall",
	"li x17, 2; ecall; mv x5, x10; li x17, 1; a: ;mv x10, x5; ecall; addi x5, x5, -1; bne x5, x0, a; bge x5, x0, b; ecall; b: ;blt x0, x5, a; li x17, 5; ecall",
}

func TestTexts(t *testing.T) {
	for _, s := range texts {
		c := code(t, ".array q 2; .array r 1;"+s)
		if !strings.Contains(s, "la x") {
			c = code(t, s)
		}
		p := lifted(t, c)
		for _, in := range [][]int{nil, {0}, {1, 2, 3}, {3, 1, 1}, {4, 2}, {5}, {6}} {
			for n := -1; n < 70; n++ {
				agree(t, c, p, in, n)
			}
			agree(t, c, p, in, 2000)
		}
	}
}

// TestFaults: V4.
func TestFaults(t *testing.T) {
	const done = "; li x17, 3; ecall"
	for _, s := range []string{"ret" + done, "ld x0, 0(x0)" + done, "", "li x5, 1", "j a" + done + "; a:", "ecall" + done, "li x17, 9; ecall" + done, "li x17, 4; li x10, 5; ecall" + done, "li x1, 4; ret" + done, "jal a" + done + "; a:", "sd x5, 0(x2)" + done, "li x17, 4; ecall" + done, "ld x5, -1(x2)" + done, "ld x5, -2(x2)" + done, "ld x5, -4(x2)" + done, "sd x5, -15(x2)" + done, "li x5, 65536; ld x5, 0(x5)" + done, "li x5, 1073709048; ld x5, 0(x5)" + done, "li x1, 13; ret; jal a" + done + "; a:", "li x1, 14; ret; jal a" + done + "; a:", "li x1, 8; ret; jal a" + done + "; a:"} {
		got := eval.Run(lifted(t, code(t, s)), nil, 9999)
		if got.Status != api.StatTrap || got.Code != 1<<40 || mach.Run(code(t, s), nil, 9999).Status != api.StatFault {
			t.Error("V4:", s, got)
		}
	}
	for s, want := range map[string]api.Run{"li x17, 3; li x10, 7; ecall": {Status: api.StatDone, Code: 7}, "li x17, 4; li x10, 2; ecall": {Status: api.StatDiv}, "li x17, 4; li x10, 3; ecall": {Status: api.StatBounds}, "li x17, 4; li x10, 4; ecall": {Status: api.StatDepth}, "li x17, 5; li x10, 8; ecall": {Status: api.StatTrap, Code: 8}} {
		if got := eval.Run(lifted(t, code(t, s)), nil, 9999); got.Status != want.Status || got.Code != want.Code {
			t.Error("V4:", s, got)
		}
	}
}

// TestRandom: V3 of code made by chance.
func TestRandom(t *testing.T) {
	d := sample.New(35)
	var ended [7]int
	for range 3000 {
		c, in := sample.Code(d, 30), d.Numbers(4)
		p := lifted(t, c)
		for range 4 {
			agree(t, c, p, in, d.Roll(150)-1)
		}
		agree(t, c, p, in, 400)
		ended[mach.Run(c, in, 400).Status]++
	}
	for status, n := range ended {
		if n < 5 {
			t.Error("too few runs that end with status", status, ended)
		}
	}
}

// TestCompiled: V3 of code that was compiled.
func TestCompiled(t *testing.T) {
	d := sample.New(36)
	for range 150 {
		s, in := sample.Prog(d), d.Numbers(4)
		c, err, _ := compile.Tree(s, d.Roll(3))
		if err != api.OK {
			t.Fatal(err)
		}
		p := lifted(t, c)
		for range 2 {
			agree(t, c, p, in, d.Roll(300))
		}
		agree(t, c, p, in, 1500)
	}
}

// TestLong: V2, V3 of as many instructions, each a block, as may be.
func TestLong(t *testing.T) {
	var c api.Code
	for i := range 6666 {
		c.Lines = append(c.Lines, api.Line{Label: fmt.Sprint("a", i)}, api.Line{In: api.Instr{Op: api.InJal, Name: fmt.Sprint("a", (i*5+1)%6666)}}, api.Line{In: api.Instr{Op: api.InAddi, D: 1, A: 1, N: 12 * (i % 3)}}, api.Line{In: api.Instr{Op: api.InRet}})
	}
	p := lifted(t, c)
	for _, n := range []int{0, 1, 5, 30, 300} {
		agree(t, c, p, nil, n)
	}
	var r api.Code
	for i := range 19998 {
		r.Lines = append(r.Lines, api.Line{Label: fmt.Sprint("a", i)}, api.Line{In: api.Instr{Op: api.InBeq, A: 5, B: 0, Name: fmt.Sprint("a", (i*7+3)%19998)}})
	}
	q := lifted(t, r)
	for _, n := range []int{1, 5, 30, 300} {
		agree(t, r, q, nil, n)
	}
}

// TestSame: the same code gives the same program, and R3.
func TestSame(t *testing.T) {
	for seed := range 60 {
		a, b := sample.Code(sample.New(seed), 30), sample.Code(sample.New(seed), 30)
		p, q := lifted(t, a), lifted(t, b)
		if !tree.Same(p, q) || !reflect.DeepEqual(a, b) {
			t.Error("V2: another program, or R3: written into")
		}
		spoil(p)
		if !tree.Same(lifted(t, a), q) || !reflect.DeepEqual(a, b) {
			t.Error("R3: shared")
		}
	}
}

// spoil writes into each list of a program, and grows it: were two of them one, what was written would not be there.
func spoil(p api.Prog) {
	k := 0
	var lists [][]api.Expr
	var exprs func(list []api.Expr)
	exprs = func(list []api.Expr) {
		for i := range list {
			exprs(list[i].Args)
		}
		for i := range list {
			k++
			list[i].N = k
		}
		_ = append(list, api.Expr{N: -1})
		lists = append(lists, list)
	}
	var stmts func(list []api.Stmt)
	stmts = func(list []api.Stmt) {
		for i := range list {
			exprs(list[i].Args)
			stmts(list[i].Then)
			stmts(list[i].Else)
		}
		_ = append(list, api.Stmt{Kind: -1})
	}
	for _, f := range p.Funcs {
		stmts(f.Body)
	}
	k = 0
	for _, list := range lists {
		for _, e := range list {
			k++
			if e.N != k {
				panic("two lists are one")
			}
		}
	}
}
