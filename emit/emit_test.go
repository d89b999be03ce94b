package emit_test

import (
	"fmt"
	"reflect"
	"slices"
	"sort"
	"strings"
	"testing"

	"counterproof/api"
	"counterproof/asm"
	"counterproof/emit"
	"counterproof/ir"
	"counterproof/irrun"
	"counterproof/lower"
	"counterproof/mach"
	"counterproof/regs"
	"counterproof/sample"
)

func num(d, n int) api.Ins          { return api.Ins{Kind: api.InsNum, D: d, N: n} }
func two(d, op, a, b int) api.Ins   { return api.Ins{Kind: api.InsTwo, D: d, Op: op, A: a, B: b} }
func print(a int) api.Ins           { return api.Ins{Kind: api.InsPrint, A: a} }
func jump(to int) api.Term          { return api.Term{Kind: api.TermJump, To: to} }
func choose(a, to, or int) api.Term { return api.Term{Kind: api.TermIf, A: a, To: to, Else: or} }
func back(a int) api.Term           { return api.Term{Kind: api.TermReturn, A: a} }
func call(d int, name string, args ...int) api.Ins {
	return api.Ins{Kind: api.InsCall, D: d, Name: name, Args: args}
}
func block(end api.Term, list ...api.Ins) api.Block {
	return api.Block{Ins: list, Term: end}
}
func function(name string, params, values int, b ...api.Block) api.Flow {
	return api.Flow{Name: name, Params: params, Values: values, Blocks: b}
}

// follows tells whether b does what a does: it ends so, if a is at its end, and else it told at least as much.
func follows(a, b api.Run) bool {
	if a.Status != api.StatGoing {
		return a.Status == b.Status && a.Code == b.Code && slices.Equal(a.Out, b.Out)
	}
	return len(a.Out) <= len(b.Out) && slices.Equal(a.Out, b.Out[:len(a.Out)])
}

// emitted is the code of a unit, which must be as E2 says.
func emitted(t *testing.T, u api.Unit, registers int) api.Code {
	t.Helper()
	c, err := emit.Emit(u, registers)
	if err != api.OK {
		t.Fatal("E2:", err)
	}
	if err, at := asm.Check(c); err != api.OK {
		t.Fatal("E2: code that may not be", err, at)
	}
	if !slices.Equal(c.Arrays, u.Arrays) {
		t.Fatal("E2: arrays", c.Arrays)
	}
	for _, f := range u.Flows {
		at := slices.IndexFunc(c.Lines, func(l api.Line) bool { return l.Label == "f."+f.Name })
		if at < 1 {
			t.Fatal("E2: where a function begins", f.Name, at)
		}
	}
	if c.Lines[0].In.Op != api.InJal || c.Lines[0].In.Name != "f.main" {
		t.Fatal("E2: the first instruction", c.Lines[0])
	}
	return c
}

func text(u api.Unit) string {
	s, _ := ir.Print(u)
	return s
}

// agree asks for E3, of so many steps, either way.
func agree(t *testing.T, u api.Unit, c api.Code, in []int, n int) {
	t.Helper()
	if a, b := irrun.Run(u, in, n), mach.Run(c, in, 100*n+100); !follows(a, b) {
		t.Fatal("E3: of the unit's steps", n, text(u), in, a, b)
	}
	a := mach.Run(c, in, n)
	if b := irrun.Run(u, in, n+10); !follows(a, b) || a.Status == api.StatFault {
		t.Fatal("E3: of the code's steps", n, text(u), in, a, b)
	}
}

func TestRegister(t *testing.T) {
	want := []int{5, 6, 7, 9, 18, 19, 20, 21, 22, 23, 24, 25, 26, 27, 28, 29, 30, 31}
	for n := -3; n < 40; n++ {
		r := 0
		if n >= 0 && n < len(want) {
			r = want[n]
		}
		if got := emit.Register(n); got != r {
			t.Error("E1: Register", n, got)
		}
	}
	if emit.Register(-1<<63) != 0 || emit.Register(1<<63-1) != 0 {
		t.Error("E1: Register of no number")
	}
}

func TestFrame(t *testing.T) {
	d := sample.New(29)
	for range 300 {
		for _, f := range sample.Unit(d).Flows {
			for _, n := range []int{0, 1, 3, 18} {
				places := regs.Alloc(f, n)
				set := map[int]bool{}
				for _, p := range places {
					set[max(p, -1)] = true
				}
				delete(set, -1)
				if got := emit.Frame(f, n); got != 1+len(set)+regs.Slots(places) {
					t.Fatal("E1: Frame", f, n, got)
				}
			}
		}
	}
	for i, c := range []struct {
		f         api.Flow
		registers int
		want      int
	}{
		{function("f", 0, 0), 0, 0}, {function("f", 0, 5), 3, 0}, {function("f", 0, 0, block(jump(0))), 0, 1}, {function("f", 0, 0, block(jump(0))), 18, 1}, {function("f", 0, 1, block(back(0))), 0, 2}, {function("f", 0, 1, block(back(0))), 18, 2}, {function("f", 0, 1, block(back(0))), -1, 0}, {function("f", 0, 1, block(back(0))), 33, 0}, {function("f", 0, 1, block(back(1))), 3, 0}, {function("f", 0, 50001, block(back(1))), 3, 0},
	} {
		if got := emit.Frame(c.f, c.registers); got != c.want {
			t.Error("E1: Frame", i, got, c.want)
		}
	}
}

// wide is a function that wants so many values at its beginning, and sets them to numbers.
func wide(name string, params, n int) api.Flow {
	var ask, sum []api.Ins
	for v := range n {
		ask = append(ask, print(v))
		sum = append(sum, num(v, v))
	}
	return function(name, params, n, block(choose(0, 1, 1), ask...), block(back(n-1), append(sum, ask...)...))
}

func TestErrors(t *testing.T) {
	fine := api.Unit{Flows: []api.Flow{function("main", 0, 1, block(back(0)))}}
	for _, n := range []int{-1, 19, 32, 1 << 62} {
		if c, err := emit.Emit(fine, n); err != api.ErrArg || len(c.Lines) > 0 {
			t.Error("E2: so many registers", n, err)
		}
	}
	for i, u := range []api.Unit{{}, {Flows: []api.Flow{function("main", 0, 1)}}, {Flows: []api.Flow{function("main", 0, 1, block(back(1)))}}} {
		if c, err := emit.Emit(u, 3); err != api.ErrArg || len(c.Lines)+len(c.Arrays) > 0 {
			t.Error("E2: may not be", i, err)
		}
	}
	for _, registers := range []int{0, 5, 18} {
		for n := 60; n < 100; n++ {
			u := api.Unit{Arrays: []api.Array{{Name: "a", Size: 1}}, Flows: []api.Flow{wide("main", 0, n)}}
			c, err := emit.Emit(u, registers)
			if emit.Frame(u.Flows[0], registers) > api.MaxFrame {
				if err != api.ErrLimit || len(c.Lines)+len(c.Arrays) > 0 {
					t.Error("E2: a wide function", n, registers, err)
				}
			} else if err != api.OK || n >= 80 {
				t.Error("E2: a function that is not too wide", n, registers, err)
			}
		}
	}
	long := func(n int) api.Unit {
		return api.Unit{Flows: []api.Flow{function("main", 0, 1, block(back(0), slices.Repeat([]api.Ins{print(0)}, n)...))}}
	}
	if c, err := emit.Emit(long(40001), 18); err != api.ErrLimit || len(c.Lines) > 0 {
		t.Error("E2: a long unit", err)
	}
	emitted(t, long(2000), 0)
	// The most that is emitted is as long as may be, but for what one more would add.
	for _, registers := range []int{0, 18} {
		for _, x := range []api.Ins{print(0), num(0, 1)} {
			all := func(n int) api.Unit {
				return api.Unit{Flows: []api.Flow{function("main", 0, 1, block(back(0), slices.Repeat([]api.Ins{x}, n)...))}}
			}
			each := len(emitted(t, all(1001), registers).Lines) - len(emitted(t, all(1000), registers).Lines)
			most := sort.Search(40001, func(n int) bool {
				_, err := emit.Emit(all(n), registers)
				return err != api.OK
			}) - 1
			if c := emitted(t, all(most), registers); len(c.Lines) > api.MaxLines || len(c.Lines)+each <= api.MaxLines {
				t.Error("E2: the longest unit", most, len(c.Lines), each)
			}
		}
	}
	var many api.Unit
	for i := range 4000 {
		many.Flows = append(many.Flows, function(fmt.Sprint("g", i), 0, 40, block(back(39), slices.Repeat([]api.Ins{print(0)}, 20)...)))
	}
	many.Flows = append(many.Flows, fine.Flows...)
	if c, err := emit.Emit(many, 18); err != api.ErrLimit || len(c.Lines) > 0 {
		t.Error("E2: many functions", err)
	}
}

func TestExamples(t *testing.T) {
	u := api.Unit{Flows: []api.Flow{function("main", 0, 1, block(back(0)))}}
	for n := range 19 {
		if got := mach.Run(emitted(t, u, n), nil, 999); got.Status != api.StatDone || got.Code != 0 || len(got.Out) > 0 {
			t.Error("E3:", n, got)
		}
	}
}

// TestOperators: each operator, of values in registers and in slots.
func TestOperators(t *testing.T) {
	numbers := []int{0, 1, -1, 2, -7, 63, 64, 1<<63 - 1, -1 << 63}
	for op := api.OpAdd; op <= api.OpInv; op++ {
		var list []api.Ins
		for _, a := range numbers {
			for _, b := range numbers {
				x := two(2, op, 0, 1)
				if op >= api.OpNeg {
					x = api.Ins{Kind: api.InsOne, D: 2, Op: op, A: 0}
				} else if b == 0 && (op == api.OpDiv || op == api.OpRem) {
					continue
				}
				y := x
				y.D, y.A = 0, 0
				list = append(list, num(0, a), num(1, b), x, print(2), print(0), print(1), y, print(0))
			}
		}
		u := api.Unit{Flows: []api.Flow{function("main", 0, 3, block(back(2), list...))}}
		for _, n := range []int{0, 1, 2, 18} {
			agree(t, u, emitted(t, u, n), nil, 5000)
		}
	}
}

// TestDeep: calls in one another, of functions that want as much as may be.
func TestDeep(t *testing.T) {
	for _, n := range []int{3, 40, 79} {
		for params := range 4 {
			f := wide("f", params, n)
			for k := range f.Blocks {
				ask := call(0, "f")
				for v := range params {
					ask.Args = append(ask.Args, v)
				}
				for _, ahead := range []bool{false, true} {
					g := f
					g.Blocks = slices.Clone(f.Blocks)
					if g.Blocks[k].Ins = append(slices.Clone(f.Blocks[k].Ins), ask); ahead {
						g.Blocks[k].Ins = append([]api.Ins{ask}, f.Blocks[k].Ins...)
					}
					main := function("main", 0, 9, block(back(0), call(0, "f", []int{1, 2, 3, 4}[:params]...)))
					u := api.Unit{Flows: []api.Flow{g, main}}
					for _, registers := range []int{0, 18} {
						c := emitted(t, u, registers)
						for steps := range 60 {
							agree(t, u, c, nil, steps*2)
						}
						agree(t, u, c, nil, 20000)
					}
				}
			}
		}
	}
	// Block 0 is come to again, so that what is 0 at first is not 0 there any more.
	loop := function("main", 0, 4, block(choose(2, 0, 1), print(0), print(3), num(1, 1), two(0, api.OpAdd, 0, 1), num(1, 3), two(2, api.OpLt, 0, 1)), block(back(0)))
	for _, registers := range []int{0, 2, 18} {
		u := api.Unit{Flows: []api.Flow{loop}}
		c := emitted(t, u, registers)
		for steps := range 60 {
			agree(t, u, c, nil, steps)
		}
		if got := mach.Run(c, nil, 9999); !slices.Equal(got.Out, []int{0, 0, 1, 0, 2, 0}) || got.Code != 3 {
			t.Error("E3: block 0 again", got)
		}
	}
}

// TestTheorem: E3 of units made by chance.
func TestTheorem(t *testing.T) {
	d := sample.New(30)
	var ended [7]int
	for i := range 1500 {
		u, in := sample.Unit(d), d.Numbers(4)
		if i%3 == 0 {
			p := sample.Prog(d)
			u, _ = lower.Lower(p)
		}
		c := emitted(t, u, sample.Pick(d, []int{0, 1, 2, 5, 17, 18}))
		for range 4 {
			agree(t, u, c, in, d.Roll(300)-1)
		}
		agree(t, u, c, in, 1500)
		ended[irrun.Run(u, in, 1500).Status]++
	}
	for status := api.StatGoing; status <= api.StatTrap; status++ {
		if ended[status] < 5 {
			t.Error("too few runs that end with status", status, ended)
		}
	}
}

// TestCalls: E4: a function leaves registers as they were.
func TestCalls(t *testing.T) {
	d := sample.New(31)
	returned := 0
	for range 600 {
		u, in := sample.Unit(d), d.Numbers(3)
		registers := d.Roll(19)
		c := emitted(t, u, registers)
		f := sample.Pick(d, u.Flows)
		var args []int
		for range f.Params {
			args = append(args, d.Number())
		}
		kept := []int{2, 8}
		for n := range 18 {
			kept = append(kept, emit.Register(n))
		}
		var s strings.Builder
		for _, r := range kept[2:] {
			fmt.Fprintf(&s, "li x%d, %d\n", r, 1000+r)
		}
		for i, n := range args {
			fmt.Fprintf(&s, "li x%d, %d\n", 11+i, n)
		}
		s.WriteString("li x3, 33\nli x4, 44\nli x17, 55\nli x10, 66\naddi x2, x2, -80\njal f." + f.Name + "\nmv x4, x10\nli x17, 1\n")
		for _, r := range append(kept, 4) {
			fmt.Fprintf(&s, "mv x10, x%d\necall\n", r)
		}
		s.WriteString("li x17, 3\nli x10, 99\necall\n")
		body, _ := asm.Print(api.Code{Lines: c.Lines})
		if len(c.Arrays) > 0 {
			whole, _ := asm.Print(c)
			body = whole[strings.Index(whole, "\t"):]
		}
		head := ""
		for _, a := range c.Arrays {
			head += fmt.Sprintf(".array %s %d\n", a.Name, a.Size)
		}
		mine, err, line := asm.Parse(head + s.String() + body)
		if err != api.OK {
			t.Fatal(err, line)
		}
		got := mach.Run(mine, in, 20000)
		if got.Status != api.StatDone || got.Code != 99 || len(got.Out) < len(kept)+1 {
			continue
		}
		returned++
		out := got.Out[len(got.Out)-len(kept)-1:]
		for i, r := range kept {
			want := 1000 + r
			switch r {
			case 2:
				want = 1<<30 - 80
			case 8:
				want = 0
			}
			if out[i] != want {
				t.Fatal("E4: register", r, "is", out[i], "not", want, text(u))
			}
		}
		// What it returns is what the unit's function returns.
		w := u
		w.Flows = slices.DeleteFunc(slices.Clone(u.Flows), func(g api.Flow) bool { return g.Name == "main" })
		if len(w.Flows) < len(u.Flows) && f.Name != "main" && !strings.Contains(text(u), "main(") {
			asks := function("main", 0, 8, block(back(7), call(7, f.Name, []int{1, 2, 3, 4, 5, 6}[:f.Params]...)))
			for i, n := range args {
				asks.Blocks[0].Ins = append([]api.Ins{num(i+1, n)}, asks.Blocks[0].Ins...)
			}
			w.Flows = append(w.Flows, asks)
			if b := irrun.Run(w, in, 20000); b.Status == api.StatDone && b.Code != out[len(out)-1] {
				t.Fatal("E4: it returns", out[len(out)-1], "not", b.Code, text(u))
			}
		}
	}
	if returned < 150 {
		t.Error("too few that return", returned)
	}
}

// TestSame: the same unit gives the same code, and R3.
func TestSame(t *testing.T) {
	for seed := range 40 {
		a, b := sample.Unit(sample.New(seed)), sample.Unit(sample.New(seed))
		x, y := emitted(t, a, seed%19), emitted(t, b, seed%19)
		if !asm.Same(x, y) || !reflect.DeepEqual(a, b) {
			t.Error("E4: other code, or R3: written into")
		}
		for i := range x.Arrays {
			x.Arrays[i].Size = 99
		}
		x.Lines[0].Label = "other"
		if z := emitted(t, a, seed%19); !asm.Same(y, z) || !reflect.DeepEqual(a, b) {
			t.Error("R3: shared")
		}
	}
}
