package fold_test

import (
	"reflect"
	"slices"
	"testing"

	"counterproof/api"
	"counterproof/arith"
	"counterproof/fold"
	"counterproof/ir"
	"counterproof/irrun"
	"counterproof/sample"
)

func num(d, n int) api.Ins          { return api.Ins{Kind: api.InsNum, D: d, N: n} }
func move(d, a int) api.Ins         { return api.Ins{Kind: api.InsMove, D: d, A: a} }
func one(d, op, a int) api.Ins      { return api.Ins{Kind: api.InsOne, D: d, Op: op, A: a} }
func two(d, op, a, b int) api.Ins   { return api.Ins{Kind: api.InsTwo, D: d, Op: op, A: a, B: b} }
func load(d, a int) api.Ins         { return api.Ins{Kind: api.InsLoad, D: d, A: a, Name: "q"} }
func store(a, b int) api.Ins        { return api.Ins{Kind: api.InsStore, A: a, B: b, Name: "q"} }
func print(a int) api.Ins           { return api.Ins{Kind: api.InsPrint, A: a} }
func read(d int) api.Ins            { return api.Ins{Kind: api.InsRead, D: d} }
func call(d, a, b int) api.Ins      { return api.Ins{Kind: api.InsCall, D: d, Name: "f", Args: []int{a, b}} }
func jump(to int) api.Term          { return api.Term{Kind: api.TermJump, To: to} }
func choose(a, to, or int) api.Term { return api.Term{Kind: api.TermIf, A: a, To: to, Else: or} }
func back(a int) api.Term           { return api.Term{Kind: api.TermReturn, A: a} }
func trap(a int) api.Term           { return api.Term{Kind: api.TermTrap, A: a} }

// unit is a unit of one block, behind which there are two more.
func unit(end api.Term, list ...api.Ins) api.Unit {
	f := api.Flow{Name: "f", Params: 2, Values: 2, Blocks: []api.Block{{Term: back(0)}}}
	return api.Unit{Arrays: []api.Array{{Name: "q", Size: 4}}, Flows: []api.Flow{f, {Name: "main", Values: 9, Blocks: []api.Block{{Ins: list, Term: end}, {Term: back(1)}, {Ins: []api.Ins{move(3, 1)}, Term: back(2)}}}}}
}

func told(t *testing.T, u api.Unit) string {
	t.Helper()
	s, err := ir.Print(u)
	if err != api.OK {
		t.Fatal("may not be", err)
	}
	return s
}

func TestFold(t *testing.T) {
	list := func(x ...api.Ins) []api.Ins { return x }
	for i, c := range []struct {
		list []api.Ins
		end  api.Term
		want []api.Ins
		to   api.Term
	}{
		{list(num(1, 2), two(2, api.OpMul, 1, 1)), choose(2, 1, 2), list(num(1, 2), num(2, 4)), jump(1)},
		{list(num(1, 2), two(2, api.OpSub, 1, 1)), choose(2, 1, 2), list(num(1, 2), num(2, 0)), jump(2)},
		{list(two(2, api.OpSub, 1, 1)), choose(2, 1, 2), list(two(2, api.OpSub, 1, 1)), choose(2, 1, 2)},
		{list(num(1, 2)), back(1), list(num(1, 2)), back(1)},
		{list(num(1, 2)), trap(1), list(num(1, 2)), trap(1)},
		{list(move(2, 1), move(3, 2), move(4, 3)), back(4), list(move(2, 1), move(3, 1), move(4, 1)), back(1)},
		{list(move(2, 1)), choose(2, 1, 2), list(move(2, 1)), choose(1, 1, 2)},
		{list(move(2, 1)), trap(2), list(move(2, 1)), trap(1)},
		{list(move(1, 0), move(2, 1)), jump(1), list(move(1, 0), move(2, 0)), jump(1)},
		{list(num(1, 7), move(2, 1), move(3, 2)), back(3), list(num(1, 7), num(2, 7), num(3, 7)), back(3)},
		{list(num(1, 7), one(2, api.OpNeg, 1), one(3, api.OpNot, 2), one(4, api.OpInv, 3)), back(4), list(num(1, 7), num(2, -7), num(3, 0), num(4, -1)), back(4)},
		// what a division makes nothing of stays
		{list(num(1, 7), num(2, 0), two(3, api.OpDiv, 1, 2), move(4, 3)), back(4), list(num(1, 7), num(2, 0), two(3, api.OpDiv, 1, 2), move(4, 3)), back(3)},
		{list(num(1, 7), num(2, 2), two(3, api.OpRem, 1, 2)), choose(3, 2, 1), list(num(1, 7), num(2, 2), num(3, 1)), jump(2)},
		// one of two
		{list(num(1, 7), two(3, api.OpAdd, 1, 2), two(4, api.OpAdd, 2, 1)), back(4), list(num(1, 7), two(3, api.OpAdd, 1, 2), two(4, api.OpAdd, 2, 1)), back(4)},
		{list(move(1, 5), num(2, 3), two(3, api.OpAdd, 1, 2)), back(3), list(move(1, 5), num(2, 3), two(3, api.OpAdd, 5, 2)), back(3)},
		// all that uses values
		{list(move(1, 5), load(2, 1), store(1, 1), print(1), call(6, 1, 2), one(7, api.OpNeg, 1)), back(1), list(move(1, 5), load(2, 5), store(5, 5), print(5), call(6, 5, 2), one(7, api.OpNeg, 5)), back(5)},
		{list(num(1, 5), load(2, 1), store(1, 1), print(1), call(6, 1, 1)), back(1), list(num(1, 5), load(2, 1), store(1, 1), print(1), call(6, 1, 1)), back(1)},
		// what is set is known no more, nor what was known to be it
		{list(num(1, 5), read(1), move(2, 1)), back(2), list(num(1, 5), read(1), move(2, 1)), back(1)},
		{list(num(1, 5), load(1, 0), call(2, 1, 1), print(1)), choose(1, 1, 2), list(num(1, 5), load(1, 0), call(2, 1, 1), print(1)), choose(1, 1, 2)},
		{list(move(2, 1), move(3, 1), read(1), print(2), print(3)), back(2), list(move(2, 1), move(3, 1), read(1), print(2), print(3)), back(2)},
		{list(move(2, 1), num(1, 4), print(2)), back(2), list(move(2, 1), num(1, 4), print(2)), back(2)},
		{list(move(2, 1), move(1, 5), print(2), print(1)), back(2), list(move(2, 1), move(1, 5), print(2), print(5)), back(2)},
		{list(move(2, 1), read(2), read(1), print(2)), back(2), list(move(2, 1), read(2), read(1), print(2)), back(2)},
		{list(move(2, 1), move(2, 5), read(1), print(2)), back(2), list(move(2, 1), move(2, 5), read(1), print(5)), back(5)},
		{list(num(2, 8), two(2, api.OpAdd, 2, 2), two(2, api.OpAdd, 2, 2)), back(2), list(num(2, 8), num(2, 16), num(2, 32)), back(2)},
		{list(move(2, 1), call(1, 2, 1), print(2)), back(2), list(move(2, 1), call(1, 1, 1), print(2)), back(2)},
		// a move of a value to itself
		{list(move(2, 1), move(1, 2), print(2)), back(2), list(move(2, 1), move(1, 1), print(1)), back(1)},
		{list(move(1, 1), move(2, 1), move(1, 1), print(2)), back(2), list(move(1, 1), move(2, 1), move(1, 1), print(1)), back(1)},
		{list(num(1, 6), move(1, 1), move(2, 1)), choose(2, 1, 2), list(num(1, 6), num(1, 6), num(2, 6)), jump(1)},
		{list(move(2, 1), move(2, 2), print(2)), back(2), list(move(2, 1), move(2, 1), print(1)), back(1)},
		{list(move(2, 1), move(3, 2), move(1, 3), read(2), print(3)), back(3), list(move(2, 1), move(3, 1), move(1, 1), read(2), print(1)), back(1)},
		{list(num(1, -1<<63), num(2, -1), two(3, api.OpDiv, 1, 2), two(4, api.OpMul, 1, 2)), back(3), list(num(1, -1<<63), num(2, -1), num(3, -1<<63), num(4, -1<<63)), back(3)},
	} {
		got, err := fold.Fold(unit(c.end, c.list...))
		if want := told(t, unit(c.to, c.want...)); err != api.OK || told(t, got) != want {
			t.Errorf("C1: %d told %v\n%s\nnot\n%s", i, err, told(t, got), want)
		}
	}
}

func TestErrors(t *testing.T) {
	for i, u := range []api.Unit{{}, unit(jump(3)), unit(back(0), num(9, 0)), {Flows: []api.Flow{{Name: "main"}}}} {
		if got, err := fold.Fold(u); err != api.ErrArg || len(got.Arrays)+len(got.Flows) > 0 {
			t.Error("C1: may not be", i, err)
		}
	}
}

func TestKnown(t *testing.T) {
	if n := fold.Known(unit(choose(0, 1, 2), num(1, 1), move(2, 1), num(3, 1))); n != [2]int{2, 3} {
		t.Error("C1: Known", n)
	}
	if n := fold.Known(unit(back(0))); n != [2]int{0, 4} {
		t.Error("C1: Known", n)
	}
	if n := fold.Known(api.Unit{}); n != [2]int{} {
		t.Error("C1: Known of nothing", n)
	}
}

// fact is what a value is known to be: a number, or a value.
type fact struct {
	number bool
	n      int
}

// slow is Fold by the words of the document, of one block.
func slow(b api.Block) api.Block {
	known := map[int]fact{}
	use := func(v int) int {
		if f, ok := known[v]; ok && !f.number {
			return f.n
		}
		return v
	}
	var out api.Block
	for _, x := range b.Ins {
		y := x
		y.Args = nil
		if uses := ir.Uses(x); x.Kind != api.InsCall && len(uses) > 0 {
			y.A = use(x.A)
			if len(uses) > 1 {
				y.B = use(x.B)
			}
		}
		for _, v := range x.Args {
			y.Args = append(y.Args, use(v))
		}
		a, b := known[y.A], known[y.B]
		switch {
		case x.Kind == api.InsMove && a.number:
			y = num(x.D, a.n)
		case x.Kind == api.InsOne && a.number:
			n, _ := arith.One(x.Op, a.n)
			y = num(x.D, n)
		case x.Kind == api.InsTwo && a.number && b.number:
			if n, ok := arith.Two(x.Op, a.n, b.n); ok {
				y = num(x.D, n)
			}
		}
		out.Ins = append(out.Ins, y)
		d := ir.Sets(y)
		if d < 0 || y.Kind == api.InsMove && y.A == d {
			continue
		}
		for v, f := range known {
			if !f.number && f.n == d {
				delete(known, v)
			}
		}
		delete(known, d)
		switch y.Kind {
		case api.InsNum:
			known[d] = fact{true, y.N}
		case api.InsMove:
			known[d] = fact{false, y.A}
		}
	}
	out.Term = b.Term
	if f := known[b.Term.A]; b.Term.Kind == api.TermIf && f.number {
		out.Term = jump(b.Term.Else)
		if f.n != 0 {
			out.Term = jump(b.Term.To)
		}
	} else if b.Term.Kind != api.TermJump {
		out.Term.A = use(b.Term.A)
	}
	return out
}

// TestTheorem: C2, and C1 of units made by chance.
func TestTheorem(t *testing.T) {
	d := sample.New(25)
	changed := 0
	for range 3000 {
		u, in := sample.Unit(d), d.Numbers(3)
		got, err := fold.Fold(u)
		if err != api.OK || !slices.Equal(got.Arrays, u.Arrays) || len(got.Flows) != len(u.Flows) {
			t.Fatal("C1:", err)
		}
		want := u
		want.Flows = slices.Clone(u.Flows)
		for i, f := range u.Flows {
			want.Flows[i].Blocks = nil
			for _, b := range f.Blocks {
				want.Flows[i].Blocks = append(want.Flows[i].Blocks, slow(b))
			}
		}
		if told(t, got) != told(t, want) {
			t.Fatal("C1:", told(t, u), "told", told(t, got), "not", told(t, want))
		}
		for range 5 {
			steps := d.Roll(120) - 1
			a, b := irrun.Run(u, in, steps), irrun.Run(got, in, steps)
			if a.Status != b.Status || a.Code != b.Code || a.Steps != b.Steps || !slices.Equal(a.Out, b.Out) {
				t.Fatal("C2:", told(t, u), a, b)
			}
		}
		x, y := fold.Known(u), fold.Known(got)
		if y[0] < x[0] || y[1] < x[1] {
			t.Fatal("C2: less is known", x, y)
		}
		if x != y {
			changed++
		}
	}
	if changed < 300 {
		t.Error("too few that are changed", changed)
	}
}

// TestLong: a long block is folded soon.
func TestLong(t *testing.T) {
	var list []api.Ins
	for i := range 100000 {
		list = append(list, move(i%40000, (i+1)%40000))
	}
	u := unit(back(0), list...)
	u.Flows[1].Values = 40000
	if _, err := fold.Fold(u); err != api.OK {
		t.Error("C1: long", err)
	}
}

// TestMemory: R3.
func TestMemory(t *testing.T) {
	for seed := range 40 {
		a, b := sample.Unit(sample.New(seed)), sample.Unit(sample.New(seed))
		got, _ := fold.Fold(a)
		want, _ := fold.Fold(b)
		if !reflect.DeepEqual(a, b) {
			t.Error("R3: written into")
		}
		for i := range got.Arrays {
			got.Arrays[i].Size = 99
		}
		for _, f := range got.Flows {
			for _, x := range f.Blocks {
				for k := range x.Ins {
					for j := range x.Ins[k].Args {
						x.Ins[k].Args[j] = 99
					}
					_ = append(x.Ins[k].Args, 99)
					x.Ins[k].D = 99
				}
				_ = append(x.Ins, api.Ins{})
			}
			_ = append(f.Blocks, api.Block{})
		}
		if again, _ := fold.Fold(a); !reflect.DeepEqual(a, b) || !reflect.DeepEqual(again, want) {
			t.Error("R3: shared")
		}
	}
}
