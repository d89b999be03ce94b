package dead_test

import (
	"reflect"
	"slices"
	"testing"

	"counterproof/api"
	"counterproof/dead"
	"counterproof/flow"
	"counterproof/ir"
	"counterproof/irrun"
	"counterproof/sample"
)

func num(d, n int) api.Ins          { return api.Ins{Kind: api.InsNum, D: d, N: n} }
func move(d, a int) api.Ins         { return api.Ins{Kind: api.InsMove, D: d, A: a} }
func one(d, op, a int) api.Ins      { return api.Ins{Kind: api.InsOne, D: d, Op: op, A: a} }
func two(d, op, a, b int) api.Ins   { return api.Ins{Kind: api.InsTwo, D: d, Op: op, A: a, B: b} }
func load(d, a int) api.Ins         { return api.Ins{Kind: api.InsLoad, D: d, A: a, Name: "q"} }
func store(a, b int) api.Ins        { return api.Ins{Kind: api.InsStore, A: a, B: b, Name: "q"} }
func print(a int) api.Ins           { return api.Ins{Kind: api.InsPrint, A: a} }
func read(d int) api.Ins            { return api.Ins{Kind: api.InsRead, D: d} }
func call(d, a, b int) api.Ins      { return api.Ins{Kind: api.InsCall, D: d, Name: "f", Args: []int{a, b}} }
func jump(to int) api.Term          { return api.Term{Kind: api.TermJump, To: to} }
func choose(a, to, or int) api.Term { return api.Term{Kind: api.TermIf, A: a, To: to, Else: or} }
func back(a int) api.Term           { return api.Term{Kind: api.TermReturn, A: a} }
func trap(a int) api.Term           { return api.Term{Kind: api.TermTrap, A: a} }
func block(end api.Term, list ...api.Ins) api.Block {
	return api.Block{Ins: list, Term: end}
}
func blocks(b ...api.Block) []api.Block { return b }

func unit(b []api.Block) api.Unit {
	f := api.Flow{Name: "f", Params: 2, Values: 2, Blocks: []api.Block{{Term: back(0)}}}
	return api.Unit{Arrays: []api.Array{{Name: "q", Size: 4}}, Flows: []api.Flow{f, {Name: "main", Values: 9, Blocks: b}}}
}

func told(t *testing.T, u api.Unit) string {
	t.Helper()
	s, err := ir.Print(u)
	if err != api.OK {
		t.Fatal("may not be", err)
	}
	return s
}

func TestDead(t *testing.T) {
	for i, c := range []struct{ from, want []api.Block }{
		{blocks(block(back(0), num(1, 2), move(2, 1))), blocks(block(back(0)))},
		{blocks(block(back(2), num(1, 2), move(2, 1))), blocks(block(back(2), num(1, 2), move(2, 1)))},
		{blocks(block(back(2), num(2, 1), num(2, 2), move(2, 2))), blocks(block(back(2), num(2, 2)))},
		{blocks(block(trap(2), num(2, 1), one(3, api.OpNeg, 2), two(4, api.OpAdd, 3, 3))), blocks(block(trap(2), num(2, 1)))},
		// what may not be left out
		{blocks(block(back(0), two(1, api.OpDiv, 2, 3), two(1, api.OpRem, 2, 3), load(1, 2), store(1, 2), read(1), print(3), call(1, 2, 3), two(1, api.OpMul, 2, 3))), blocks(block(back(0), two(1, api.OpDiv, 2, 3), two(1, api.OpRem, 2, 3), load(1, 2), store(1, 2), read(1), print(3), call(1, 2, 3)))},
		{blocks(block(back(0), num(2, 5), num(3, 6), two(1, api.OpDiv, 2, 3), num(2, 7))), blocks(block(back(0), num(2, 5), num(3, 6), two(1, api.OpDiv, 2, 3)))},
		// a move of a value to itself
		{blocks(block(back(1), move(1, 1), read(1), move(1, 1))), blocks(block(back(1), read(1)))},
		{blocks(block(back(0), move(1, 1))), blocks(block(back(0)))},
		// wanted in another block
		{blocks(block(choose(0, 1, 2), num(1, 2), num(2, 3)), block(back(1)), block(back(0), num(1, 4))), blocks(block(choose(0, 1, 2), num(1, 2)), block(back(1)), block(back(0)))},
		{blocks(block(jump(1), num(1, 1)), block(choose(0, 1, 2), two(1, api.OpAdd, 1, 1), num(2, 1)), block(back(0))), blocks(block(jump(1), num(1, 1)), block(choose(0, 1, 2), two(1, api.OpAdd, 1, 1)), block(back(0)))},
		{blocks(block(jump(1), num(1, 1)), block(jump(2), move(2, 1)), block(jump(3), move(3, 2)), block(back(0), move(4, 3))), blocks(block(jump(1)), block(jump(2)), block(jump(3)), block(back(0)))},
		// blocks that are not come to
		{blocks(block(jump(2)), block(jump(3), print(1)), block(choose(0, 4, 2), print(2)), block(back(0), print(3)), block(back(4), print(4))), blocks(block(jump(1)), block(choose(0, 2, 1), print(2)), block(back(4), print(4)))},
		{blocks(block(back(0)), block(jump(0), print(1)), block(choose(3, 1, 2))), blocks(block(back(0)))},
		{blocks(block(jump(2), num(1, 1), num(2, 2)), block(back(2)), block(back(1))), blocks(block(jump(1), num(1, 1)), block(back(1)))},
		{blocks(block(choose(0, 2, 2)), block(back(1)), block(choose(0, 0, 2))), blocks(block(choose(0, 1, 1)), block(choose(0, 0, 1)))},
		{blocks(block(jump(0), num(1, 1))), blocks(block(jump(0)))},
		{blocks(block(back(0), num(0, 1))), blocks(block(back(0), num(0, 1)))},
	} {
		got, err := dead.Dead(unit(c.from))
		if want := told(t, unit(c.want)); err != api.OK || told(t, got) != want {
			t.Errorf("D1: %d told %v\n%s\nnot\n%s", i, err, told(t, got), want)
		}
	}
	// Each function for itself.
	u := unit(blocks(block(back(0), num(1, 1))))
	u.Flows[0].Blocks = blocks(block(back(1), num(0, 7)), block(back(0)))
	got, _ := dead.Dead(u)
	if n := dead.Size(got); n != [2]int{0, 2} || got.Flows[0].Params != 2 || got.Flows[1].Values != 9 || got.Flows[0].Name != "f" {
		t.Error("D1: functions", n, got)
	}
}

func TestErrors(t *testing.T) {
	for i, u := range []api.Unit{{}, unit(nil), unit(blocks(block(back(9)))), unit(blocks(block(back(0), num(-1, 0))))} {
		if got, err := dead.Dead(u); err != api.ErrArg || len(got.Arrays)+len(got.Flows) > 0 {
			t.Error("D1: may not be", i, err)
		}
	}
}

func TestSize(t *testing.T) {
	if n := dead.Size(unit(blocks(block(back(0), num(1, 1), print(1)), block(back(0), num(1, 1))))); n != [2]int{3, 3} {
		t.Error("D1: Size", n)
	}
	if n := dead.Size(api.Unit{}); n != [2]int{} {
		t.Error("D1: Size of nothing", n)
	}
}

// slow is Dead by the words of the document, of one function.
func slow(f api.Flow) api.Flow {
	f.Blocks = slices.Clone(f.Blocks)
	for changed := true; changed; {
		changed = false
		all := flow.All(f)
		for i, b := range f.Blocks {
			var list []api.Ins
			for k, x := range b.Ins {
				plain := x.Kind == api.InsNum || x.Kind == api.InsMove || x.Kind == api.InsOne || x.Kind == api.InsTwo && x.Op != api.OpDiv && x.Op != api.OpRem
				if plain && !slices.Contains(all[i][k], x.D) || x.Kind == api.InsMove && x.A == x.D {
					changed = true
				} else {
					list = append(list, x)
				}
			}
			f.Blocks[i].Ins = list
		}
	}
	come, place := flow.Reach(f), map[int]int{}
	var left []api.Block
	for i, b := range f.Blocks {
		if come[i] {
			place[i] = len(left)
			left = append(left, b)
		}
	}
	for i := range left {
		t := &left[i].Term
		if t.Kind == api.TermJump || t.Kind == api.TermIf {
			t.To = place[t.To]
		}
		if t.Kind == api.TermIf {
			t.Else = place[t.Else]
		}
	}
	f.Blocks = left
	return f
}

// TestTheorem: D2, and D1 of units made by chance.
func TestTheorem(t *testing.T) {
	d := sample.New(26)
	changed := 0
	for range 3000 {
		u, in := sample.Unit(d), d.Numbers(3)
		got, err := dead.Dead(u)
		if err != api.OK || !slices.Equal(got.Arrays, u.Arrays) {
			t.Fatal("D1:", err)
		}
		want := u
		want.Flows = nil
		for _, f := range u.Flows {
			want.Flows = append(want.Flows, slow(f))
		}
		if told(t, got) != told(t, want) {
			t.Fatal("D1:", told(t, u), "told", told(t, got), "not", told(t, want))
		}
		if again, err := dead.Dead(got); err != api.OK || told(t, again) != told(t, got) {
			t.Fatal("D2: Dead of it is not itself", told(t, got), told(t, again))
		}
		for range 5 {
			steps := d.Roll(120) - 1
			a, b := irrun.Run(u, in, steps), irrun.Run(got, in, steps)
			ends := a.Status == b.Status && a.Code == b.Code && slices.Equal(a.Out, b.Out) && b.Steps <= a.Steps
			goes := a.Status == api.StatGoing && len(a.Out) <= len(b.Out) && slices.Equal(a.Out, b.Out[:len(a.Out)])
			if !ends && !goes {
				t.Fatal("D2:", told(t, u), a, b)
			}
		}
		if dead.Size(u) != dead.Size(got) {
			changed++
		}
	}
	if changed < 300 {
		t.Error("too few that are changed", changed)
	}
}

// TestLong: much that is dead goes soon.
func TestLong(t *testing.T) {
	var list []api.Ins
	for i := range 100000 {
		list = append(list, two(1+i%9000, api.OpAdd, 1+(i+8999)%9000, 0))
	}
	u := unit(blocks(block(back(0), list...)))
	u.Flows[1].Values = 10000
	if got, err := dead.Dead(u); err != api.OK || dead.Size(got) != [2]int{0, 2} {
		t.Error("D1: long", err)
	}
}

// TestMemory: R3.
func TestMemory(t *testing.T) {
	for seed := range 40 {
		a, b := sample.Unit(sample.New(seed)), sample.Unit(sample.New(seed))
		got, _ := dead.Dead(a)
		want, _ := dead.Dead(b)
		if !reflect.DeepEqual(a, b) {
			t.Error("R3: written into")
		}
		for i := range got.Arrays {
			got.Arrays[i].Size = 99
		}
		for _, f := range got.Flows {
			for _, x := range f.Blocks {
				for k := range x.Ins {
					for j := range x.Ins[k].Args {
						x.Ins[k].Args[j] = 99
					}
					_ = append(x.Ins[k].Args, 99)
					x.Ins[k].D = 99
				}
				_ = append(x.Ins, api.Ins{})
			}
			_ = append(f.Blocks, api.Block{})
		}
		if again, _ := dead.Dead(a); !reflect.DeepEqual(a, b) || !reflect.DeepEqual(again, want) {
			t.Error("R3: shared")
		}
	}
}
