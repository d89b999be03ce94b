package irrun_test

import (
	"reflect"
	"slices"
	"testing"

	"counterproof/api"
	"counterproof/arith"
	"counterproof/ir"
	"counterproof/irrun"
	"counterproof/sample"
)

func same(a, b api.Run) bool {
	return a.Status == b.Status && a.Code == b.Code && a.Steps == b.Steps && slices.Equal(a.Out, b.Out)
}

func num(d, n int) api.Ins          { return api.Ins{Kind: api.InsNum, D: d, N: n} }
func two(d, op, a, b int) api.Ins   { return api.Ins{Kind: api.InsTwo, D: d, Op: op, A: a, B: b} }
func load(d, a int) api.Ins         { return api.Ins{Kind: api.InsLoad, D: d, A: a, Name: "q"} }
func store(a, b int) api.Ins        { return api.Ins{Kind: api.InsStore, A: a, B: b, Name: "q"} }
func print(a int) api.Ins           { return api.Ins{Kind: api.InsPrint, A: a} }
func read(d int) api.Ins            { return api.Ins{Kind: api.InsRead, D: d} }
func jump(to int) api.Term          { return api.Term{Kind: api.TermJump, To: to} }
func choose(a, to, or int) api.Term { return api.Term{Kind: api.TermIf, A: a, To: to, Else: or} }
func back(a int) api.Term           { return api.Term{Kind: api.TermReturn, A: a} }
func trap(a int) api.Term           { return api.Term{Kind: api.TermTrap, A: a} }

func call(d int, name string, args ...int) api.Ins {
	return api.Ins{Kind: api.InsCall, D: d, Name: name, Args: args}
}

func block(end api.Term, list ...api.Ins) api.Block { return api.Block{Ins: list, Term: end} }

// unit is a unit with an array of two numbers, main, of six values, and other functions.
func unit(main []api.Block, others ...api.Flow) api.Unit {
	return api.Unit{Arrays: []api.Array{{Name: "q", Size: 2}, {Name: "big", Size: 1 << 20}}, Flows: append(others, api.Flow{Name: "main", Values: 6, Blocks: main})}
}

func TestRun(t *testing.T) {
	blocks := func(b ...api.Block) []api.Block { return b }
	again := api.Flow{Name: "again", Params: 1, Values: 2, Blocks: blocks(block(back(1), print(0), call(1, "again", 0)))}
	count := api.Flow{Name: "count", Params: 1, Values: 4, Blocks: blocks(block(choose(2, 1, 2), num(1, 49), two(2, api.OpLt, 0, 1)), block(jump(2), num(3, 1), two(0, api.OpAdd, 0, 3), call(3, "count", 0)), block(back(0)))}
	less := api.Flow{Name: "less", Params: 2, Values: 4, Blocks: blocks(block(back(2), two(2, api.OpSub, 0, 1), print(3), num(3, 9), num(0, 8)))}
	for i, c := range []struct {
		u     api.Unit
		in    []int
		steps int
		want  api.Run
	}{
		{unit(blocks(block(back(0)))), nil, 9, api.Run{Status: api.StatDone, Steps: 1}},
		{unit(blocks(block(back(0)))), nil, 1, api.Run{Status: api.StatDone, Steps: 1}},
		{unit(blocks(block(back(0)))), nil, 0, api.Run{}},
		{unit(blocks(block(back(0)))), nil, -4, api.Run{}},
		{unit(blocks(block(back(2), num(1, 5), api.Ins{Kind: api.InsMove, D: 2, A: 1}, api.Ins{Kind: api.InsOne, D: 2, A: 2, Op: api.OpNeg}))), nil, 9, api.Run{Status: api.StatDone, Code: -5, Steps: 4}},
		{unit(blocks(block(trap(1), num(1, 7), print(1)))), nil, 9, api.Run{Status: api.StatTrap, Code: 7, Out: []int{7}, Steps: 3}},
		{unit(blocks(block(back(1), num(1, 7), two(2, api.OpDiv, 1, 0), print(1)))), nil, 9, api.Run{Status: api.StatDiv, Steps: 2}},
		{unit(blocks(block(back(1), print(1), two(2, api.OpRem, 1, 0)))), nil, 9, api.Run{Status: api.StatDiv, Out: []int{0}, Steps: 2}},
		{unit(blocks(block(back(3), num(1, 1), num(2, 8), store(1, 2), load(3, 1), load(4, 0), print(4)))), nil, 9, api.Run{Status: api.StatDone, Code: 8, Out: []int{0}, Steps: 7}},
		{unit(blocks(block(back(3), num(1, 2), load(3, 1)))), nil, 9, api.Run{Status: api.StatBounds, Steps: 2}},
		{unit(blocks(block(back(3), num(1, -1), load(3, 1)))), nil, 9, api.Run{Status: api.StatBounds, Steps: 2}},
		{unit(blocks(block(back(3), num(1, 2), store(1, 1)))), nil, 9, api.Run{Status: api.StatBounds, Steps: 2}},
		{unit(blocks(block(back(3), num(1, -1), store(1, 1)))), nil, 1, api.Run{Steps: 1}},
		{unit(blocks(block(back(3), num(1, 1<<20-1), api.Ins{Kind: api.InsStore, A: 1, B: 1, Name: "big"}, api.Ins{Kind: api.InsLoad, D: 3, A: 1, Name: "big"}))), nil, 9, api.Run{Status: api.StatDone, Code: 1<<20 - 1, Steps: 4}},
		{unit(blocks(block(back(0), read(1), print(1), read(1), print(1), read(1), print(1)))), []int{5, -6}, 9, api.Run{Status: api.StatDone, Out: []int{5, -6, -1}, Steps: 7}},
		{unit(blocks(block(choose(0, 1, 2)), block(back(0), print(0)), block(choose(1, 1, 0), num(1, 4)))), nil, 9, api.Run{Status: api.StatDone, Out: []int{0}, Steps: 5}},
		{unit(blocks(block(jump(0), print(0)))), nil, 5, api.Run{Out: []int{0, 0, 0}, Steps: 5}},
		{unit(blocks(block(jump(1), num(1, -3)), block(choose(1, 1, 2), num(2, 1), two(1, api.OpAdd, 1, 2), print(1)), block(back(1)))), nil, 99, api.Run{Status: api.StatDone, Out: []int{-2, -1, 0}, Steps: 15}},
		{unit(blocks(block(back(2), num(1, 5), num(3, 3), call(2, "less", 1, 3), print(2), call(2, "less", 3, 1), print(3), print(1))), less), nil, 99, api.Run{Status: api.StatDone, Code: -2, Out: []int{0, 2, 0, 3, 5}, Steps: 18}},
		{unit(blocks(block(back(2), num(1, 5), call(2, "again", 1))), again), nil, 999, api.Run{Status: api.StatDepth, Out: slices.Repeat([]int{5}, 49), Steps: 2 + 49*2}},
		{unit(blocks(block(back(2), num(1, 1), call(2, "count", 1))), count), nil, 9999, api.Run{Status: api.StatDone, Code: 2, Steps: 2 + 48*8 + 4 + 1}},
		{unit(blocks(block(back(0), call(1, "main")))), nil, 999, api.Run{Status: api.StatDepth, Steps: 50}},
		{unit(nil), nil, 9, api.Run{}}, {api.Unit{}, nil, 9, api.Run{}}, {unit(blocks(block(back(6)))), nil, 9, api.Run{}}, {unit(blocks(block(back(0), api.Ins{}))), nil, 9, api.Run{}},
	} {
		if got := irrun.Run(c.u, c.in, c.steps); !same(got, c.want) {
			t.Error("R1:", i, "told", got, "not", c.want)
		}
	}
}

// other is a run by the words of the document: a call within a call.
type other struct {
	u      api.Unit
	in     []int
	memory map[string]map[int]int
	run    api.Run
	limit  int
	calls  int
}

type over struct{ status, code int }

func (o *other) step() {
	if o.run.Steps >= o.limit {
		panic(over{})
	}
	o.run.Steps++
}

func (o *other) word(name string, at int) map[int]int {
	for _, a := range o.u.Arrays {
		if a.Name == name && (at < 0 || at >= a.Size) {
			panic(over{api.StatBounds, 0})
		}
	}
	if o.memory[name] == nil {
		o.memory[name] = map[int]int{}
	}
	return o.memory[name]
}

func (o *other) call(name string, args []int) int {
	f := o.u.Flows[ir.Place(o.u, name)]
	v := append(args, make([]int, f.Values-len(args))...)
	o.calls++
	for b := f.Blocks[0]; ; {
		for _, x := range b.Ins {
			o.step()
			o.ins(x, v)
		}
		o.step()
		switch b.Term.Kind {
		case api.TermReturn:
			o.calls--
			return v[b.Term.A]
		case api.TermTrap:
			panic(over{api.StatTrap, v[b.Term.A]})
		case api.TermIf:
			if v[b.Term.A] == 0 {
				b = f.Blocks[b.Term.Else]
				continue
			}
		}
		b = f.Blocks[b.Term.To]
	}
}

func (o *other) ins(x api.Ins, v []int) {
	switch x.Kind {
	case api.InsNum:
		v[x.D] = x.N
	case api.InsMove:
		v[x.D] = v[x.A]
	case api.InsOne:
		v[x.D], _ = arith.One(x.Op, v[x.A])
	case api.InsTwo:
		n, ok := arith.Two(x.Op, v[x.A], v[x.B])
		if !ok {
			panic(over{api.StatDiv, 0})
		}
		v[x.D] = n
	case api.InsLoad:
		v[x.D] = o.word(x.Name, v[x.A])[v[x.A]]
	case api.InsStore:
		o.word(x.Name, v[x.A])[v[x.A]] = v[x.B]
	case api.InsRead:
		v[x.D] = -1
		if len(o.in) > 0 {
			v[x.D], o.in = o.in[0], o.in[1:]
		}
	case api.InsPrint:
		o.run.Out = append(o.run.Out, v[x.A])
	case api.InsCall:
		var args []int
		for _, a := range x.Args {
			args = append(args, v[a])
		}
		if o.calls == 50 {
			panic(over{api.StatDepth, 0})
		}
		v[x.D] = o.call(x.Name, args)
	}
}

func reference(u api.Unit, in []int, steps int) (run api.Run) {
	o := other{u: u, in: in, memory: map[string]map[int]int{}, limit: steps}
	defer func() {
		run = o.run
		if x := recover(); x != nil {
			run.Status, run.Code = x.(over).status, x.(over).code
		}
	}()
	o.run.Code = o.call("main", nil)
	o.run.Status = api.StatDone
	return
}

func TestRandom(t *testing.T) {
	d := sample.New(20)
	var ended [7]int
	for range 6000 {
		u, in, steps := sample.Unit(d), d.Numbers(5), d.Roll(400)
		got, want := irrun.Run(u, in, steps), reference(u, in, steps)
		if !same(got, want) {
			s, _ := ir.Print(u)
			t.Fatal("R1:", s, in, steps, "told", got, "not", want)
		}
		ended[got.Status]++
	}
	for status := api.StatGoing; status <= api.StatTrap; status++ {
		if ended[status] < 5 {
			t.Error("too few runs that end with status", status, ended)
		}
	}
}

// shuffled is a unit whose blocks, but the first ones, and values, but Params, have other places, and whose functions stand in another order.
func shuffled(d *sample.Dice, u api.Unit) api.Unit {
	out := api.Unit{Arrays: u.Arrays}
	order := func(first, n int) []int {
		at := make([]int, n)
		for i := range at {
			at[i] = i
		}
		for i := first; i < n; i++ {
			k := first + d.Roll(n-first)
			at[i], at[k] = at[k], at[i]
		}
		return at
	}
	for _, f := range u.Flows {
		blocks, values := order(1, len(f.Blocks)), order(f.Params, f.Values)
		g := f
		g.Blocks = make([]api.Block, len(f.Blocks))
		for i, b := range f.Blocks {
			var list []api.Ins
			for _, x := range b.Ins {
				y := x
				if ir.Sets(x) >= 0 {
					y.D = values[x.D]
				}
				if x.Kind != api.InsNum && x.Kind != api.InsRead && x.Kind != api.InsCall {
					y.A = values[x.A]
				}
				if x.Kind == api.InsTwo || x.Kind == api.InsStore {
					y.B = values[x.B]
				}
				y.Args = nil
				for _, a := range x.Args {
					y.Args = append(y.Args, values[a])
				}
				list = append(list, y)
			}
			end := b.Term
			if end.Kind != api.TermJump {
				end.A = values[end.A]
			}
			if end.Kind == api.TermJump || end.Kind == api.TermIf {
				end.To = blocks[end.To]
			}
			if end.Kind == api.TermIf {
				end.Else = blocks[end.Else]
			}
			g.Blocks[blocks[i]] = api.Block{Ins: list, Term: end}
		}
		out.Flows = append([]api.Flow{g}, out.Flows...)
	}
	return out
}

// TestTheorem: R2.
func TestTheorem(t *testing.T) {
	d := sample.New(21)
	for range 300 {
		u, in := sample.Unit(d), d.Numbers(3)
		most := irrun.Run(u, in, 120)
		for steps := -1; steps <= 120; steps++ {
			got := irrun.Run(u, in, steps)
			if got.Status != api.StatGoing {
				if !same(got, most) {
					t.Fatal("R2: it ended otherwise", steps, got, most)
				}
				break
			}
			if got.Code != 0 || got.Steps != max(steps, 0) || len(got.Out) > len(most.Out) || !slices.Equal(got.Out, most.Out[:len(got.Out)]) {
				t.Fatal("R2: it told something else", steps, got, most)
			}
		}
		if got := irrun.Run(u, append(slices.Clone(in), slices.Repeat([]int{-1}, 120)...), 120); !same(got, most) {
			t.Error("R2: -1 behind what there is to read", got, most)
		}
		if got := irrun.Run(shuffled(d, u), in, 120); !same(got, most) {
			t.Error("R2: blocks in another order, values by other numbers", got, most)
		}
	}
	u := unit([]api.Block{block(back(1), read(1), print(1))})
	if !same(irrun.Run(u, []int{4, 5, 6}, 99), irrun.Run(u, []int{4}, 99)) {
		t.Error("R2: what it has not read")
	}
}

// TestMemory: R3 and R4.
func TestMemory(t *testing.T) {
	a, b := sample.Unit(sample.New(5)), sample.Unit(sample.New(5))
	irrun.Run(a, nil, 99)
	if !reflect.DeepEqual(a, b) {
		t.Error("R3: written into")
	}
	u, in := unit([]api.Block{block(back(1), read(1), load(2, 0), two(2, api.OpAdd, 1, 2), store(0, 2), print(2))}), []int{4, 5}
	first := irrun.Run(u, in[:1], 99)
	first.Out[0] = 8
	if got := irrun.Run(u, in[:1], 99); !slices.Equal(got.Out, []int{4}) || !slices.Equal(in, []int{4, 5}) {
		t.Error("R4: a run that knows of another one", got)
	}
}
