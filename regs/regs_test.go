package regs_test

import (
	"reflect"
	"slices"
	"testing"

	"counterproof/api"
	"counterproof/flow"
	"counterproof/ir"
	"counterproof/irrun"
	"counterproof/lower"
	"counterproof/regs"
	"counterproof/sample"
)

func num(d, n int) api.Ins          { return api.Ins{Kind: api.InsNum, D: d, N: n} }
func move(d, a int) api.Ins         { return api.Ins{Kind: api.InsMove, D: d, A: a} }
func add(d, a, b int) api.Ins       { return api.Ins{Kind: api.InsTwo, D: d, Op: api.OpAdd, A: a, B: b} }
func print(a int) api.Ins           { return api.Ins{Kind: api.InsPrint, A: a} }
func jump(to int) api.Term          { return api.Term{Kind: api.TermJump, To: to} }
func choose(a, to, or int) api.Term { return api.Term{Kind: api.TermIf, A: a, To: to, Else: or} }
func back(a int) api.Term           { return api.Term{Kind: api.TermReturn, A: a} }
func block(end api.Term, list ...api.Ins) api.Block {
	return api.Block{Ins: list, Term: end}
}
func function(params, values int, b ...api.Block) api.Flow {
	return api.Flow{Name: "main", Params: params, Values: values, Blocks: b}
}

// pairs are the values that meet, by the words of the document.
func pairs(f api.Flow) map[[2]int]bool {
	out := map[[2]int]bool{}
	put := func(v, w int) {
		if v != w {
			out[[2]int{v, w}], out[[2]int{w, v}] = true, true
		}
	}
	live := flow.Live(f)
	for b, x := range f.Blocks {
		after := flow.After(f, b)
		for _, list := range append(after, live[b]) {
			for _, v := range list {
				for _, w := range list {
					put(v, w)
				}
			}
		}
		for i, in := range x.Ins {
			for _, v := range after[i] {
				if d := ir.Sets(in); d >= 0 {
					put(d, v)
				}
			}
		}
	}
	for v := range min(f.Params, f.Values) {
		for w := range min(f.Params, f.Values) {
			if len(live) > 0 && slices.Contains(live[0], v) {
				put(v, w)
			}
		}
	}
	return out
}

// TestFits: G1, by functions of which it is told which values meet.
func TestFits(t *testing.T) {
	for i, c := range []struct {
		f    api.Flow
		meet [][2]int
	}{
		{function(1, 2, block(back(1), add(1, 0, 0))), nil},
		{function(0, 3, block(back(2), num(0, 1), num(1, 2), add(2, 0, 1))), [][2]int{{0, 1}}},
		// what nobody wants is set all the same
		{function(0, 2, block(back(0), num(0, 1), num(1, 2))), [][2]int{{0, 1}}},
		{function(0, 2, block(back(1), num(0, 1), num(1, 2))), nil},
		{function(0, 2, block(back(1), move(1, 0), print(0))), [][2]int{{0, 1}}},
		// Params are brought to their places
		{function(3, 4, block(back(1))), [][2]int{{0, 1}, {1, 2}}},
		{function(3, 4, block(back(3))), nil},
		{function(3, 4, block(back(3), num(1, 5))), [][2]int{{1, 3}}},
		{function(2, 2, block(back(0), num(0, 1)), block(back(1))), nil},
		// wanted at the beginning
		{function(0, 3, block(back(0), print(1), print(2))), [][2]int{{0, 1}, {0, 2}, {1, 2}}},
		// wanted in blocks that are not come to
		{function(0, 3, block(back(0), num(0, 1)), block(back(2), print(1))), [][2]int{{1, 2}}},
		{function(0, 3, block(back(0), num(0, 1)), block(choose(1, 2, 2)), block(choose(2, 1, 1))), [][2]int{{1, 2}}},
		// over several blocks
		{function(0, 4, block(choose(0, 1, 2), num(0, 1), num(1, 2)), block(jump(3), num(2, 3)), block(jump(3), num(3, 3)), block(back(1))), [][2]int{{0, 1}, {1, 2}, {1, 3}}},
		{function(0, 0, block(jump(0))), nil}, {function(0, 3), nil}, {function(3, 3), nil},
	} {
		meet := map[[2]int]bool{}
		for _, p := range c.meet {
			meet[p] = true
		}
		apart := make([]int, c.f.Values)
		for v := range apart {
			apart[v] = v - 1
		}
		if !regs.Fits(c.f, apart) {
			t.Error("G1: all apart", i)
		}
		for v := range c.f.Values {
			for w := range v {
				places := slices.Clone(apart)
				places[v] = places[w]
				if regs.Fits(c.f, places) == meet[[2]int{w, v}] {
					t.Error("G1: of one place", i, w, v)
				}
			}
		}
		for _, places := range [][]int{append(slices.Clone(apart), 77), apart[:max(0, len(apart)-1)]} {
			if len(places) != c.f.Values && regs.Fits(c.f, places) {
				t.Error("G1: so many places", i, places)
			}
		}
	}
}

// wrong are functions of which nothing is told.
func wrong() []api.Flow {
	return []api.Flow{
		function(0, -1), function(0, 50001), function(0, 2, block(back(2))), function(0, 2, block(back(0), num(2, 1))), function(0, 2, block(back(0), print(2))), function(0, 2, block(choose(5, 0, 0))), function(0, 2, block(api.Term{Kind: api.TermTrap, A: 2})), function(0, 2, block(jump(1))), function(0, 2, block(back(-1))), function(0, 2, block(back(0), num(-1, 1))), function(0, 60000, block(back(55000))), function(0, 2, block(back(0), api.Ins{Kind: api.InsCall, Args: []int{0, 2}})), function(0, 0, block(back(0))), function(0, 0, block(jump(0), num(0, 1))), function(0, 0, block(jump(0), api.Ins{Kind: api.InsPrint})),
	}
}

func TestWrong(t *testing.T) {
	for i, f := range wrong() {
		if f.Values >= 0 && regs.Fits(f, make([]int, f.Values)) || regs.Fits(f, nil) {
			t.Error("G1: may not be", i)
		}
		if got := regs.Alloc(f, 5); len(got) > 0 {
			t.Error("G2: may not be", i, got)
		}
	}
	f := function(0, 1, block(back(0)))
	for _, n := range []int{-1, 33, 1 << 62, -1 << 63} {
		if got := regs.Alloc(f, n); len(got) > 0 {
			t.Error("G2: so many registers", n, got)
		}
	}
	for _, n := range []int{0, 1, 32} {
		if got := regs.Alloc(f, n); len(got) != 1 {
			t.Error("G2: so many registers", n, got)
		}
	}
	for _, n := range []int{0, 3} {
		if got := regs.Alloc(function(n, n), 2); len(got) != n {
			t.Error("G2: no blocks", got)
		}
	}
	most := function(0, 50000, block(back(0)))
	if got := regs.Alloc(most, 1); len(got) != 50000 || !regs.Fits(most, got) {
		t.Error("G2: the most values", len(got))
	}
	odd := function(1<<40, 2, block(back(0)))
	if got := regs.Alloc(odd, 4); !regs.Fits(odd, got) || regs.Fits(odd, []int{3, 3}) {
		t.Error("G2: more Params than values", got)
	}
	if got := regs.Alloc(function(-5, 2, block(back(0))), 4); len(got) != 2 {
		t.Error("G2: Params below 0", got)
	}
}

func TestSlots(t *testing.T) {
	for i, c := range []struct {
		places []int
		want   int
	}{{nil, 0}, {[]int{0, 5}, 0}, {[]int{-1}, 1}, {[]int{3, -2, -7, 4, -1}, 7}, {[]int{-1 << 62}, 1 << 62}} {
		if n := regs.Slots(c.places); n != c.want {
			t.Error("G1: Slots", i, n)
		}
	}
	regs.Slots([]int{-1 << 63})
}

func TestAlloc(t *testing.T) {
	f := function(1, 2, block(back(1), add(1, 0, 0)))
	if got := regs.Alloc(f, 1); regs.Slots(got) != 0 || !regs.Fits(f, got) {
		t.Error("G2: one register is enough", got)
	}
	var all []api.Flow
	d := sample.New(27)
	for range 400 {
		all = append(all, sample.Unit(d).Flows...)
	}
	for range 60 {
		u, err := lower.Lower(sample.Prog(d))
		if err != api.OK {
			t.Fatal(err)
		}
		all = append(all, u.Flows...)
	}
	for _, f := range all {
		meet := pairs(f)
		for _, n := range []int{0, 1, 2, 5, 18, 32} {
			places := regs.Alloc(f, n)
			if len(places) != f.Values || !regs.Fits(f, places) || regs.Slots(places) > f.Values {
				t.Fatal("G2: do not fit", f, n, places)
			}
			for v, p := range places {
				if p >= n || p < -f.Values || n == 0 && p >= 0 {
					t.Fatal("G2, G4: a place", f, n, places)
				}
				for w := range v {
					if meet[[2]int{v, w}] && places[w] == p {
						t.Fatal("G2: two that meet", f, n, places)
					}
				}
			}
			if !slices.Equal(places, regs.Alloc(f, n)) {
				t.Fatal("G4: told otherwise", f, n)
			}
		}
		// Fits is G1, of places made by chance
		places := make([]int, f.Values)
		for range 4 {
			fits := true
			for v := range places {
				places[v] = d.Roll(3*f.Values) - f.Values
				for w := range v {
					fits = fits && (places[v] != places[w] || !meet[[2]int{v, w}])
				}
			}
			if regs.Fits(f, places) != fits {
				t.Fatal("G1: Fits", f, places)
			}
		}
	}
}

// kept is a unit whose values stand at their places, behind what the function is called with.
func kept(u api.Unit, registers int) api.Unit {
	out := api.Unit{Arrays: u.Arrays}
	for _, f := range u.Flows {
		places := regs.Alloc(f, registers)
		at := func(v int) int {
			if p := places[v]; p < 0 {
				return f.Params + registers - 1 - p
			}
			return f.Params + places[v]
		}
		g := api.Flow{Name: f.Name, Params: f.Params, Values: f.Params + registers + regs.Slots(places), Blocks: []api.Block{{Term: jump(1)}}}
		for v := range f.Params {
			g.Blocks[0].Ins = append(g.Blocks[0].Ins, move(at(v), v))
		}
		for _, b := range f.Blocks {
			var c api.Block
			for _, x := range b.Ins {
				if ir.Sets(x) >= 0 {
					x.D = at(x.D)
				}
				if n := len(ir.Uses(x)); n > 0 && x.Kind != api.InsCall {
					x.A = at(x.A)
					if n > 1 {
						x.B = at(x.B)
					}
				}
				x.Args = slices.Clone(x.Args)
				for i, v := range x.Args {
					x.Args[i] = at(v)
				}
				c.Ins = append(c.Ins, x)
			}
			c.Term = b.Term
			if c.Term.Kind != api.TermJump {
				c.Term.A = at(c.Term.A)
			}
			if c.Term.Kind == api.TermJump || c.Term.Kind == api.TermIf {
				c.Term.To++
			}
			if c.Term.Kind == api.TermIf {
				c.Term.Else++
			}
			g.Blocks = append(g.Blocks, c)
		}
		out.Flows = append(out.Flows, g)
	}
	return out
}

// TestTheorem: G3.
func TestTheorem(t *testing.T) {
	d := sample.New(28)
	ended := 0
	for range 1500 {
		u, in := sample.Unit(d), d.Numbers(3)
		v := kept(u, d.Roll(5))
		if err, at := ir.Check(v); err != api.OK {
			t.Fatal(err, at)
		}
		a, b := irrun.Run(u, in, 80), irrun.Run(v, in, 2000)
		if a.Status != api.StatGoing {
			ended++
			if a.Status != b.Status || a.Code != b.Code || !slices.Equal(a.Out, b.Out) {
				t.Fatal("G3:", a, b, u)
			}
		} else if len(a.Out) > len(b.Out) || !slices.Equal(a.Out, b.Out[:len(a.Out)]) {
			t.Fatal("G3:", a, b, u)
		}
	}
	if ended < 500 {
		t.Error("too few that end", ended)
	}
}

// TestMemory: R3.
func TestMemory(t *testing.T) {
	a, b := sample.Unit(sample.New(9)).Flows[0], sample.Unit(sample.New(9)).Flows[0]
	got := regs.Alloc(a, 3)
	want := slices.Clone(got)
	regs.Fits(a, got)
	if !reflect.DeepEqual(a, b) || !slices.Equal(got, want) {
		t.Error("R3: written into")
	}
	for i := range got {
		got[i] = 99
	}
	if !slices.Equal(regs.Alloc(a, 3), want) {
		t.Error("R3: kept")
	}
}
