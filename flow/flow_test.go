package flow_test

import (
	"reflect"
	"slices"
	"testing"

	"counterproof/api"
	"counterproof/flow"
	"counterproof/ir"
	"counterproof/irrun"
	"counterproof/sample"
)

func num(d, n int) api.Ins          { return api.Ins{Kind: api.InsNum, D: d, N: n} }
func move(d, a int) api.Ins         { return api.Ins{Kind: api.InsMove, D: d, A: a} }
func add(d, a, b int) api.Ins       { return api.Ins{Kind: api.InsTwo, D: d, Op: api.OpAdd, A: a, B: b} }
func jump(to int) api.Term          { return api.Term{Kind: api.TermJump, To: to} }
func choose(a, to, or int) api.Term { return api.Term{Kind: api.TermIf, A: a, To: to, Else: or} }
func back(a int) api.Term           { return api.Term{Kind: api.TermReturn, A: a} }
func block(end api.Term, list ...api.Ins) api.Block {
	return api.Block{Ins: list, Term: end}
}
func function(b ...api.Block) api.Flow { return api.Flow{Name: "main", Values: 9, Blocks: b} }

// alike compares lists of lists, where one without elements is one without elements.
func alike(a, b [][]int) bool { return slices.EqualFunc(a, b, slices.Equal[[]int]) }

func TestTold(t *testing.T) {
	many := function(block(choose(0, 2, 1), num(1, 5)), block(back(2), add(2, 3, 3)), block(jump(3), move(4, 1)), block(choose(5, 2, 4), add(1, 1, 4), num(5, 0), num(3, 1)), block(jump(1)), block(jump(5), move(7, 8)))
	for i, c := range []struct {
		f     api.Flow
		reach []bool
		live  [][]int
		all   [][][]int
	}{
		{function(block(back(1), move(1, 0))), []bool{true}, [][]int{{0}}, [][][]int{{{1}, {1}}}},
		{function(block(back(0))), []bool{true}, [][]int{{0}}, [][][]int{{{0}}}},
		{function(block(back(0), num(0, 1), num(0, 2), move(1, 0))), []bool{true}, [][]int{nil}, [][][]int{{nil, {0}, {0}, {0}}}},
		{function(block(api.Term{Kind: api.TermTrap, A: 3}, api.Ins{Kind: api.InsStore, A: 2, B: 1}, api.Ins{Kind: api.InsPrint, A: 2}, api.Ins{Kind: api.InsCall, D: 2, Args: []int{4, 0}}, api.Ins{Kind: api.InsRead, D: 3})), []bool{true}, [][]int{{0, 1, 2, 4}}, [][][]int{{{0, 2, 4}, {0, 4}, nil, {3}, {3}}}},
		{function(block(jump(0), add(1, 1, 2))), []bool{true}, [][]int{{1, 2}}, [][][]int{{{1, 2}, {1, 2}}}},
		{function(block(back(1)), block(back(2))), []bool{true, false}, [][]int{{1}, {2}}, [][][]int{{{1}}, {{2}}}},
		{function(block(api.Term{})), []bool{true}, [][]int{nil}, [][][]int{{nil}}},
		{function(block(api.Term{Kind: 9, A: 4, To: 7}, api.Ins{Kind: 77, D: -1, A: 5, Args: []int{-1}})), []bool{true}, [][]int{nil}, [][][]int{{nil, nil}}},
		{function(), nil, nil, nil},
		{many, []bool{true, true, true, true, true, false}, [][]int{{0, 3}, {3}, {1}, {1, 4}, {3}, {8}}, [][][]int{{{0, 1, 3}, {0, 1, 3}}, {{2}, {2}}, {{1, 4}, {1, 4}}, {{1}, {1, 5}, {1, 3, 5}, {1, 3, 5}}, {{3}}, {{8}, {8}}}},
	} {
		if got := flow.Reach(c.f); !slices.Equal(got, c.reach) {
			t.Error("W1: Reach", i, got)
		}
		if got := flow.Live(c.f); !alike(got, c.live) {
			t.Error("W1: Live", i, got)
		}
		all := flow.All(c.f)
		if len(all) != len(c.all) {
			t.Fatal("W2: All", i, all)
		}
		for b := range c.all {
			if !alike(all[b], c.all[b]) || !alike(flow.After(c.f, b), c.all[b]) {
				t.Error("W2: After", i, b, all[b], flow.After(c.f, b))
			}
		}
		for _, b := range []int{-1, len(c.f.Blocks), 1 << 62} {
			if got := flow.After(c.f, b); len(got) > 0 {
				t.Error("W2: no such block", i, b, got)
			}
		}
	}
}

func TestWrong(t *testing.T) {
	for i, b := range []api.Block{
		block(jump(2)), block(jump(-1)), block(choose(0, 2, 0)), block(choose(0, 0, 2)), block(choose(0, 0, -1)), block(choose(-1, 0, 0)), block(choose(50000, 0, 0)), block(back(-1)), block(back(50000)), block(api.Term{Kind: api.TermTrap, A: -1}),
		block(back(0), num(-1, 0)), block(back(0), num(50000, 0)), block(back(0), move(0, -1)), block(back(0), move(0, 50000)), block(back(0), add(0, 0, -1)), block(back(0), api.Ins{Kind: api.InsStore, B: -1}), block(back(0), api.Ins{Kind: api.InsPrint, A: 50000}), block(back(0), api.Ins{Kind: api.InsCall, D: -5}), block(back(0), api.Ins{Kind: api.InsCall, Args: []int{0, 50000}}), block(back(0), api.Ins{Kind: api.InsRead, D: -1 << 63}), block(back(0), api.Ins{Kind: api.InsLoad, A: 1<<63 - 1}),
	} {
		f := function(block(back(0)), b)
		if len(flow.Reach(f)) > 0 || len(flow.Live(f)) > 0 || len(flow.After(f, 0)) > 0 || len(flow.All(f)) > 0 {
			t.Error("W1, W2: may not be:", i)
		}
	}
	for i, b := range []api.Block{block(choose(49999, 1, 1), num(49999, 0), api.Ins{Kind: api.InsStore, D: -1, N: -5, Args: []int{-1}}, api.Ins{Kind: api.InsNum, A: -1, B: 99999}, api.Ins{Kind: api.InsPrint, D: 99999, B: -1}), block(api.Term{Kind: api.TermJump, A: -1, To: 1, Else: 9}), block(api.Term{Kind: api.TermReturn, To: 99, Else: -5})} {
		f := function(block(back(0)), b)
		if len(flow.Reach(f)) != 2 || len(flow.Live(f)) != 2 || len(flow.After(f, 1)) != len(b.Ins)+1 || len(flow.All(f)) != 2 {
			t.Error("W1, W2: may be:", i)
		}
	}
}

// others are the values that are wanted, by the words of the document, over and over until nothing is added: ahead of each instruction, and of the end.
func others(f api.Flow) [][]map[int]bool {
	ahead := make([][]map[int]bool, len(f.Blocks))
	for b := range f.Blocks {
		for range len(f.Blocks[b].Ins) + 1 {
			ahead[b] = append(ahead[b], map[int]bool{})
		}
	}
	for changed := true; changed; {
		changed = false
		for b, x := range f.Blocks {
			for i := len(x.Ins); i >= 0; i-- {
				for v := range f.Values {
					want := false
					if i == len(x.Ins) {
						want = x.Term.Kind != api.TermJump && x.Term.A == v
						for _, to := range ir.Next(x.Term) {
							want = want || ahead[to][0][v]
						}
					} else {
						want = slices.Contains(ir.Uses(x.Ins[i]), v) || ir.Sets(x.Ins[i]) != v && ahead[b][i+1][v]
					}
					if want && !ahead[b][i][v] {
						ahead[b][i][v], changed = true, true
					}
				}
			}
		}
	}
	return ahead
}

func rising(s map[int]bool, values int) []int {
	var out []int
	for v := range values {
		if s[v] {
			out = append(out, v)
		}
	}
	return out
}

func TestRandom(t *testing.T) {
	d := sample.New(23)
	for range 500 {
		for _, f := range sample.Unit(d).Flows {
			ahead := others(f)
			live, all := flow.Live(f), flow.All(f)
			if len(live) != len(f.Blocks) || len(all) != len(f.Blocks) {
				t.Fatal("W1, W2: so many", len(live), len(all))
			}
			for b, x := range f.Blocks {
				if !slices.Equal(live[b], rising(ahead[b][0], f.Values)) {
					t.Fatal("W1: Live", f, b, live[b])
				}
				after := flow.After(f, b)
				if !alike(after, all[b]) || len(after) != len(x.Ins)+1 {
					t.Fatal("W2: All is not After", f, b)
				}
				for i := range after {
					if !slices.Equal(after[i], rising(ahead[b][min(i+1, len(x.Ins))], f.Values)) {
						t.Fatal("W2: After", f, b, i, after[i])
					}
				}
			}
			reach, come := flow.Reach(f), map[int]bool{0: true}
			for range f.Blocks {
				for b := range f.Blocks {
					for _, to := range ir.Next(f.Blocks[b].Term) {
						come[to] = come[to] || come[b]
					}
				}
			}
			for b := range f.Blocks {
				if reach[b] != come[b] {
					t.Fatal("W1: Reach", f, b)
				}
			}
		}
	}
}

// TestTheorem: W3: a value that is not wanted at a block's beginning may be anything there.
func TestTheorem(t *testing.T) {
	d := sample.New(24)
	for range 400 {
		u, in := sample.Unit(d), d.Numbers(3)
		before := irrun.Run(u, in, 60)
		k := d.Roll(len(u.Flows))
		f := &u.Flows[k]
		live := flow.Live(*f)
		for b := range f.Blocks {
			for v := range f.Values {
				if !slices.Contains(live[b], v) && d.Once(2) {
					f.Blocks[b].Ins = append([]api.Ins{num(v, d.Number())}, f.Blocks[b].Ins...)
				}
			}
		}
		after := irrun.Run(u, in, 60*32)
		if before.Status != api.StatGoing && (after.Status != before.Status || after.Code != before.Code || !slices.Equal(after.Out, before.Out)) || len(after.Out) < len(before.Out) || !slices.Equal(after.Out[:len(before.Out)], before.Out) {
			s, _ := ir.Print(u)
			t.Fatal("W3:", s, before, after)
		}
	}
}

// TestLarge: much that is wanted for long is told soon.
func TestLarge(t *testing.T) {
	var blocks []api.Block
	const n = 4000
	for i := range n {
		b := block(choose(i%40, (i*7+1)%n, (i+1)%n), add(i%40, (i+1)%40, (i+2)%40))
		blocks = append(blocks, b)
	}
	if live := flow.Live(function(blocks...)); len(live) != n || len(live[0]) != 39 {
		t.Error("W1: many blocks", len(live))
	}
}

// TestMemory: R3.
func TestMemory(t *testing.T) {
	a, b := sample.Unit(sample.New(6)).Flows[0], sample.Unit(sample.New(6)).Flows[0]
	all, live := flow.All(a), flow.Live(a)
	want, begin := flow.All(b), flow.Live(b)
	for i := range all {
		for k := range all[i] {
			_ = append(all[i][k], 99)
		}
		_ = append(live[i], 99)
		_ = append(all[i], nil)
	}
	if !reflect.DeepEqual(a, b) || !reflect.DeepEqual(live, begin) || !reflect.DeepEqual(all, want) {
		t.Error("R3: written into, or shared")
	}
	all[0][0] = append(all[0][0][:0], 77)
	if !reflect.DeepEqual(flow.All(a), want) {
		t.Error("R3: kept")
	}
}
