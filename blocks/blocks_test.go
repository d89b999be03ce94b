package blocks_test

import (
	"reflect"
	"slices"
	"strings"
	"testing"

	"counterproof/api"
	"counterproof/arith"
	"counterproof/asm"
	"counterproof/blocks"
	"counterproof/mach"
	"counterproof/sample"
)

// code is the code of a text whose lines are parted by semicolons.
func code(t *testing.T, s string) api.Code {
	t.Helper()
	c, err, line := asm.Parse(strings.ReplaceAll(s, ";", "\n"))
	if err != api.OK {
		t.Fatal(s, err, line)
	}
	return c
}

func alike(a, b [][]int) bool { return slices.EqualFunc(a, b, slices.Equal[[]int]) }

func TestTold(t *testing.T) {
	for _, c := range []struct {
		text     string
		split    [][2]int
		next     [][]int
		landings []int
	}{
		{"a: ;j a", [][2]int{{0, 1}}, [][]int{{0}}, nil},
		{"", nil, nil, nil}, {"a: ;b:", nil, nil, nil},
		{"ecall", [][2]int{{0, 1}}, [][]int{{1}}, nil},
		{"li x5, 1; mv x6, x5; ecall; add x5, x5, x6", [][2]int{{0, 4}}, [][]int{{1}}, nil},
		{"ret", [][2]int{{0, 1}}, [][]int{nil}, nil},
		{"j a; a:", [][2]int{{0, 1}}, [][]int{{1}}, nil},
		{"jal a; a:", [][2]int{{0, 1}}, [][]int{{1}}, []int{1}},
		{"jal a; a: ;ret", [][2]int{{0, 1}, {1, 2}}, [][]int{{1}, {1}}, []int{1}},
		{"li x5, 1; a: ;li x6, 1; b: ;li x7, 1; beq x5, x6, b; ecall", [][2]int{{0, 2}, {2, 4}, {4, 5}}, [][]int{{1}, {1, 2}, {3}}, nil},
		{"beq x0, x0, a; a: ;ecall", [][2]int{{0, 1}, {1, 2}}, [][]int{{1}, {2}}, nil},
		{"a: ;bne x0, x0, a", [][2]int{{0, 1}}, [][]int{{0, 1}}, nil},
		{"blt x0, x0, e; bge x1, x2, a; a: ;j e; e:", [][2]int{{0, 1}, {1, 2}, {2, 3}}, [][]int{{1, 3}, {2}, {3}}, nil},
		{"jal f; jal f; j e; f: ;ret; g: ;ret; e: ;jal f", [][2]int{{0, 1}, {1, 2}, {2, 3}, {3, 4}, {4, 5}, {5, 6}}, [][]int{{3}, {3}, {5}, {1, 2, 6}, {1, 2, 6}, {3}}, []int{1, 2, 6}},
		{".array a 1; la x5, a; a: ;la x6, a; li x7, 3", [][2]int{{0, 3}}, [][]int{{1}}, nil},
		{"j b; a: ;li x5, 1; b: ;li x6, 1; j a", [][2]int{{0, 1}, {1, 2}, {2, 4}}, [][]int{{2}, {2}, {1}}, nil},
	} {
		x := code(t, c.text)
		if got := blocks.Split(x); !slices.Equal(got, c.split) {
			t.Error("B1:", c.text, got)
		}
		if got := blocks.Next(x); !alike(got, c.next) {
			t.Error("B3:", c.text, got)
		}
		if got := blocks.Landings(x); !slices.Equal(got, c.landings) {
			t.Error("B2:", c.text, got)
		}
	}
	for i, c := range []api.Code{{Lines: []api.Line{{In: api.Instr{Op: api.InRet}}, {}}}, {Lines: []api.Line{{In: api.Instr{Op: api.InJal, Name: "a"}}}}, {Arrays: []api.Array{{}}, Lines: []api.Line{{In: api.Instr{Op: api.InRet}}}}, {Lines: slices.Repeat([]api.Line{{In: api.Instr{Op: api.InRet}}}, 40001)}} {
		if len(blocks.Split(c)) > 0 || len(blocks.Next(c)) > 0 || len(blocks.Landings(c)) > 0 {
			t.Error("B1 to B3: of code with an error", i)
		}
	}
}

func turns(op int) bool {
	return slices.Contains([]int{api.InBeq, api.InBne, api.InBlt, api.InBge, api.InJ, api.InJal, api.InRet}, op)
}

// walk are the places at which a run is, one behind the other.
func walk(c api.Code, in []int, steps int) []int {
	list, to := asm.Flat(c)
	ops := map[int]int{api.InAdd: api.OpAdd, api.InSub: api.OpSub, api.InMul: api.OpMul, api.InAnd: api.OpAnd, api.InOr: api.OpOr, api.InXor: api.OpXor, api.InSll: api.OpShl, api.InSra: api.OpShr, api.InSlt: api.OpLt, api.InSeqz: api.OpEq, api.InSnez: api.OpNe}
	x, words, at, out := [32]int{2: 1 << 30}, map[int]int{}, 0, []int(nil)
	for range steps {
		x[0] = 0
		out = append(out, at)
		if at == len(list) {
			return out
		}
		i, a, b, d := list[at], x[list[at].A], x[list[at].B], &x[list[at].D]
		at++
		switch i.Op {
		case api.InDiv:
			*d = arith.Div(a, b)
		case api.InRem:
			*d = arith.Rem(a, b)
		case api.InSltu:
			*d = 0
			if arith.Less(a, b) {
				*d = 1
			}
		case api.InMv, api.InAddi:
			*d = a + i.N
		case api.InLi:
			*d = i.N
		case api.InLa:
			*d = mach.Addr(c, i.Name)
		case api.InLd, api.InSd:
			k := mach.Where(c, a+i.N)
			if k < 0 {
				return out
			}
			if i.Op == api.InLd {
				*d = words[k]
			} else {
				words[k] = b
			}
		case api.InJal:
			x[1], at = 4*at, to[at-1]
		case api.InJ:
			at = to[at-1]
		case api.InBeq, api.InBne, api.InBlt, api.InBge:
			if map[int]bool{api.InBeq: a == b, api.InBne: a != b, api.InBlt: a < b, api.InBge: a >= b}[i.Op] {
				at = to[at-1]
			}
		case api.InRet:
			k := x[1] / 4
			if x[1]%4 != 0 || k < 1 || k > len(list) || list[k-1].Op != api.InJal {
				return out
			}
			at = k
		case api.InCall:
			switch x[17] {
			case api.CallPrint:
			case api.CallRead:
				x[10] = -1
				if len(in) > 0 {
					x[10], in = in[0], in[1:]
				}
			default:
				return out
			}
		default:
			*d, _ = arith.Two(ops[i.Op], a, b)
		}
	}
	return out
}

// TestTheorem: B4, and B1 to B3 of code made by chance.
func TestTheorem(t *testing.T) {
	d := sample.New(34)
	moves := 0
	for range 3000 {
		c := sample.Code(d, 25)
		list, to := asm.Flat(c)
		split, next, landings := blocks.Split(c), blocks.Next(c), blocks.Landings(c)
		if len(next) != len(split) {
			t.Fatal("B3: so many", len(next), len(split))
		}
		block := make([]int, len(list)+1)
		block[len(list)] = len(split)
		end := 0
		for i, b := range split {
			if b[0] != end || b[1] <= b[0] {
				t.Fatal("B4: an instruction in no block, or in two", split)
			}
			end = b[1]
			for at := b[0]; at < b[1]; at++ {
				block[at] = i
				begins := at == 0 || slices.Contains(to, at) || turns(list[max(at-1, 0)].Op) && at > 0
				if begins != (at == b[0]) {
					t.Fatal("B1: a block begins", at, split)
				}
			}
		}
		if end != len(list) {
			t.Fatal("B4: an instruction in no block", split)
		}
		var behind []int
		for i, in := range list {
			if in.Op == api.InJal {
				behind = append(behind, i+1)
			}
		}
		if !slices.Equal(behind, landings) {
			t.Fatal("B2:", landings, behind)
		}
		for i, b := range split {
			var want []int
			switch last := list[b[1]-1]; {
			case last.Op == api.InRet:
				for _, at := range behind {
					want = append(want, block[at])
				}
			case last.Op == api.InJ || last.Op == api.InJal:
				want = []int{block[to[b[1]-1]]}
			case turns(last.Op):
				want = []int{block[to[b[1]-1]], block[b[1]]}
			default:
				want = []int{block[b[1]]}
			}
			slices.Sort(want)
			if want = slices.Compact(want); !slices.Equal(next[i], want) {
				t.Fatal("B3: Next", i, next[i], want)
			}
		}
		trail := walk(c, d.Numbers(3), 200)
		for i, at := range trail[1:] {
			from := trail[i]
			if from+1 == split[block[from]][1] {
				moves++
				if !slices.Contains(next[block[from]], block[at]) || at < len(list) && split[block[at]][0] != at {
					t.Fatal("B4: a run goes from", from, "to", at, split, next)
				}
			} else if at != from+1 {
				t.Fatal("B4: a run goes within a block from", from, "to", at)
			}
		}
	}
	if moves < 2000 {
		t.Error("too few moves", moves)
	}
}

// TestMemory: R3.
func TestMemory(t *testing.T) {
	a, b := sample.Code(sample.New(11), 30), sample.Code(sample.New(11), 30)
	split, next, landings := blocks.Split(a), blocks.Next(a), blocks.Landings(a)
	wantNext := blocks.Next(b)
	for i := range next {
		_ = append(next[i], 99)
		split[i] = [2]int{9, 9}
	}
	for i := range landings {
		landings[i] = 99
	}
	if !reflect.DeepEqual(a, b) || !alike(next, wantNext) || !slices.Equal(blocks.Split(a), blocks.Split(b)) || !slices.Equal(blocks.Landings(a), blocks.Landings(b)) {
		t.Error("R3: written into, or shared")
	}
}
