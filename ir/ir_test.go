package ir_test

import (
	"reflect"
	"regexp"
	"slices"
	"strconv"
	"strings"
	"testing"

	"counterproof/api"
	"counterproof/arith"
	"counterproof/ir"
	"counterproof/sample"
)

// shapes tells what instructions have: D, A, B, N, one or two of an operator, an array's name, a function's.
var shapes = map[int]string{api.InsNum: "DN", api.InsMove: "DA", api.InsOne: "DA1", api.InsTwo: "DAB2", api.InsLoad: "DA[", api.InsStore: "AB[", api.InsRead: "D", api.InsPrint: "A", api.InsCall: "D("}

// made is a right instruction of a kind, in a function of 9 values, where there are an array a and a function f of two.
func made(kind int) api.Ins {
	x := api.Ins{Kind: kind}
	for _, c := range shapes[kind] {
		switch c {
		case 'D':
			x.D = 3
		case 'A':
			x.A = 4
		case 'B':
			x.B = 5
		case 'N':
			x.N = -7
		case '1':
			x.Op = api.OpNot
		case '2':
			x.Op = api.OpShl
		case '[':
			x.Name = "a"
		case '(':
			x.Name, x.Args = "f", []int{6, 7}
		}
	}
	return x
}

func back(a int) api.Term { return api.Term{Kind: api.TermReturn, A: a} }

// unit is a unit with these instructions in main's second block, and these ends behind it.
func unit(list []api.Ins, ends ...api.Term) api.Unit {
	main := api.Flow{Name: "main", Values: 9, Blocks: []api.Block{{Term: back(0)}, {Ins: list, Term: back(8)}}}
	for _, t := range ends {
		main.Blocks = append(main.Blocks, api.Block{Term: t})
	}
	f := api.Flow{Name: "f", Params: 2, Values: 2, Blocks: []api.Block{{Term: back(1)}}}
	return api.Unit{Arrays: []api.Array{{Name: "a", Size: 1}, {Name: "b", Size: 1 << 20}}, Flows: []api.Flow{f, main}}
}

func TestParts(t *testing.T) {
	for kind := -1; kind <= 10; kind++ {
		x := api.Ins{Kind: kind, D: 3, A: 4, B: 5, Op: 6, N: 7, Name: "q", Args: []int{8, 2, 8}}
		var uses []int
		sets := -1
		for _, c := range shapes[kind] {
			switch c {
			case 'D':
				sets = 3
			case 'A':
				uses = append(uses, 4)
			case 'B':
				uses = append(uses, 5)
			case '(':
				uses = append(uses, 8, 2, 8)
			}
		}
		if got := ir.Uses(x); !slices.Equal(got, uses) {
			t.Error("F1: Uses", kind, got, uses)
		} else if len(got) > 0 { // R3
			for i := range got {
				got[i] = 99
			}
			_ = append(got[:0], 77, 77, 77)
			if !slices.Equal(x.Args, []int{8, 2, 8}) {
				t.Error("R3: Uses is what was handed in")
			}
		}
		if got := ir.Sets(x); got != sets {
			t.Error("F1: Sets", kind, got, sets)
		}
	}
	for i, c := range []struct {
		term api.Term
		want []int
	}{
		{api.Term{}, nil}, {api.Term{Kind: api.TermJump, To: 3, Else: 4}, []int{3}}, {api.Term{Kind: api.TermIf, To: 3, Else: 4}, []int{3, 4}}, {api.Term{Kind: api.TermIf, To: 4, Else: 3}, []int{4, 3}}, {api.Term{Kind: api.TermIf, To: 4, Else: 4}, []int{4}}, {api.Term{Kind: api.TermReturn, To: 3, Else: 4}, nil}, {api.Term{Kind: api.TermTrap, To: 3, Else: 4}, nil}, {api.Term{Kind: 5, To: 3}, nil}, {api.Term{Kind: -1, To: 3}, nil},
	} {
		if got := ir.Next(c.term); !slices.Equal(got, c.want) {
			t.Error("F1: Next", i, got, c.want)
		}
	}
	u := api.Unit{Flows: []api.Flow{{Name: "a"}, {Name: "b"}, {Name: "a"}}}
	if ir.Place(u, "a") != 0 || ir.Place(u, "b") != 1 || ir.Place(u, "c") != -1 || ir.Place(api.Unit{}, "") != -1 {
		t.Error("F1: Place")
	}
}

func told(t *testing.T, what string, u api.Unit, want api.Errno, at [2]int) {
	t.Helper()
	if err, k := ir.Check(u); err != want || k != at {
		t.Error("F2:", what, "told", err, k, "not", want, at)
	}
	if s, err := ir.Print(u); (err == api.OK) != (want == api.OK) || err != api.OK && (err != api.ErrArg || s != "") {
		t.Error("F3:", what, s, err)
	}
}

func TestNames(t *testing.T) {
	told(t, "right", unit(nil), api.OK, [2]int{})
	told(t, "nothing", api.Unit{}, api.ErrArg, [2]int{})
	for _, s := range []string{"", "9", "if", "a b", strings.Repeat("a", 21), "main", "f", "b"} {
		u := unit(nil)
		u.Arrays[0].Name = s
		told(t, "an array "+s, u, api.ErrArg, [2]int{})
		u = unit(nil)
		u.Flows = append(u.Flows, api.Flow{Name: s})
		told(t, "a function "+s, u, api.ErrArg, [2]int{})
	}
	for _, n := range []int{0, -1, 1<<20 + 1} {
		u := unit(nil)
		u.Arrays[1].Size = n
		told(t, "a size", u, api.ErrArg, [2]int{})
	}
	u := unit([]api.Ins{{}})
	u.Flows[1].Name = "other"
	told(t, "no main", u, api.ErrArg, [2]int{})
	u = unit([]api.Ins{{}})
	u.Flows[1].Params = 1
	told(t, "main's params", u, api.ErrArg, [2]int{})
	u.Flows[1].Params = -1
	told(t, "main's params below 0", u, api.ErrFlow, [2]int{1, 0})
	u.Flows[0].Params = 7
	told(t, "f's params first", u, api.ErrFlow, [2]int{0, 0})
}

func TestSizes(t *testing.T) {
	for i, c := range []struct {
		change func(f *api.Flow)
		want   api.Errno
	}{
		{func(f *api.Flow) { f.Params, f.Values = 6, 6 }, api.OK}, {func(f *api.Flow) { f.Params, f.Values = 7, 7 }, api.ErrFlow}, {func(f *api.Flow) { f.Params = -1 }, api.ErrFlow}, {func(f *api.Flow) { f.Values = 1 }, api.ErrFlow}, {func(f *api.Flow) { f.Values = 50000 }, api.OK}, {func(f *api.Flow) { f.Values = 50001 }, api.ErrFlow}, {func(f *api.Flow) { f.Values = -1 }, api.ErrFlow},
		{func(f *api.Flow) { f.Blocks = nil }, api.ErrFlow}, {func(f *api.Flow) { f.Blocks = slices.Repeat(f.Blocks, 20000) }, api.OK}, {func(f *api.Flow) { f.Blocks = slices.Repeat(f.Blocks, 20001) }, api.ErrFlow},
		{func(f *api.Flow) { f.Blocks[0].Ins = slices.Repeat([]api.Ins{{Kind: api.InsRead}}, 200000) }, api.OK}, {func(f *api.Flow) { f.Blocks[0].Ins = slices.Repeat([]api.Ins{{Kind: api.InsRead}}, 200001) }, api.ErrFlow},
		{func(f *api.Flow) {
			f.Blocks = slices.Repeat([]api.Block{{Ins: slices.Repeat([]api.Ins{{Kind: api.InsRead}}, 100001), Term: back(0)}}, 2)
		}, api.ErrFlow},
		{func(f *api.Flow) {
			f.Blocks = append(f.Blocks, api.Block{Ins: []api.Ins{{}}})
			f.Params = -1
		}, api.ErrFlow},
	} {
		u := unit(nil)
		c.change(&u.Flows[0])
		told(t, "size "+strconv.Itoa(i), u, c.want, [2]int{})
	}
	u := unit(nil)
	u.Flows[0].Params = 7
	u.Flows[1].Blocks = nil
	told(t, "the first function", u, api.ErrFlow, [2]int{})
	u = unit(nil)
	u.Flows[1].Blocks = nil
	told(t, "no block", u, api.ErrFlow, [2]int{1, 0})
}

func TestInstructions(t *testing.T) {
	for kind, shape := range shapes {
		told(t, shape, unit([]api.Ins{made(kind)}), api.OK, [2]int{})
		wrong := func(what string, change func(x *api.Ins)) {
			x := made(kind)
			change(&x)
			told(t, shape+" "+what, unit([]api.Ins{made(api.InsRead), x}), api.ErrFlow, [2]int{1, 1})
		}
		for letter, field := range map[string]func(x *api.Ins) *int{"D": func(x *api.Ins) *int { return &x.D }, "A": func(x *api.Ins) *int { return &x.A }, "B": func(x *api.Ins) *int { return &x.B }} {
			if strings.Contains(shape, letter) {
				for _, n := range []int{-1, 9, 1 << 62} {
					wrong(letter, func(x *api.Ins) { *field(x) = n })
				}
				x := made(kind)
				*field(&x) = 8
				told(t, shape, unit([]api.Ins{x}), api.OK, [2]int{})
			} else {
				wrong("no "+letter, func(x *api.Ins) { *field(x) = 1 })
			}
		}
		if !strings.Contains(shape, "N") {
			wrong("no N", func(x *api.Ins) { x.N = 1 })
		}
		for op := -1; op <= 21; op++ {
			x := made(kind)
			x.Op = op
			want := op == 0
			if strings.Contains(shape, "1") {
				want = op >= api.OpNeg && op <= api.OpInv
			} else if strings.Contains(shape, "2") {
				want = op >= api.OpAdd && op <= api.OpNe
			}
			if want {
				told(t, shape, unit([]api.Ins{x}), api.OK, [2]int{})
			} else {
				wrong("Op "+strconv.Itoa(op), func(x *api.Ins) { x.Op = op })
			}
		}
		for _, name := range []string{"", "a", "b", "f", "main", "c"} {
			if strings.Contains(shape, "[") && (name == "a" || name == "b") || strings.Contains(shape, "(") && name == "f" || !strings.ContainsAny(shape, "[(") && name == "" {
				continue
			}
			wrong("Name "+name, func(x *api.Ins) { x.Name = name })
		}
		for _, args := range [][]int{{1}, {1, 2, 3}, {1, 9}, {-1, 0}, {}, {1, 2}} {
			fine := len(args) == 0
			if strings.Contains(shape, "(") {
				fine = len(args) == 2 && args[0] == 1 && args[1] == 2
			}
			if fine {
				continue
			}
			wrong("Args", func(x *api.Ins) { x.Args = args })
		}
	}
	for _, kind := range []int{0, -1, 10} {
		told(t, "kind", unit([]api.Ins{{Kind: kind}}), api.ErrFlow, [2]int{1, 1})
	}
	told(t, "a call of main", unit([]api.Ins{{Kind: api.InsCall, Name: "main"}}), api.OK, [2]int{})
	told(t, "the largest number", unit([]api.Ins{{Kind: api.InsNum, N: -1 << 63}}), api.OK, [2]int{})
}

func TestEnds(t *testing.T) {
	for i, c := range []struct {
		term api.Term
		want api.Errno
	}{
		{api.Term{Kind: api.TermJump, To: 2}, api.OK}, {api.Term{Kind: api.TermJump, To: 3}, api.ErrFlow}, {api.Term{Kind: api.TermJump, To: -1}, api.ErrFlow}, {api.Term{Kind: api.TermJump, A: 1}, api.ErrFlow}, {api.Term{Kind: api.TermJump, Else: 1}, api.ErrFlow},
		{api.Term{Kind: api.TermIf, A: 8, To: 2, Else: 1}, api.OK}, {api.Term{Kind: api.TermIf, A: 9}, api.ErrFlow}, {api.Term{Kind: api.TermIf, A: -1}, api.ErrFlow}, {api.Term{Kind: api.TermIf, To: 3}, api.ErrFlow}, {api.Term{Kind: api.TermIf, To: -1}, api.ErrFlow}, {api.Term{Kind: api.TermIf, Else: 3}, api.ErrFlow}, {api.Term{Kind: api.TermIf, Else: -1}, api.ErrFlow},
		{api.Term{Kind: api.TermReturn, A: 8}, api.OK}, {api.Term{Kind: api.TermReturn, A: 9}, api.ErrFlow}, {api.Term{Kind: api.TermReturn, A: -1}, api.ErrFlow}, {api.Term{Kind: api.TermReturn, To: 1}, api.ErrFlow}, {api.Term{Kind: api.TermReturn, Else: 1}, api.ErrFlow},
		{api.Term{Kind: api.TermTrap, A: 8}, api.OK}, {api.Term{Kind: api.TermTrap, A: 9}, api.ErrFlow}, {api.Term{Kind: api.TermTrap, To: 1}, api.ErrFlow}, {api.Term{}, api.ErrFlow}, {api.Term{Kind: 5}, api.ErrFlow}, {api.Term{Kind: -1}, api.ErrFlow},
	} {
		at := [2]int{}
		if c.want != api.OK {
			at = [2]int{1, 2}
		}
		told(t, "end "+strconv.Itoa(i), unit(nil, c.term), c.want, at)
	}
}

func TestPrint(t *testing.T) {
	u := unit([]api.Ins{made(1), made(2), made(3), made(4), made(5), made(6), made(7), made(8), made(9), {Kind: api.InsCall, D: 1, Name: "main"}, {Kind: api.InsOne, D: 1, A: 2, Op: api.OpNeg}}, api.Term{Kind: api.TermJump, To: 1}, api.Term{Kind: api.TermIf, A: 2, To: 1, Else: 3}, api.Term{Kind: api.TermTrap, A: 5})
	want := `array a 1
array b 1048576
func f 2 2
b0:
	return v1
func main 0 9
b0:
	return v0
b1:
	v3 = -7
	v3 = v4
	v3 = ! v4
	v3 = v4 << v5
	v3 = a[v4]
	a[v4] = v5
	v3 = read
	print v4
	v3 = f(v6, v7)
	v1 = main()
	v1 = - v2
	return v8
b2:
	jump b1
b3:
	if v2 b1 b3
b4:
	trap v5
`
	if s, err := ir.Print(u); s != want || err != api.OK {
		t.Errorf("F3: told %v\n%s", err, s)
	}
}

// TestTheorem: F4.
func TestTheorem(t *testing.T) {
	d := sample.New(19)
	texts := map[string]api.Unit{}
	values := regexp.MustCompile(`\bv[0-9]+`)
	for range 800 {
		u := sample.Unit(d)
		s, err := ir.Print(u)
		if err != api.OK {
			t.Fatal("F3:", err)
		}
		if other, ok := texts[s]; ok && !reflect.DeepEqual(u, other) {
			t.Fatal("F4: two of one text", s)
		}
		texts[s] = u
		lines := strings.Split(s, "\n")
		k := len(u.Arrays)
		for _, f := range u.Flows {
			k++
			for _, b := range f.Blocks {
				k++
				for _, x := range b.Ins {
					var names []int
					for _, v := range values.FindAllString(lines[k], -1) {
						n, _ := strconv.Atoi(v[1:])
						names = append(names, n)
					}
					want := ir.Uses(x)
					if ir.Sets(x) >= 0 {
						want = append([]int{ir.Sets(x)}, want...)
					}
					if !slices.Equal(names, want) {
						t.Fatal("F4: what the text names", lines[k], want)
					}
					k++
				}
				k++
			}
		}
	}
	// One field that is another one makes another text.
	one := unit([]api.Ins{made(4)})
	base, _ := ir.Print(one)
	for op := api.OpAdd; op <= api.OpNe; op++ {
		u := unit([]api.Ins{{Kind: api.InsTwo, D: 3, A: 4, B: 5, Op: op}})
		if s, _ := ir.Print(u); (s == base) != (op == api.OpShl) {
			t.Error("F4: operator", op)
		}
		if sign, _ := arith.Sign(op); sign == "" {
			t.Error("no sign", op)
		}
	}
}

// TestMemory: R3.
func TestMemory(t *testing.T) {
	a, b := sample.Unit(sample.New(4)), sample.Unit(sample.New(4))
	ir.Check(a)
	ir.Print(a)
	if !reflect.DeepEqual(a, b) {
		t.Error("R3: written into")
	}
}
