package mach_test

import (
	"fmt"
	"math/bits"
	"reflect"
	"slices"
	"strings"
	"testing"

	"counterproof/api"
	"counterproof/asm"
	"counterproof/mach"
	"counterproof/sample"
)

// code is the code of a text whose lines are parted by semicolons.
func code(t *testing.T, s string) api.Code {
	t.Helper()
	c, err, line := asm.Parse(strings.ReplaceAll(s, ";", "\n"))
	if err != api.OK {
		t.Fatal(s, err, line)
	}
	return c
}

func same(a, b api.Run) bool {
	return a.Status == b.Status && a.Code == b.Code && a.Steps == b.Steps && slices.Equal(a.Out, b.Out)
}

// asked is code that tells registers, and ends.
func asked(s string, regs ...string) string {
	s += "; li x17, 1"
	for _, r := range regs {
		s += "; mv x10, " + r + "; ecall"
	}
	return s + "; li x17, 3; li x10, 0; ecall"
}

const (
	least    = -1 << 63
	greatest = 1<<63 - 1
)

// TestNumbers: what instructions make of numbers.
func TestNumbers(t *testing.T) {
	for s, want := range map[string]int{
		"add 2 3": 5, "sub 2 3": -1, "mul -4 3": -12, "div -7 2": -3, "div 5 0": -1, "div -9223372036854775808 -1": least, "rem -7 2": -1, "rem 5 0": 5, "rem -9223372036854775808 -1": 0, "and 6 3": 2, "or 6 3": 7, "xor 6 3": 5, "sll 1 65": 2, "sll 1 -1": least, "sra -8 1": -4, "sra -8 127": -1, "slt -1 0": 1, "slt 0 -1": 0, "slt 3 3": 0, "sltu -1 0": 0, "sltu 0 -1": 1, "sltu 3 3": 0,
		"seqz 0": 1, "seqz -3": 0, "snez 0": 0, "snez 9": 1, "mv 77": 77, "add 9223372036854775807 1": least, "mul 4611686018427387904 4": 0,
	} {
		var name string
		var a, b int
		n, _ := fmt.Sscan(s, &name, &a, &b)
		text := fmt.Sprintf("li x5, %d; li x6, %d; %s x7, x5", a, b, name)
		if n == 3 {
			text += ", x6"
		}
		if got := mach.Run(code(t, asked(text, "x7")), nil, 99); got.Status != api.StatDone || !slices.Equal(got.Out, []int{want}) {
			t.Error("M2:", s, "told", got, "not", want)
		}
	}
	for s, want := range map[string][]int{
		"li x5, 9223372036854775807; addi x6, x5, 1; addi x7, x6, -1":        {greatest, least, greatest},
		"li x5, 1; addi x5, x5, 2047; addi x6, x0, -2047; mv x7, x0":         {2048, -2047, 0},
		"li x0, 5; addi x0, x0, 3; mv x5, x0; add x6, x0, x0; la x7, q":      {0, 0, 65536},
		"la x5, q; la x6, r; mv x7, x2":                                      {65536, 65560, 1 << 30},
		"mv x5, x31; mv x6, x17; mv x7, x1":                                  {0, 0, 0},
		"li x5, 3; sub x5, x5, x5; li x6, 4; mul x6, x6, x6; div x7, x6, x0": {0, 16, -1},
	} {
		if got := mach.Run(code(t, ".array q 3; .array r 1; "+asked(s, "x5", "x6", "x7")), nil, 99); got.Status != api.StatDone || !slices.Equal(got.Out, want) {
			t.Error("M2:", s, "told", got, "not", want)
		}
	}
}

func TestRun(t *testing.T) {
	for _, c := range []struct {
		text  string
		in    []int
		steps int
		want  api.Run
	}{
		{"li x17, 3; li x10, 7; ecall", nil, 99, api.Run{Status: api.StatDone, Code: 7, Steps: 3}},
		{"li x17, 3; li x10, 7; ecall", nil, 3, api.Run{Status: api.StatDone, Code: 7, Steps: 3}},
		{"li x17, 3; li x10, 7; ecall", nil, 2, api.Run{Steps: 2}},
		{"li x17, 3; li x10, 7; ecall", nil, 0, api.Run{}},
		{"li x17, 3; li x10, 7; ecall", nil, -9, api.Run{}},
		// no instruction there
		{"", nil, 9, api.Run{Status: api.StatFault}}, {"", nil, 0, api.Run{Status: api.StatFault}}, {"a:", nil, 9, api.Run{Status: api.StatFault}}, {"li x5, 1", nil, 9, api.Run{Status: api.StatFault, Steps: 1}}, {"li x5, 1", nil, 1, api.Run{Status: api.StatFault, Steps: 1}}, {"j a; li x5, 1; a:", nil, 9, api.Run{Status: api.StatFault, Steps: 1}},
		// ecalls
		{"ecall", nil, 9, api.Run{Status: api.StatFault, Steps: 1}}, {"li x17, 6; ecall", nil, 9, api.Run{Status: api.StatFault, Steps: 2}}, {"li x17, -1; ecall", nil, 9, api.Run{Status: api.StatFault, Steps: 2}},
		{"li x17, 2; ecall; li x17, 1; ecall; li x17, 2; ecall; li x17, 3; ecall", []int{8}, 99, api.Run{Status: api.StatDone, Code: -1, Out: []int{8}, Steps: 8}},
		{"li x17, 5; li x10, -4; ecall", nil, 9, api.Run{Status: api.StatTrap, Code: -4, Steps: 3}},
		{"li x17, 4; li x10, 2; ecall", nil, 9, api.Run{Status: api.StatDiv, Steps: 3}}, {"li x17, 4; li x10, 3; ecall", nil, 9, api.Run{Status: api.StatBounds, Steps: 3}}, {"li x17, 4; li x10, 4; ecall", nil, 9, api.Run{Status: api.StatDepth, Steps: 3}},
		{"li x17, 4; li x10, 0; ecall", nil, 9, api.Run{Status: api.StatFault, Steps: 3}}, {"li x17, 4; li x10, 1; ecall", nil, 9, api.Run{Status: api.StatFault, Steps: 3}}, {"li x17, 4; li x10, 5; ecall", nil, 9, api.Run{Status: api.StatFault, Steps: 3}}, {"li x17, 4; li x10, 6; ecall", nil, 9, api.Run{Status: api.StatFault, Steps: 3}}, {"li x17, 4; li x10, -1; ecall", nil, 9, api.Run{Status: api.StatFault, Steps: 3}},
		// branches
		{"a: ;beq x0, x0, a", nil, 5, api.Run{Steps: 5}}, {"a: ;bne x0, x0, a", nil, 5, api.Run{Status: api.StatFault, Steps: 1}}, {"a: ;bge x0, x0, a", nil, 5, api.Run{Steps: 5}}, {"a: ;blt x0, x0, a", nil, 5, api.Run{Status: api.StatFault, Steps: 1}}, {"li x5, -1; a: ;blt x5, x0, a", nil, 5, api.Run{Steps: 5}}, {"li x5, -1; a: ;bge x5, x0, a", nil, 5, api.Run{Status: api.StatFault, Steps: 2}}, {"li x5, -1; a: ;bne x5, x0, a", nil, 5, api.Run{Steps: 5}}, {"li x5, -1; a: ;beq x5, x0, a", nil, 5, api.Run{Status: api.StatFault, Steps: 2}}, {"li x5, -1; a: ;blt x0, x5, a", nil, 5, api.Run{Status: api.StatFault, Steps: 2}}, {"a: ;j a", nil, 7, api.Run{Steps: 7}},
		// calls
		{"jal f; li x17, 3; ecall; f: ;li x10, 6; ret", nil, 9, api.Run{Status: api.StatDone, Code: 6, Steps: 5}},
		{"mv x5, x0; jal f; f: ;mv x10, x1; li x17, 3; ecall", nil, 9, api.Run{Status: api.StatDone, Code: 8, Steps: 5}},
		{"ret", nil, 9, api.Run{Status: api.StatFault, Steps: 1}}, {"ret", nil, 0, api.Run{}}, {"li x1, 4; ret", nil, 9, api.Run{Status: api.StatFault, Steps: 2}}, {"li x1, 8; ret; jal a; a:", nil, 9, api.Run{Status: api.StatFault, Steps: 2}}, {"li x1, 12; ret; jal a; a:", nil, 9, api.Run{Status: api.StatFault, Steps: 2}}, {"li x1, 13; ret; jal a; a:", nil, 9, api.Run{Status: api.StatFault, Steps: 2}}, {"li x1, 12; ret; jal a; li x17, 3; ecall; a:", nil, 9, api.Run{Status: api.StatDone, Steps: 4}}, {"li x1, -4; ret", nil, 9, api.Run{Status: api.StatFault, Steps: 2}}, {"li x1, 16; ret; j a; a: ;ecall", nil, 9, api.Run{Status: api.StatFault, Steps: 2}},
		{"a: ;ret; jal a", nil, 9, api.Run{Status: api.StatFault, Steps: 1}}, {"j b; a: ;ret; b: ;jal a", nil, 9, api.Run{Status: api.StatFault, Steps: 3}}, {"j b; a: ;ret; b: ;jal a", nil, 3, api.Run{Status: api.StatFault, Steps: 3}},
	} {
		got := mach.Run(code(t, c.text), c.in, c.steps)
		if !same(got, c.want) {
			t.Error("M2:", c.text, "told", got, "not", c.want)
		}
	}
	if got := mach.Run(api.Code{Lines: []api.Line{{In: api.Instr{Op: api.InJ, Name: "a"}}}}, nil, 9); !same(got, api.Run{}) {
		t.Error("M2: of code with an error", got)
	}
}

// TestFaults: what is none is a fault, where without it there is an end; and the step counts.
func TestFaults(t *testing.T) {
	const done = "; li x17, 3; ecall"
	for text, steps := range map[string]int{"ld x0, 0(x0)": 1, "sd x0, 0(x0)": 1, "ld x5, 0(x2)": 1, "sd x5, 0(x2)": 1, "ld x5, -1(x2)": 1, "ld x5, -2(x2)": 1, "sd x5, -4(x2)": 1, "ld x5, -15(x2)": 1, "li x5, 32768; sub x5, x2, x5; ld x6, 0(x5); sd x6, 0(x5); ld x6, -8(x5)": 5, ".array q 2; la x5, q; ld x6, 8(x5); ld x6, 16(x5)": 3, ".array q 2; la x5, q; sd x6, 16(x5)": 2, ".array q 2; la x5, q; ld x6, -8(x5)": 2, ".array q 2; la x5, q; ld x6, 4(x5)": 2, ".array q 2; la x5, q; sd x6, 1(x5)": 2, "li x5, 65536; ld x6, 0(x5)": 2, "li x5, -9223372036854775808; ld x6, 0(x5)": 2, "li x5, 9223372036854775807; ld x6, 1(x5)": 2, "ecall": 1, "li x17, 6; ecall": 2, "li x17, 4; li x10, 1; ecall": 3, "li x17, 4; li x10, 5; ecall": 3, "ret": 1, "li x1, 4; ret": 2, "li x1, 13; ret; jal a; a:": 2, "li x1, -4; ret": 2} {
		for n := range 8 {
			want := api.Run{Status: api.StatFault, Steps: steps}
			if n < steps {
				want = api.Run{Steps: n}
			}
			if got := mach.Run(code(t, text+done), nil, n); !same(got, want) {
				t.Error("M2:", text, n, "told", got, "not", want)
			}
		}
	}
	for _, text := range []string{"ld x5, -8(x2)", "sd x5, -8(x2)", "li x5, 32768; sub x5, x2, x5; ld x5, 0(x5)", ".array q 2; la x5, q; ld x6, 8(x5)", "li x1, 12; ret; jal a; a:"} {
		if got := mach.Run(code(t, text+done), nil, 99); got.Status != api.StatDone {
			t.Error("M2: no fault:", text, got)
		}
	}
}

// TestMemory: words stand where the document says, and are what was put there last.
func TestMemory(t *testing.T) {
	c := code(t, ".array q 2; .array r 3; "+asked("la x5, q; li x6, 11; sd x6, 0(x5); li x6, 12; sd x6, 8(x5); li x6, 13; sd x6, 16(x5); li x6, 14; sd x6, -8(x2); la x7, r; ld x8, 0(x7); ld x9, 8(x7); ld x18, -8(x2); ld x19, -16(x2); ld x20, -8(x7); ld x21, 0(x5)", "x8", "x9", "x18", "x19", "x20", "x21"))
	if got := mach.Run(c, nil, 99); got.Status != api.StatDone || !slices.Equal(got.Out, []int{13, 0, 14, 0, 12, 11}) {
		t.Error("M2:", got)
	}
	for name, want := range map[string]int{"q": 65536, "r": 65552, "": -1, "s": -1} {
		if at := mach.Addr(c, name); at != want {
			t.Error("M1: Addr", name, at)
		}
	}
	const low = 1<<30 - 8*4096
	for at, want := range map[int]int{65536: 0, 65544: 1, 65552: 2, 65568: 4, 65576: -1, 65528: -1, 65537: -1, 65540: -1, 0: -1, -8: -1, low: 5, low + 8: 6, low - 8: -1, 1<<30 - 8: 5 + 4095, 1 << 30: -1, 1<<30 - 4: -1, least: -1, greatest: -1, greatest - 7: -1} {
		if n := mach.Where(c, at); n != want {
			t.Error("M1: Where", at, n, want)
		}
	}
	bad := c
	bad.Lines = append(slices.Clone(c.Lines), api.Line{})
	if mach.Addr(bad, "q") != -1 || mach.Where(bad, 65536) != -1 {
		t.Error("M1: of code with an error")
	}
	if mach.Where(api.Code{}, low) != 0 || mach.Addr(api.Code{}, "") != -1 {
		t.Error("M1: of nothing")
	}
	var many api.Code
	for i := range 200 {
		many.Arrays = append(many.Arrays, api.Array{Name: fmt.Sprint("a", i), Size: 1 << 20})
	}
	if mach.Addr(many, "a199") != 65536+199<<23 || mach.Where(many, 65536+199<<23) != 199<<20 {
		t.Error("M1: of many arrays")
	}
}

// other is a machine by the words of the document.
func other(c api.Code, in []int, steps int) (run api.Run) {
	list, to := asm.Flat(c)
	words, x, at := map[int]int{}, [32]int{2: 1 << 30}, 0
	for ; ; x[0] = 0 {
		if at == len(list) {
			run.Status = api.StatFault
			return
		}
		if run.Steps >= steps {
			return
		}
		run.Steps++
		i, a, b := list[at], x[list[at].A], x[list[at].B]
		d := &x[i.D]
		at++
		goes := false
		switch i.Op {
		case api.InAdd:
			*d = a + b
		case api.InSub:
			*d = a - b
		case api.InMul:
			_, lo := bits.Mul64(uint64(a), uint64(b))
			*d = int(lo)
		case api.InDiv:
			*d = -1
			if b != 0 {
				*d = a / b
			}
		case api.InRem:
			*d = a
			if b != 0 {
				*d = a % b
			}
		case api.InAnd:
			*d = a & b
		case api.InOr:
			*d = a | b
		case api.InXor:
			*d = a ^ b
		case api.InSll:
			*d = a << (uint(b) % 64)
		case api.InSra:
			*d = a >> (uint(b) % 64)
		case api.InSlt:
			*d = told(a < b)
		case api.InSltu:
			*d = told(uint64(a) < uint64(b))
		case api.InSeqz:
			*d = told(a == 0)
		case api.InSnez:
			*d = told(a != 0)
		case api.InMv:
			*d = a
		case api.InLi:
			*d = i.N
		case api.InLa:
			*d = mach.Addr(c, i.Name)
		case api.InAddi:
			*d = a + i.N
		case api.InLd, api.InSd:
			k := mach.Where(c, a+i.N)
			if k < 0 {
				run.Status = api.StatFault
				return
			}
			if i.Op == api.InLd {
				*d = words[k]
			} else {
				words[k] = b
			}
		case api.InBeq:
			goes = a == b
		case api.InBne:
			goes = a != b
		case api.InBlt:
			goes = a < b
		case api.InBge:
			goes = a >= b
		case api.InJ:
			goes = true
		case api.InJal:
			x[1], goes = 4*at, true
		case api.InRet:
			back := -1
			for k := range list {
				if list[k].Op == api.InJal && x[1] == 4*(k+1) {
					back = k + 1
				}
			}
			if back < 0 {
				run.Status = api.StatFault
				return
			}
			at = back
		case api.InCall:
			switch x[17] {
			case 1:
				run.Out = append(run.Out, x[10])
				continue
			case 2:
				x[10] = -1
				if len(in) > 0 {
					x[10], in = in[0], in[1:]
				}
				continue
			case 3:
				run.Status, run.Code = api.StatDone, x[10]
			case 5:
				run.Status, run.Code = api.StatTrap, x[10]
			default:
				run.Status = api.StatFault
				if x[17] == 4 && x[10] >= 2 && x[10] <= 4 {
					run.Status = x[10]
				}
			}
			return
		}
		if goes {
			at = to[at-1]
		}
	}
}

func told(is bool) int {
	if is {
		return 1
	}
	return 0
}

func TestRandom(t *testing.T) {
	d := sample.New(17)
	var ended [7]int
	for range 20000 {
		c, in, steps := sample.Code(d, 25), d.Numbers(4), d.Roll(400)
		got, want := mach.Run(c, in, steps), other(c, in, steps)
		if !same(got, want) {
			s, _ := asm.Print(c)
			t.Fatal("M2:", s, in, steps, "told", got, "not", want)
		}
		ended[got.Status]++
	}
	for status, n := range ended {
		if n < 5 {
			t.Error("too few runs that end with status", status, ended)
		}
	}
}

// TestTheorem: M3.
func TestTheorem(t *testing.T) {
	d := sample.New(18)
	for range 300 {
		c, in := sample.Code(d, 25), d.Numbers(3)
		most := mach.Run(c, in, 150)
		for steps := -1; steps <= 150; steps++ {
			got := mach.Run(c, in, steps)
			if got.Status != api.StatGoing {
				if !same(got, most) {
					t.Fatal("M3: it ended otherwise", steps, got, most)
				}
				break
			}
			if got.Code != 0 || got.Steps != max(steps, 0) || len(got.Out) > len(most.Out) || !slices.Equal(got.Out, most.Out[:len(got.Out)]) {
				t.Fatal("M3: it told something else", steps, got, most)
			}
		}
	}
	for range 300 {
		n, r, q, at := d.Number(), 5+d.Roll(4), 18+d.Roll(13), -8*(1+d.Roll(200))
		s := fmt.Sprintf("li x%d, %d; mv x%d, x%d; sd x%d, %d(x2); li x%d, 0; ld x%d, %d(x2); addi x%d, x%d, 0; add x%d, x0, x%d; sd x%d, 0(x31); ld x7, 0(x31)", r, n, q, r, q, at, r, r, at, q, r, r, q, r)
		if got := mach.Run(code(t, ".array w 1; la x31, w; "+asked(s, "x7", fmt.Sprint("x", r), fmt.Sprint("x", q))), nil, 99); !slices.Equal(got.Out, []int{n, n, n}) && r != 7 {
			t.Error("M3: what is moved", s, got)
		}
	}
	c := code(t, "li x17, 2; ecall; li x17, 1; ecall; li x17, 3; ecall")
	if !same(mach.Run(c, []int{4, 5, 6}, 99), mach.Run(c, []int{4}, 99)) {
		t.Error("M3: what it has not read")
	}
}

// TestShared: R3 and R4.
func TestShared(t *testing.T) {
	a, b := sample.Code(sample.New(3), 20), sample.Code(sample.New(3), 20)
	mach.Run(a, nil, 99)
	mach.Where(a, 0)
	mach.Addr(a, "a0")
	if !reflect.DeepEqual(a, b) {
		t.Error("R3: written into")
	}
	c, in := code(t, ".array q 1; la x5, q; ld x6, 0(x5); li x17, 2; ecall; add x6, x6, x10; sd x6, 0(x5); li x17, 1; mv x10, x6; ecall"), []int{3, 4}
	first := mach.Run(c, in[:1], 99)
	first.Out[0] = 8
	if got := mach.Run(c, in[:1], 99); !slices.Equal(got.Out, []int{3}) || !slices.Equal(in, []int{3, 4}) {
		t.Error("R4: a run that knows of another one", got)
	}
}
