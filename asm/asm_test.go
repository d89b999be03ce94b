package asm_test

import (
	"reflect"
	"slices"
	"strconv"
	"strings"
	"testing"

	"counterproof/api"
	"counterproof/asm"
	"counterproof/instr"
	"counterproof/sample"
)

func label(s string) api.Line { return api.Line{Label: s} }

func line(t *testing.T, s string) api.Line {
	t.Helper()
	in, err := instr.Parse(s)
	if err != api.OK {
		t.Fatal(s)
	}
	return api.Line{In: in}
}

func array(name string, size int) api.Array { return api.Array{Name: name, Size: size} }

func TestCheck(t *testing.T) {
	jump, la, ret := line(t, "j a"), line(t, "la x5, a"), line(t, "ret")
	lines := func(l ...api.Line) []api.Line { return l }
	for i, c := range []struct {
		code api.Code
		want api.Errno
		at   int
	}{
		{api.Code{}, api.OK, 0},
		{api.Code{Arrays: []api.Array{array("a", 1), array("b", 1<<20)}, Lines: lines(la, label("a"), jump, label("b"))}, api.OK, 0},
		{api.Code{Lines: slices.Repeat(lines(ret), 40000)}, api.OK, 0},
		{api.Code{Lines: slices.Repeat(lines(ret), 40001)}, api.ErrArg, 0},
		{api.Code{Lines: slices.Repeat(lines(api.Line{}), 40001)}, api.ErrArg, 0},
		{api.Code{Arrays: []api.Array{array("9", 1)}}, api.ErrArg, 0}, {api.Code{Arrays: []api.Array{array("", 1)}}, api.ErrArg, 0}, {api.Code{Arrays: []api.Array{array("a", 0)}}, api.ErrArg, 0}, {api.Code{Arrays: []api.Array{array("a", -1)}}, api.ErrArg, 0}, {api.Code{Arrays: []api.Array{array("a", 1<<20+1)}}, api.ErrArg, 0},
		{api.Code{Arrays: []api.Array{array("a", 1), array("b", 1), array("a", 2)}}, api.ErrLabel, 0},
		{api.Code{Arrays: []api.Array{array("a", 1), array("a", 1), array("b", 0)}}, api.ErrArg, 0},
		{api.Code{Arrays: []api.Array{array("a", 1), array("a", 1)}, Lines: lines(api.Line{})}, api.ErrLabel, 0},
		{api.Code{Lines: lines(ret, ret, api.Line{})}, api.ErrAsm, 2},
		{api.Code{Lines: lines(ret, api.Line{In: api.Instr{Op: api.InMv, D: 32}})}, api.ErrAsm, 1},
		{api.Code{Lines: lines(ret, label("9"))}, api.ErrAsm, 1}, {api.Code{Lines: lines(ret, label("a b"))}, api.ErrAsm, 1}, {api.Code{Lines: lines(label(strings.Repeat("a", 41)))}, api.ErrAsm, 0}, {api.Code{Lines: lines(label(strings.Repeat("a", 40)))}, api.OK, 0},
		{api.Code{Lines: lines(ret, api.Line{Label: "a", In: ret.In})}, api.ErrAsm, 1}, {api.Code{Lines: lines(ret, api.Line{Label: "a", In: api.Instr{N: 1}})}, api.ErrAsm, 1},
		{api.Code{Lines: lines(ret, label("a"), label("b"), label("a"))}, api.ErrLabel, 3},
		{api.Code{Lines: lines(label("a"), jump, line(t, "jal b"))}, api.ErrLabel, 2}, {api.Code{Lines: lines(label("b"), line(t, "beq x1, x2, a"))}, api.ErrLabel, 1},
		{api.Code{Arrays: []api.Array{array("b", 1)}, Lines: lines(label("a"), la)}, api.ErrLabel, 1}, {api.Code{Arrays: []api.Array{array("a", 1)}, Lines: lines(ret, jump)}, api.ErrLabel, 1},
		{api.Code{Lines: lines(jump, api.Line{})}, api.ErrLabel, 0}, {api.Code{Lines: lines(api.Line{}, jump)}, api.ErrAsm, 0}, {api.Code{Lines: lines(jump, ret, label("a"))}, api.OK, 0},
		{api.Code{Lines: lines(jump, api.Line{Label: "a", In: ret.In})}, api.ErrAsm, 1},
	} {
		if err, at := asm.Check(c.code); err != c.want || at != c.at {
			t.Error("S1:", i, "told", err, at, "not", c.want, c.at)
		}
		if c.want == api.OK {
			continue
		}
		if s, err := asm.Print(c.code); s != "" || err != api.ErrArg {
			t.Error("S2:", i, err)
		}
		if in, to := asm.Flat(c.code); len(in) > 0 || len(to) > 0 {
			t.Error("S4:", i)
		}
	}
}

func TestText(t *testing.T) {
	const text = `.array a 12
.array b.c 1048576
main:
	li x5, -3
loop:
f.x:
	ld x6, 8(x2)
	la x7, a
	bne x6, x0, loop
	jal f.x
	ret
end:
`
	want := api.Code{Arrays: []api.Array{array("a", 12), array("b.c", 1<<20)}, Lines: []api.Line{label("main"), line(t, "li x5, -3"), label("loop"), label("f.x"), line(t, "ld x6, 8(x2)"), line(t, "la x7, a"), line(t, "bne x6, x0, loop"), line(t, "jal f.x"), line(t, "ret"), label("end")}}
	if s, err := asm.Print(want); s != text || err != api.OK {
		t.Errorf("S2: told %v\n%s", err, s)
	}
	if c, err, at := asm.Parse(text); !asm.Same(c, want) || err != api.OK || at != 0 {
		t.Error("S3:", c, err, at)
	}
	odd := strings.ReplaceAll(strings.ReplaceAll(text, "\n", " \t # x: j #\n\n#\n \t \n"), "\t", "  \t ")
	if c, err, at := asm.Parse(odd); !asm.Same(c, want) || err != api.OK || at != 0 {
		t.Error("S3: blanks, comments and empty lines:", c, err, at)
	}
	if c, err, at := asm.Parse(strings.TrimSuffix(text, "\n")); !asm.Same(c, want) || err != api.OK || at != 0 {
		t.Error("S3: no line feed at the end:", c, err, at)
	}
	for _, s := range []string{"", "\n", "# nothing", " \t\n"} {
		if c, err, at := asm.Parse(s); !asm.Same(c, api.Code{}) || err != api.OK || at != 0 {
			t.Error("S3: of nothing", c, err, at)
		}
	}
	if s, err := asm.Print(api.Code{}); s != "" || err != api.OK {
		t.Error("S2: of nothing")
	}
}

func TestNoText(t *testing.T) {
	for _, c := range []struct {
		text string
		want api.Errno
		at   int
	}{
		{strings.Repeat("\n", 400000), api.OK, 0}, {strings.Repeat("\n", 400001), api.ErrArg, 0}, {strings.Repeat("x", 400001), api.ErrArg, 0},
		{"x", api.ErrAsm, 1}, {"\n\nret x", api.ErrAsm, 3}, {"a :", api.ErrAsm, 1}, {":", api.ErrAsm, 1}, {"9:", api.ErrAsm, 1}, {"a: ret", api.ErrAsm, 1}, {"a::", api.ErrAsm, 1}, {"ret\r\n", api.ErrAsm, 1}, {"ret\vret", api.ErrAsm, 1}, {"a\u00a0:", api.ErrAsm, 1}, {strings.Repeat("a", 41) + ":", api.ErrAsm, 1}, {strings.Repeat("a", 40) + ":", api.OK, 0},
		{"a 1", api.ErrAsm, 1}, {"array a 1", api.ErrAsm, 1}, {".array a", api.ErrAsm, 1}, {".array a ", api.ErrAsm, 1}, {".array", api.ErrAsm, 1}, {".array a 0", api.ErrAsm, 1}, {".array a 1048576", api.OK, 0}, {".array a 1048577", api.ErrAsm, 1}, {".array a 01", api.ErrAsm, 1}, {".array a +1", api.ErrAsm, 1}, {".array a -1", api.ErrAsm, 1}, {".array a  1", api.ErrAsm, 1}, {".array  a 1", api.ErrAsm, 1}, {".array a 1 1", api.ErrAsm, 1}, {".array\ta 1", api.ErrAsm, 1}, {".array 9 1", api.ErrAsm, 1}, {".array a x", api.ErrAsm, 1}, {".array a 99999999999999999999", api.ErrAsm, 1}, {".array:", api.OK, 0}, {".array a 1:", api.ErrAsm, 1}, {" \t.array a 1\t # x", api.OK, 0},
		{"ret\n.array a 1", api.ErrAsm, 2}, {"a:\n.array a 1", api.ErrAsm, 2}, {"\n#\n.array a 1\n.array b 1\nret", api.OK, 0},
		{"\n.array a 1\n.array a 1\n", api.ErrLabel, 1}, {"\n.array a 1\n.array a 1\nj b", api.ErrLabel, 1}, {"\n.array a 1\n.array a 1\nx", api.ErrAsm, 4},
		{"\nj b", api.ErrLabel, 2}, {"a:\n\n#\na:", api.ErrLabel, 4}, {"a:\nla x1, a", api.ErrLabel, 2}, {".array a 1\n\nj a", api.ErrLabel, 3}, {"j b\nx", api.ErrAsm, 2}, {"ret\nj b\na:\na:", api.ErrLabel, 2},
		{"\n" + strings.Repeat("ret\n", 40000), api.OK, 0}, {"\n" + strings.Repeat("ret\n", 40001), api.ErrArg, 1}, {strings.Repeat("ret\n", 40001) + "x", api.ErrAsm, 40002},
	} {
		got, err, at := asm.Parse(c.text)
		if err != c.want || at != c.at || err != api.OK && !asm.Same(got, api.Code{}) {
			t.Errorf("S3: %.60q told %v %v, not %v %v", c.text, err, at, c.want, c.at)
		}
	}
}

func TestFlat(t *testing.T) {
	c, err, _ := asm.Parse(".array b 1\na:\nc:\n j b\n la x1, b\nb:\n ret\n beq x1, x2, a\n jal d\n bge x1, x2, c\n ecall\nd:\ne:\n")
	if err != api.OK {
		t.Fatal(err)
	}
	in, to := asm.Flat(c)
	if len(in) != 7 || in[0].Op != api.InJ || in[6].Op != api.InCall || !slices.Equal(to, []int{2, -1, -1, 0, 7, 0, -1}) {
		t.Error("S4:", in, to)
	}
	c, _, _ = asm.Parse("main:\n\tj main\n")
	if in, to := asm.Flat(c); len(in) != 1 || !slices.Equal(to, []int{0}) {
		t.Error("S4:", in, to)
	}
	if in, to := asm.Flat(api.Code{Lines: []api.Line{label("a")}}); len(in) > 0 || len(to) > 0 {
		t.Error("S4: labels alone")
	}
}

func TestSame(t *testing.T) {
	base := func() api.Code {
		return api.Code{Arrays: []api.Array{array("a", 1), array("b", 2)}, Lines: []api.Line{label("x"), line(t, "ret")}}
	}
	changes := []func(c *api.Code){func(c *api.Code) {}, func(c *api.Code) { c.Arrays[0].Size = 2 }, func(c *api.Code) { c.Arrays[0].Name = "c" }, func(c *api.Code) { slices.Reverse(c.Arrays) }, func(c *api.Code) { c.Arrays = nil }, func(c *api.Code) { c.Lines[0].Label = "y" }, func(c *api.Code) { c.Lines[1].In.N = 1 }, func(c *api.Code) { c.Lines[1].In.Name = "x" }, func(c *api.Code) { slices.Reverse(c.Lines) }, func(c *api.Code) { c.Lines = c.Lines[:1] }, func(c *api.Code) { c.Lines = append(c.Lines, label("z")) }}
	for i, f := range changes {
		for j, g := range changes {
			a, b := base(), base()
			f(&a)
			g(&b)
			if asm.Same(a, b) != (i == j) {
				t.Error("S4: Same", i, j)
			}
		}
	}
	if !asm.Same(api.Code{Arrays: []api.Array{}, Lines: []api.Line{}}, api.Code{}) {
		t.Error("S4: lists without elements")
	}
}

// TestTheorem: S5.
func TestTheorem(t *testing.T) {
	d := sample.New(15)
	for range 1500 {
		c := sample.Code(d, 30)
		s, err := asm.Print(c)
		if err != api.OK {
			t.Fatal("S2:", c, err)
		}
		got, err, at := asm.Parse(s)
		if err != api.OK || at != 0 || !asm.Same(got, c) {
			t.Fatal("S5: Parse undoes Print:", s, err, at)
		}
		spread := ""
		for l := range strings.Lines(s) {
			blank := func() string { return sample.Pick(d, []string{"", " ", "\t", " \t ", "  "}) }
			spread += sample.Pick(d, []string{"", "\n", " # j x\n", "\t\n"}) + blank() + strings.TrimSpace(l) + blank() + sample.Pick(d, []string{"", "#", "# é \xff"}) + "\n"
		}
		if got, err, at := asm.Parse(spread); err != api.OK || at != 0 || !asm.Same(got, c) {
			t.Fatal("S5: blanks, comments and empty lines:", spread, err, at)
		}
		in, to := asm.Flat(c)
		k := 0
		for at, l := range c.Lines {
			if l.Label != "" {
				continue
			}
			if in[k] != l.In {
				t.Fatal("S4: Flat", k, l)
			}
			if l.In.Op != api.InLa && l.In.Name != "" {
				there := slices.IndexFunc(c.Lines, func(o api.Line) bool { return o.Label == l.In.Name })
				n := 0
				for _, o := range c.Lines[:there] {
					if o.Label == "" {
						n++
					}
				}
				if to[k] != n {
					t.Fatal("S5: leads to", to[k], "not", n, at)
				}
			} else if to[k] != -1 {
				t.Fatal("S4: leads by no name to", to[k])
			}
			k++
		}
		if k != len(in) || k != len(to) {
			t.Fatal("S4: so many", k, len(in), len(to))
		}
	}
}

// TestBytes: whatever bytes are handed in.
func TestBytes(t *testing.T) {
	d := sample.New(16)
	pieces := []string{"\n", "\n", " ", "\t", "#", ":", "a", "b", ".array ", "ret", "j a", "li x1, ", "5", "\xff", ", ", "(", "x1", "\r", "0"}
	for range 5000 {
		s := ""
		for range d.Roll(14) {
			s += sample.Pick(d, pieces)
		}
		c, err, at := asm.Parse(s)
		again, err2, at2 := asm.Parse(s)
		if !asm.Same(c, again) || err != err2 || at != at2 {
			t.Fatal("P5: told otherwise")
		}
		if bad, _ := asm.Check(c); bad != api.OK || err != api.OK && (at < 1 || at > 1+strings.Count(s, "\n") || len(c.Lines)+len(c.Arrays) > 0) || err == api.OK && at != 0 {
			t.Fatalf("S3: %q %v %v %v", s, c, err, at)
		}
	}
}

// TestMemory: R3.
func TestMemory(t *testing.T) {
	a, b := sample.Code(sample.New(2), 9), sample.Code(sample.New(2), 9)
	asm.Check(a)
	asm.Print(a)
	in, to := asm.Flat(a)
	for i := range in {
		in[i], to[i] = api.Instr{}, 99
	}
	if !reflect.DeepEqual(a, b) {
		t.Error("R3: written into")
	}
	var s strings.Builder
	for i := range 9 {
		s.WriteString("l" + strconv.Itoa(i) + ":\n")
	}
	x, _, _ := asm.Parse(s.String())
	y, _, _ := asm.Parse(s.String())
	x.Lines[0].Label = "other"
	if y.Lines[0].Label != "l0" {
		t.Error("R3: shared")
	}
}
