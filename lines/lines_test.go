package lines_test

import (
	"strconv"
	"strings"
	"testing"

	"counterproof/api"
	"counterproof/asm"
	"counterproof/blocks"
	"counterproof/compile"
	"counterproof/eval"
	"counterproof/lift"
	"counterproof/lines"
	"counterproof/mach"
	"counterproof/parse"
	"counterproof/round"
	"counterproof/sample"
	"counterproof/tree"
)

// script puts lines together.
func script(list ...string) string { return strings.Join(list, "\n") + "\n" }

// told asks for what is told of a script.
func told(t *testing.T, s string, want ...string) {
	t.Helper()
	got, err := lines.Run(s)
	text := strings.Join(want, "\n")
	if len(want) > 0 {
		text += "\n"
	}
	if got != text || err != api.OK {
		t.Errorf("Z1: %.300q told %.300q %v, not %.300q", s, got, err, text)
	}
}

func count(c api.Code) string { return strconv.Itoa(len(c.Lines)) }

// ran is how a run is told.
func ran(r api.Run) string {
	s := []string{strconv.Itoa(r.Status), strconv.Itoa(r.Code), strconv.Itoa(r.Steps)}
	for _, n := range r.Out {
		s = append(s, strconv.Itoa(n))
	}
	return strings.Join(s, " ")
}

func TestLines(t *testing.T) {
	const s = "int main() { print(6 * 7); }"
	c, _, _ := compile.Compile(s, 1)
	n := mach.Run(c, nil, 100).Steps
	told(t, script("+"+s, "compile", "run 100"), count(c), "1 0 "+strconv.Itoa(n)+" 42")
	told(t, "+"+s+"\ncompile\nrun 100", count(c), "1 0 "+strconv.Itoa(n)+" 42")
	told(t, script("+"+s, "eval 100", "eval 4", "eval 3", "eval 0"), "1 0 4 42", "1 0 4 42", "0 0 3", "0 0 0")
	told(t, script("+"+s, "print", "check"), "3", "ok")
	told(t, script("+", "+  ", "+"+s, "print", "new", "print", "check"), "3", "0", "error 54 1")
	told(t, script("print", "check", "compile", "eval 9"), "0", "error 54 1", "error 54 1", "0 0 0")
	told(t, script("+int main() {", "+\tx = 1;", "print", "check", "compile", "eval 5", "assemble"), "error 40 3", "error 40 3", "error 40 3", "error 40 3", "error 60 1")
	told(t, script("+int main() {", "+x = 1; }", "print", "check", "compile", "eval 5"), "3", "error 51 2", "error 51 2", "0 0 0")
	told(t, script("+@"), []string{}...)
	told(t, script("+@", "print", "check", "compile", "eval 1"), "error 20 1", "error 20 1", "error 20 1", "error 20 1")
	told(t, script("+int a[0];", "print", "check", "compile", "eval 1"), "error 41 1", "error 41 1", "error 41 1", "error 41 1")
	told(t, script("+int f() { if (1) { break; } } int main() { }", "check"), "error 53 3")
	// code
	told(t, script("run 9", "blocks", "again", "lift"), "6 0 0", "0 0", count(again(t, api.Code{}, 1)), strconv.Itoa(len(text(again(t, api.Code{}, 1)))))
	told(t, script("+ li x17, 3", "+ li x10, 7", "+a:", "+ ecall", "assemble", "run 3", "run 2", "run 0", "blocks"), "4", "1 7 3", "0 0 2", "0 0 0", "1 3")
	told(t, script("+.array q 2", "+ la x5, q", "assemble", "code", "assemble", "+j q", "assemble", "blocks"), "1", "1", "error 61 3", "1 1")
	told(t, script("+ ret", "assemble", "run 5", "again", "run 500", "lift", "eval 500"), "1", "6 0 1", count(again(t, code("ret"), 1)), ran(mach.Run(again(t, code("ret"), 1), nil, 500)), strconv.Itoa(len(text(again(t, code("ret"), 1)))), ran(eval.Run(lifted(again(t, code("ret"), 1)), nil, 500)))
	told(t, script("+ ret", "assemble", "new", "+x y", "assemble", "run 5", "code", "assemble"), "1", "error 60 1", "6 0 1", "1")
	// what is read
	told(t, script("+int main() { print(read()); print(read()); print(read()); }", "read 5 -7", "eval 99", "eval 99", "read", "eval 99", "read 1 2 3 4 0", "eval 99"), "1 0 6 5 -7 -1", "1 0 6 5 -7 -1", "1 0 6 -1 -1 -1", "1 0 6 1 2 3")
	told(t, script("+int main() { return read(); }", "read 999999999999999999", "eval 9", "read -999999999999999999", "eval 9", "read 1000000000000000000", "eval 9"), "1 999999999999999999 2", "1 -999999999999999999 2", "odd", "1 -999999999999999999 2")
	// the level
	var want []string
	for _, level := range []int{1, 0, 1, 2, 2, 2} {
		x, _, _ := compile.Compile(s, level)
		want = append(want, count(x))
	}
	told(t, script("+"+s, "compile", "level 0", "compile", "level 1", "compile", "level 2", "compile", "level 3", "compile", "level -1", "compile", "level 00"), want[0], want[1], want[2], want[3], "error 1", want[4], "error 1", want[5], "odd")
	// steps
	told(t, script("+int main() { while (1) { } }", "eval 200000", "eval 200001", "eval -1", "compile", "run 200000", "run 200001", "run -1"), "0 0 200000", "error 1", "error 1", count(compiled("int main() { while (1) { } }", 1)), "0 0 200000", "error 1", "error 1")
	told(t, script("+}", "eval 200001", "eval -5", "eval x"), "error 40 1", "error 40 1", "odd")
}

func compiled(s string, level int) api.Code {
	c, _, _ := compile.Compile(s, level)
	return c
}

func code(s string) api.Code {
	c, _, _ := asm.Parse(s)
	return c
}

func again(t *testing.T, c api.Code, level int) api.Code {
	t.Helper()
	x, err := round.Again(c, level)
	if err != api.OK {
		t.Fatal(err)
	}
	return x
}

func lifted(c api.Code) api.Prog {
	p, _ := lift.Lift(c)
	return p
}

// text is the text of the program that code is lifted to.
func text(c api.Code) string {
	s, _ := tree.Print(lifted(c))
	return s
}

func TestOdd(t *testing.T) {
	for _, s := range []string{"", " ", " print", "print ", "print 1", "PRINT", "prin", "new x", "new ", "check ", "compile 1", "assemble x", "again 1", "lift ", "code 1", "blocks 0", "eval", "eval ", "eval x", "eval 1 2", "eval  1", "eval 01", "eval +1", "eval -0", "eval 1.0", "run", "run 1 ", "run x", "run 1000000000000000000", "level", "level x", "level 1 1", "level  1", "read ", "read x", "read 1  2", "read 1 ", "read 01", "read -0", "read +1", "read --1", "read -", "read 9223372036854775808", "read 99999999999999999999", "read\t1", "print\r", "\xff", "- x", "odd", "error 1"} {
		told(t, script(s), "odd")
		told(t, script(s, "+int main() { return read(); }", s, "read 4", s, "eval 9"), "odd", "odd", "odd", "1 4 2")
	}
	told(t, "")
	told(t, "\n", "odd")
	told(t, "\n\n", "odd", "odd")
	told(t, "new")
	told(t, "new\n")
	told(t, "new\n\n", "odd")
}

func TestErrors(t *testing.T) {
	for i, c := range []struct {
		script string
		want   api.Errno
	}{{strings.Repeat("\n", 400), api.OK}, {strings.Repeat("\n", 401), api.ErrArg}, {strings.Repeat("\n", 400) + "x", api.ErrArg}, {strings.Repeat("\n", 399) + "x", api.OK}, {"+" + strings.Repeat("x", 19999), api.OK}, {"+" + strings.Repeat("x", 20000), api.ErrArg}, {strings.Repeat("\n", 30000), api.ErrArg}} {
		got, err := lines.Run(c.script)
		if err != c.want || err != api.OK && got != "" {
			t.Error("Z1:", i, err, len(got))
		}
	}
	// A text may become longer than one that is read.
	long := strings.Repeat("+ beq x5, x6, a\n", 388) + "+a:\n+ ret\n"
	c := code(strings.ReplaceAll(long, "+", ""))
	if len(text(c)) <= api.MaxText {
		t.Fatal("too short", len(text(c)))
	}
	told(t, long+"assemble\nlift\nprint\ncheck\ncompile\neval 5\n", count(c), strconv.Itoa(len(text(c))), "error 1", "error 1", "error 1", "error 1")
	big := "+.array q 1048576\n"
	told(t, big+"assemble\nagain\nlift\nrun 5\n", "0", "error 41", "error 41", "6 0 0")
}

// other is a workshop by the words of the document, told with the layers' own calls.
type other struct {
	text  string
	code  api.Code
	in    []int
	level int
}

func failed(err api.Errno, line int) string {
	if line == 0 {
		return "error " + strconv.Itoa(int(err))
	}
	return "error " + strconv.Itoa(int(err)) + " " + strconv.Itoa(line)
}

func (o *other) line(s string) string {
	word, rest, _ := strings.Cut(s, " ")
	n, _ := strconv.Atoi(rest)
	p, err, line := parse.Parse(o.text)
	switch {
	case strings.HasPrefix(s, "+"):
		o.text += s[1:] + "\n"
	case word == "new":
		o.text = ""
	case word == "read":
		o.in = nil
		for _, x := range strings.Fields(rest) {
			n, _ := strconv.Atoi(x)
			o.in = append(o.in, n)
		}
	case word == "level":
		o.level = n
	case word == "code":
		o.text, _ = asm.Print(o.code)
	case word == "lift":
		p, err := lift.Lift(o.code)
		if err != api.OK {
			return failed(err, 0)
		}
		o.text, _ = tree.Print(p)
		return strconv.Itoa(len(o.text))
	case word == "blocks":
		list, _ := asm.Flat(o.code)
		return strconv.Itoa(len(blocks.Split(o.code))) + " " + strconv.Itoa(len(list))
	case word == "run":
		return ran(mach.Run(o.code, o.in, n))
	case word == "compile", word == "assemble", word == "again":
		c, err, line := compile.Compile(o.text, o.level)
		if word == "assemble" {
			c, err, line = asm.Parse(o.text)
		} else if word == "again" {
			c, err = round.Again(o.code, o.level)
			line = 0
		}
		if err != api.OK {
			return failed(err, line)
		}
		o.code = c
		return strconv.Itoa(len(c.Lines))
	case err != api.OK:
		return failed(err, line)
	case word == "print":
		s, _ := tree.Print(p)
		return strconv.Itoa(len(strings.Split(s, "\n")) - 1)
	case word == "eval":
		return ran(eval.Run(p, o.in, n))
	case word == "check":
		if _, err, line := compile.Tree(p, 1); err != api.OK && err != api.ErrLimit {
			return failed(err, line)
		}
		return "ok"
	}
	return ""
}

// chance is a script of so many lines made by chance.
func chance(d *sample.Dice, n int) []string {
	var list []string
	for len(list) < n {
		switch d.Roll(8) {
		case 0:
			s, _ := tree.Print(sample.Prog(d))
			list = append(list, "new")
			if len(s) < 500 {
				for _, l := range strings.Split(s, "\n") {
					list = append(list, "+"+l)
				}
			}
			list = append(list, "compile")
		case 1:
			s, _ := asm.Print(sample.Code(d, 6))
			list = append(list, "new")
			for l := range strings.Lines(s) {
				list = append(list, "+"+strings.TrimSuffix(l, "\n"))
			}
			list = append(list, "assemble")
		case 2:
			list = append(list, "+"+sample.Pick(d, []string{"int main() {", "}", "print(read());", "ret", "", " # x", "a:"}))
		case 3:
			s := "read"
			for range d.Roll(4) {
				s += " " + strconv.Itoa(d.Roll(9)-3)
			}
			list = append(list, s)
		case 4:
			list = append(list, "level "+strconv.Itoa(d.Roll(3)))
		case 5:
			list = append(list, sample.Pick(d, []string{"eval ", "run "})+strconv.Itoa(d.Roll(3000)))
		default:
			list = append(list, sample.Pick(d, []string{"new", "print", "check", "compile", "assemble", "again", "lift", "lift", "code", "blocks"}))
		}
	}
	return list
}

// TestTheorem: Z2, and Z1 of scripts made by chance.
func TestTheorem(t *testing.T) {
	d := sample.New(39)
	asked := 0
	for range 500 {
		list := chance(d, 5+d.Roll(25))
		if len(script(list...)) > 20000 || len(list) > 400 {
			continue
		}
		o := other{level: 1}
		var want, looks []string
		var quiet []string
		for i, l := range list {
			s := o.line(l)
			if len(o.code.Lines) > 3000 { // so that codes that grow and grow are left alone
				list = list[:i]
				break
			}
			if s != "" {
				want = append(want, s)
			}
			switch strings.Split(l, " ")[0] {
			case "print", "check", "eval", "run", "blocks":
			default:
				looks = append(looks, l)
				if s != "" {
					quiet = append(quiet, s)
				}
			}
		}
		if len(list) == 0 {
			continue
		}
		told(t, script(list...), want...)
		asked += len(want)
		k := d.Roll(len(list) + 1)
		whole, _ := lines.Run(script(list...))
		if first, err := lines.Run(strings.Join(list[:k], "\n")); err != api.OK || !strings.HasPrefix(whole, first) {
			t.Fatal("Z2: a script's first lines", list, k)
		}
		if len(looks) > 0 {
			told(t, script(looks...), quiet...)
		}
	}
	if asked < 1000 {
		t.Error("too little is told", asked)
	}
	for range 60 {
		s, _ := tree.Print(sample.Prog(d))
		if len(s) > 3000 {
			continue
		}
		head := "+" + strings.ReplaceAll(strings.TrimSuffix(s, "\n"), "\n", "\n+") + "\nread 1 2 3\nlevel " + strconv.Itoa(d.Roll(3)) + "\n"
		if strings.Count(head, "\n") > 390 {
			continue
		}
		a, _ := lines.Run(head + "eval 400\n")
		b, _ := lines.Run(head + "compile\nrun 161200\n")
		_, b, _ = strings.Cut(b, "\n")
		x, y := strings.Fields(a), strings.Fields(b)
		if x[0] != "0" && (x[0] != y[0] || x[1] != y[1] || strings.Join(x[3:], " ") != strings.Join(y[3:], " ")) {
			t.Error("Z2: compiled and run, or evaluated", s, a, b)
		}
	}
}

// TestBytes: P5: whatever bytes are handed in, the same is told the same.
func TestBytes(t *testing.T) {
	d := sample.New(40)
	pieces := []string{"\n", "\n", "\n", "+", " ", "new", "read", "level", "print", "check", "compile", "assemble", "again", "lift", "code", "eval", "run", "blocks", " 5", " 99", "int main() {", "}", "x", "\xff", "ret", "-", "0", "\t", "\r"}
	for range 1500 {
		s := ""
		for range d.Roll(25) {
			s += sample.Pick(d, pieces)
		}
		a, err := lines.Run(s)
		b, err2 := lines.Run(s)
		if a != b || err != err2 || err != api.OK || a != "" && !strings.HasSuffix(a, "\n") {
			t.Fatalf("P5: %q told %q %v, and %q %v", s, a, err, b, err2)
		}
	}
}
