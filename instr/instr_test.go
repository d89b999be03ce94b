package instr_test

import (
	"slices"
	"strconv"
	"strings"
	"testing"

	"counterproof/api"
	"counterproof/instr"
	"counterproof/sample"
)

// rows is the document's table: what instructions have, by letters, in the order of api.Instr's fields.
var rows = map[int][2]string{
	api.InAdd: {"add", "DAB"}, api.InSub: {"sub", "DAB"}, api.InMul: {"mul", "DAB"}, api.InDiv: {"div", "DAB"}, api.InRem: {"rem", "DAB"}, api.InAnd: {"and", "DAB"}, api.InOr: {"or", "DAB"}, api.InXor: {"xor", "DAB"}, api.InSll: {"sll", "DAB"}, api.InSra: {"sra", "DAB"}, api.InSlt: {"slt", "DAB"}, api.InSltu: {"sltu", "DAB"},
	api.InSeqz: {"seqz", "DA"}, api.InSnez: {"snez", "DA"}, api.InMv: {"mv", "DA"}, api.InLi: {"li", "DN"}, api.InLa: {"la", "DL"}, api.InAddi: {"addi", "DAS"}, api.InLd: {"ld", "DAS"}, api.InSd: {"sd", "ABS"},
	api.InBeq: {"beq", "ABL"}, api.InBne: {"bne", "ABL"}, api.InBlt: {"blt", "ABL"}, api.InBge: {"bge", "ABL"}, api.InJ: {"j", "L"}, api.InJal: {"jal", "L"}, api.InRet: {"ret", ""}, api.InCall: {"ecall", ""},
}

// made is an instruction with these numbers where it has something.
func made(op, d, a, b, n int, name string) api.Instr {
	in := api.Instr{Op: op}
	for _, c := range rows[op][1] {
		switch c {
		case 'D':
			in.D = d
		case 'A':
			in.A = a
		case 'B':
			in.B = b
		case 'N', 'S':
			in.N = n
		case 'L':
			in.Name = name
		}
	}
	return in
}

// text is what the document says an instruction's text is.
func text(in api.Instr) string {
	d, a, b, n := "x"+strconv.Itoa(in.D), "x"+strconv.Itoa(in.A), "x"+strconv.Itoa(in.B), strconv.Itoa(in.N)
	row := rows[in.Op]
	switch {
	case in.Op == api.InLd:
		return "ld " + d + ", " + n + "(" + a + ")"
	case in.Op == api.InSd:
		return "sd " + b + ", " + n + "(" + a + ")"
	case row[1] == "":
		return row[0]
	}
	var parts []string
	for _, c := range row[1] {
		parts = append(parts, map[rune]string{'D': d, 'A': a, 'B': b, 'N': n, 'S': n, 'L': in.Name}[c])
	}
	return row[0] + " " + strings.Join(parts, ", ")
}

// some are right instructions of all kinds.
func some() []api.Instr {
	d := sample.New(13)
	var out []api.Instr
	for op := api.InAdd; op <= api.InCall; op++ {
		for range 40 {
			n := d.Roll(4095) - 2047
			if op == api.InLi {
				n = d.Number()
			}
			out = append(out, made(op, d.Roll(32), d.Roll(32), d.Roll(32), n, sample.Pick(d, []string{"a", "f.main", "_", ".x9", "A.b_C", "ret", "x5", strings.Repeat("z", 40)})))
		}
		out = append(out, made(op, 0, 0, 0, 0, "a"), made(op, 31, 31, 31, 2047, "b"), made(op, 5, 5, 6, -2047, "c"), made(op, 5, 6, 5, -1, "c"), made(op, 5, 0, 6, 1, "c"), made(op, 5, 6, 0, 10, "c"))
	}
	return append(out, made(api.InLi, 1, 0, 0, 1<<63-1, ""), made(api.InLi, 1, 0, 0, -1<<63, ""))
}

// wrong are instructions that may not be.
func wrong() []api.Instr {
	out := []api.Instr{{}, {Op: -1}, {Op: 29}, {Op: 1 << 62}, {D: 1}}
	for op := api.InAdd; op <= api.InCall; op++ {
		has := rows[op][1]
		for _, n := range []int{-1, 32, 1, 2048, -2048, 1<<63 - 1, -1 << 63} {
			for _, c := range "DABN" {
				in := made(op, 1, 2, 3, 4, "a")
				*map[rune]*int{'D': &in.D, 'A': &in.A, 'B': &in.B, 'N': &in.N}[c] = n
				here := strings.ContainsRune(has, c) || c == 'N' && strings.ContainsRune(has, 'S')
				if here && (op == api.InLi && c == 'N' || n == 1 || c == 'N' && n >= -2047 && n <= 2047) {
					continue
				}
				out = append(out, in)
			}
		}
		for _, name := range []string{"", "9a", "a b", "a:", "é", "a-b", strings.Repeat("z", 41), "a"} {
			in := made(op, 1, 2, 3, 4, "a")
			in.Name = name
			if strings.Contains(has, "L") && name == "a" || !strings.Contains(has, "L") && name == "" {
				continue
			}
			out = append(out, in)
		}
	}
	return out
}

func TestLabel(t *testing.T) {
	for s, want := range map[string]bool{"": false, "a": true, "Z": true, "_": true, ".": true, "9": false, "9a": false, "a9": true, ".9": true, "f.main": true, "a b": false, "a:": false, "é": false, "a\n": false, "-": false, "a\x00": false, strings.Repeat("q", 40): true, strings.Repeat("q", 41): false, "@": false, "[": false, "`": false, "{": false, "/": false, "a/": false, "a@": false} {
		if instr.Label(s) != want {
			t.Errorf("I1: Label(%q)", s)
		}
	}
}

func TestRight(t *testing.T) {
	for _, in := range some() {
		if !instr.Right(in) {
			t.Error("I1: right:", in)
		}
	}
	for _, in := range wrong() {
		if instr.Right(in) {
			t.Error("I1: not right:", in)
		}
		if s, err := instr.Print(in); s != "" || err != api.ErrArg {
			t.Error("I2: not right:", in, s, err)
		}
		if len(instr.Reads(in)) > 0 || instr.Writes(in) != 0 {
			t.Error("I3: not right:", in)
		}
	}
}

func TestText(t *testing.T) {
	texts := map[string]api.Instr{}
	for _, in := range some() {
		s, err := instr.Print(in)
		if s != text(in) || err != api.OK {
			t.Error("I2: Print", in, "told", s, err, "not", text(in))
		}
		if got, err := instr.Parse(text(in)); got != in || err != api.OK {
			t.Error("I2: Parse", text(in), "told", got, err, "not", in)
		}
		if other, ok := texts[s]; ok && other != in {
			t.Error("I4: two of one text", s)
		}
		texts[s] = in
	}
	if in, err := instr.Parse("ld x5, -8(x2)"); err != api.OK || in != (api.Instr{Op: api.InLd, D: 5, A: 2, N: -8}) {
		t.Error("I2:", in, err)
	}
}

func TestNoText(t *testing.T) {
	for _, s := range []string{"", " ", "ret ", " ret", "ret x1", "RET", "ecall ", "add", "add ", "add x1", "add x1,x2,x3", "add  x1, x2, x3", "add x1, x2,  x3", "add x1, x2, x3 ", "add x1, x2", "add x1, x2, x3, x4", "add x1 , x2, x3", "add x32, x0, x0", "add x01, x0, x0", "add X1, x2, x3", "add 1, 2, 3", "add x-1, x0, x0", "add x, x0, x0", "add x1, x2, x", "add\tx1, x2, x3", "mov x1, x2", "mv x1, x2, x3", "li x1, 01", "li x1, +1", "li x1, -0", "li x1, 9223372036854775808", "li x1, -9223372036854775809", "li x1, 0x1", "li x1, a", "li x1,", "li x1", "li x1, 1_0", "li x1, 1-2", "li x1, --1", "li x1, ", "addi x1, x2, 2048", "addi x1, x2, -2048", "addi x1, 5", "ld x1, 8", "ld x1, 8(x2", "ld x1, (x2)", "ld x1, 2048(x2)", "ld x1, 8(2)", "ld x1, 8 (x2)", "ld x1, 8(x2) ", "sd 8(x2), x1", "la x1, ", "la x1, 9", "la x1, a b", "la x1, " + strings.Repeat("z", 41), "j", "j ", "j 9a", "j a b", "j a:", "j é", "jal x1, a", "beq x1, x2", "beq x1, x2, ", "beq x1, x2, 4", "a:", ".array a 1", "ret\n", "li x1, 99999999999999999999999999", "add x1, x2, x99999999999999999999"} {
		if in, err := instr.Parse(s); in != (api.Instr{}) || err != api.ErrAsm {
			t.Errorf("I2: Parse(%q) told %v %v", s, in, err)
		}
	}
	d := sample.New(14)
	all, fine := some(), 0
	for range 20000 {
		b := []byte(text(sample.Pick(d, all)))
		k := d.Roll(len(b))
		switch d.Roll(3) {
		case 0:
			b[k] = byte(" ,()x-0123456789ab.\t\xff"[d.Roll(21)])
		case 1:
			b = slices.Delete(b, k, k+1)
		case 2:
			b = slices.Insert(b, k, " ,()x-0123456789ab.\t\xff"[d.Roll(21)])
		}
		in, err := instr.Parse(string(b))
		if err != api.OK {
			if err != api.ErrAsm || in != (api.Instr{}) {
				t.Errorf("I2: Parse(%q) told %v %v", b, in, err)
			}
			continue
		}
		fine++
		if s, err := instr.Print(in); s != string(b) || err != api.OK || !instr.Right(in) {
			t.Errorf("I4: %q is read, but told as %q", b, s)
		}
	}
	if fine < 500 {
		t.Error("too few", fine)
	}
}

func TestReads(t *testing.T) {
	for _, in := range some() {
		var want []int
		for _, c := range "AB" {
			if n := map[rune]int{'A': in.A, 'B': in.B}[c]; strings.ContainsRune(rows[in.Op][1], c) && n != 0 && !slices.Contains(want, n) {
				want = append(want, n)
			}
		}
		writes := in.D
		switch in.Op {
		case api.InRet:
			want = []int{1}
		case api.InCall:
			want, writes = []int{10, 17}, 10
		case api.InJal:
			writes = 1
		}
		if got := instr.Reads(in); !slices.Equal(got, want) {
			t.Error("I3: Reads", in, got, want)
		}
		if got := instr.Writes(in); got != writes {
			t.Error("I3: Writes", in, got, writes)
		}
	}
	for s, want := range map[string][]int{"sd x5, 0(x6)": {6, 5}, "sd x5, 0(x5)": {5}, "add x1, x7, x7": {7}, "sub x1, x9, x8": {9, 8}, "beq x0, x3, a": {3}, "bne x3, x0, a": {3}, "add x1, x0, x0": nil, "li x1, 5": nil, "jal a": nil, "ret": {1}, "ecall": {10, 17}} {
		in, _ := instr.Parse(s)
		got := instr.Reads(in)
		if !slices.Equal(got, want) {
			t.Error("I3: Reads", s, got)
		}
		if len(got) > 0 { // R3: what comes out is new memory
			got[0] = 99
			if again := instr.Reads(in); !slices.Equal(again, want) {
				t.Error("R3: Reads", s, again)
			}
		}
	}
}
