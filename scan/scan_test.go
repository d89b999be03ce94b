package scan_test

import (
	"math/rand/v2"
	"reflect"
	"regexp"
	"strconv"
	"strings"
	"testing"
	"unicode/utf8"

	"counterproof/api"
	"counterproof/scan"
)

var (
	words = []string{"int", "if", "else", "while", "break", "continue", "return", "print", "read", "trap"}
	signs = strings.Fields("( ) { } [ ] , ; = | ^ & + - * / % ! ~ < > == != <= >= << >>")
)

func name(s string, line int) api.Token { return api.Token{Kind: api.TokName, Text: s, Line: line} }
func word(s string, line int) api.Token { return api.Token{Kind: api.TokWord, Text: s, Line: line} }
func sign(s string, line int) api.Token { return api.Token{Kind: api.TokSign, Text: s, Line: line} }
func number(s string, n, line int) api.Token {
	return api.Token{Kind: api.TokNumber, Text: s, N: n, Line: line}
}
func end(line int) api.Token { return api.Token{Kind: api.TokEnd, Line: line} }

// good asks for tokens.
func good(t *testing.T, s string, want ...api.Token) {
	t.Helper()
	got, err, line := scan.Scan(s)
	if err != api.OK || line != 0 || !reflect.DeepEqual(got, want) {
		t.Errorf("S2: Scan(%q) told %v %v %v, not %v", s, got, err, line, want)
	}
}

// bad asks for an error and its line.
func bad(t *testing.T, s string, want api.Errno, at int) {
	t.Helper()
	if got, err, line := scan.Scan(s); err != want || line != at || len(got) != 0 {
		t.Errorf("S2: Scan(%q) told %v %v %v, not %v %v", s, got, err, line, want, at)
	}
}

func TestName(t *testing.T) {
	for s, want := range map[string]bool{
		"": false, "a": true, "Z": true, "_": true, "z": true, "A": true, "a9": true, "9a": false, "x_1": true, "é": false, "aé": false, "a b": false, "a-b": false, " a": false, "a\n": false, "a\x00": false, "a\xff": false, "@": false, "[": false, "`": false, "{": false, "a/": false, "a:": false,
		strings.Repeat("a", 20): true, strings.Repeat("a", 21): false, "inta": true, "Int": true, "_int": true, "main": true,
	} {
		if scan.Name(s) != want {
			t.Errorf("S1: Name(%q)", s)
		}
		if scan.Word(s) {
			t.Errorf("S1: Word(%q)", s)
		}
	}
	for _, s := range words {
		if scan.Name(s) || !scan.Word(s) {
			t.Errorf("S1: the word %q", s)
		}
	}
}

func TestTokens(t *testing.T) {
	good(t, "", end(1))
	good(t, "x1 = 'é';", name("x1", 1), sign("=", 1), number("'é'", 233, 1), sign(";", 1), end(1))
	good(t, "\n\n", end(3))
	good(t, "a\r\n\tb \n", name("a", 1), name("b", 2), end(3))
	good(t, "12ab", number("12", 12, 1), name("ab", 1), end(1))
	good(t, "0 1 10", number("0", 0, 1), number("1", 1, 1), number("10", 10, 1), end(1))
	good(t, "9223372036854775807", number("9223372036854775807", 1<<63-1, 1), end(1))
	good(t, "0x", number("0", 0, 1), name("x", 1), end(1))
	good(t, "a//b\nc// d // e", name("a", 1), name("c", 2), end(2))
	good(t, "// é 世\n", end(2))
	good(t, "//", end(1))
	good(t, "/ /", sign("/", 1), sign("/", 1), end(1))
	good(t, "/*", sign("/", 1), sign("*", 1), end(1))
	good(t, "===", sign("==", 1), sign("=", 1), end(1))
	good(t, "<<=>>>=!==<>", sign("<<", 1), sign("=", 1), sign(">>", 1), sign(">=", 1), sign("!=", 1), sign("=", 1), sign("<", 1), sign(">", 1), end(1))
	good(t, "' ''~''\x7f''世'", number("' '", 32, 1), number("'~'", 126, 1), number("'\x7f'", 127, 1), number("'世'", 0x4e16, 1), end(1))
	good(t, "'/''\"''\U0010ffff'", number("'/'", 47, 1), number("'\"'", 34, 1), number("'\U0010ffff'", 0x10ffff, 1), end(1))
	good(t, "'0'1", number("'0'", 48, 1), number("1", 1, 1), end(1))
	good(t, strings.Repeat("a", 20)+" intint", name(strings.Repeat("a", 20), 1), name("intint", 1), end(1))
	good(t, strings.Repeat(" ", 20000), end(1))
	good(t, strings.Repeat("\n", 20000), end(20001))
	for _, w := range words {
		good(t, w+"\n"+w, word(w, 1), word(w, 2), end(2))
	}
	for _, s := range signs {
		good(t, s, sign(s, 1), end(1))
	}
}

func TestErrors(t *testing.T) {
	bad(t, strings.Repeat(" ", 20001), api.ErrArg, 0)
	bad(t, strings.Repeat("@", 20001), api.ErrArg, 0)
	bad(t, strings.Repeat(" ", 19999)+"@", api.ErrLex, 1)
	for _, s := range []string{
		"@", "#", "$", "?", ":", ".", "\"", "\\", "`", "\x00", "\x0b", "\x0c", "\x7f", "\xff", "é", "\ufffd", "\u00a0",
		strings.Repeat("a", 21), "01", "00", "007", "9223372036854775808", "99999999999999999999999",
		"'", "''", "'''", "'a", "'ab'", "'\\'", "'\\n'", "'\n'", "'\t'", "'\x1f'", "'\xff'", "'\ufffd'", "'\xc3'", "'é", "'a\n'",
		"//\xff", "//\ufffd", "// a\xc3\n", "//\xed\xa0\x80",
	} {
		bad(t, s, api.ErrLex, 1)
		bad(t, "a\n\n b "+s+"\n@", api.ErrLex, 3)
	}
	bad(t, "a\n// é\n'b'\n'c\n'd'", api.ErrLex, 4)
}

// others tells tokens as the document's words have it, by other means than a walk over characters.
func others(s string) ([]api.Token, int) {
	blanks, names, digits, two := regexp.MustCompile(`^[ \t\r\n]+`), regexp.MustCompile(`^[A-Za-z_][A-Za-z_0-9]*`), regexp.MustCompile(`^[0-9]+`), regexp.MustCompile(`^(==|!=|<=|>=|<<|>>|[(){}\[\],;=|^&+\-*/%!~<>])`)
	var out []api.Token
	for line := 1; ; {
		if len(s) == 0 {
			return append(out, end(line)), 0
		}
		n := 0
		if strings.HasPrefix(s, "//") {
			n = len(strings.SplitN(s, "\n", 2)[0])
			if strings.ContainsRune(s[:n], utf8.RuneError) || !utf8.ValidString(s[:n]) {
				return nil, line
			}
		} else if w := blanks.FindString(s); w != "" {
			n = len(w)
			line += strings.Count(w, "\n")
		} else if w := names.FindString(s); w != "" {
			n = len(w)
			if scan.Word(w) {
				out = append(out, word(w, line))
			} else if n <= 20 {
				out = append(out, name(w, line))
			} else {
				return nil, line
			}
		} else if w := digits.FindString(s); w != "" {
			n = len(w)
			k, err := strconv.ParseInt(w, 10, 64)
			if err != nil || strconv.Itoa(int(k)) != w {
				return nil, line
			}
			out = append(out, number(w, int(k), line))
		} else if w := two.FindString(s); w != "" {
			n = len(w)
			out = append(out, sign(w, line))
		} else if s[0] == '\'' {
			r, k := utf8.DecodeRuneInString(s[1:])
			if r == utf8.RuneError || r < 32 || r == '\'' || r == '\\' || !strings.HasPrefix(s[1+k:], "'") {
				return nil, line
			}
			n = k + 2
			out = append(out, number(s[:n], int(r), line))
		} else {
			return nil, line
		}
		s = s[n:]
	}
}

func TestRandom(t *testing.T) {
	d := rand.New(rand.NewPCG(3, 4))
	pieces := append(append([]string{" ", "\n", "\t", "\r", "//", "// x", "// é\n", "'a'", "'", "é", "0", "7", "42", "x", "y1", "\xff", "@", "\\", strings.Repeat("b", 19)}, words...), signs...)
	fine := 0
	for range 20000 {
		s := ""
		for range d.IntN(8) {
			s += pieces[d.IntN(len(pieces))]
		}
		if want, line := others(s); line != 0 {
			bad(t, s, api.ErrLex, line)
		} else {
			good(t, s, want...)
			fine++
		}
	}
	if fine < 2000 {
		t.Error("too few texts of tokens", fine)
	}
}

// TestTheorem: S3.
func TestTheorem(t *testing.T) {
	d := rand.New(rand.NewPCG(5, 6))
	tokens := []api.Token{name("x", 0), name("_9", 0), name(strings.Repeat("q", 20), 0), number("0", 0, 0), number("9223372036854775807", 1<<63-1, 0), number("'é'", 233, 0)}
	for _, w := range words {
		tokens = append(tokens, word(w, 0))
	}
	for _, s := range signs {
		tokens = append(tokens, sign(s, 0))
	}
	spaces := []string{" ", "\t", "\r", "\n", "// é ' \" @ \\ 世\n", "//\n"}
	for range 3000 {
		text, line := "", 1
		var want []api.Token
		for range d.IntN(12) {
			for range 1 + d.IntN(3) {
				space := spaces[d.IntN(len(spaces))]
				text += space
				line += strings.Count(space, "\n")
			}
			tok := tokens[d.IntN(len(tokens))]
			tok.Line = line
			text, want = text+tok.Text+" ", append(want, tok) // the blank keeps a slash and a comment apart
		}
		for range d.IntN(3) {
			text, line = text+"// behind\n \t", line+1
		}
		good(t, text, append(want, end(line))...)
	}
}

// TestMemory: R3 and R4.
func TestMemory(t *testing.T) {
	a, _, _ := scan.Scan("a + b")
	a[0].Text = "other"
	_ = append(a[:1], api.Token{})
	good(t, "a + b", name("a", 1), sign("+", 1), name("b", 1), end(1))
}
