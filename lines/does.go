package lines

import (
	"strconv"
	"strings"

	"counterproof/api"
	"counterproof/asm"
	"counterproof/blocks"
	"counterproof/check"
	"counterproof/compile"
	"counterproof/eval"
	"counterproof/lift"
	"counterproof/mach"
	"counterproof/parse"
	"counterproof/round"
	"counterproof/tree"
)

func (w *workshop) fresh(words []string) string {
	if len(words) != 1 {
		return odd
	}
	w.text = ""
	return ""
}

func (w *workshop) read(words []string) string {
	var in []int
	for _, word := range words[1:] {
		n, ok := number(word)
		if !ok {
			return odd
		}
		in = append(in, n)
	}
	w.in = in
	return ""
}

func (w *workshop) setLevel(words []string) string {
	n, ok := single(words)
	switch {
	case !ok:
		return odd
	case n < 0 || n > maxLevel:
		return failed(api.ErrArg, 0)
	}
	w.level = n
	return ""
}

func (w *workshop) print(words []string) string {
	if len(words) != 1 {
		return odd
	}
	p, err, line := parse.Parse(w.text)
	if err != api.OK {
		return failed(err, line)
	}
	s, _ := tree.Print(p)
	return strconv.Itoa(strings.Count(s, "\n"))
}

func (w *workshop) check(words []string) string {
	if len(words) != 1 {
		return odd
	}
	p, err, line := parse.Parse(w.text)
	if err != api.OK {
		return failed(err, line)
	}
	if err, at := check.Check(p); err != api.OK {
		return failed(err, compile.Line(p, at[0], at[1]))
	}
	return "ok"
}

// take is what is told of code that was made: the error, or, if it is the workshop's code now, how many lines it has.
func (w *workshop) take(c api.Code, err api.Errno, line int) string {
	if err != api.OK {
		return failed(err, line)
	}
	w.code = c
	return strconv.Itoa(len(c.Lines))
}

func (w *workshop) compile(words []string) string {
	if len(words) != 1 {
		return odd
	}
	return w.take(compile.Compile(w.text, w.level))
}

func (w *workshop) assemble(words []string) string {
	if len(words) != 1 {
		return odd
	}
	return w.take(asm.Parse(w.text))
}

func (w *workshop) again(words []string) string {
	if len(words) != 1 {
		return odd
	}
	c, err := round.Again(w.code, w.level)
	return w.take(c, err, 0)
}

func (w *workshop) lift(words []string) string {
	if len(words) != 1 {
		return odd
	}
	p, err := lift.Lift(w.code)
	if err != api.OK {
		return failed(err, 0)
	}
	w.text, _ = tree.Print(p)
	return strconv.Itoa(len(w.text))
}

func (w *workshop) show(words []string) string {
	if len(words) != 1 {
		return odd
	}
	w.text, _ = asm.Print(w.code)
	return ""
}

func (w *workshop) eval(words []string) string {
	n, ok := single(words)
	if !ok {
		return odd
	}
	p, err, line := parse.Parse(w.text)
	if err != api.OK {
		return failed(err, line)
	}
	if !steps(n) {
		return failed(api.ErrArg, 0)
	}
	return ran(eval.Run(p, w.in, n))
}

func (w *workshop) run(words []string) string {
	n, ok := single(words)
	switch {
	case !ok:
		return odd
	case !steps(n):
		return failed(api.ErrArg, 0)
	}
	return ran(mach.Run(w.code, w.in, n))
}

// steps tells whether a run may have so many.
func steps(n int) bool { return n >= 0 && n <= maxSteps }

func (w *workshop) blocks(words []string) string {
	if len(words) != 1 {
		return odd
	}
	list, _ := asm.Flat(w.code)
	return strconv.Itoa(len(blocks.Split(w.code))) + " " + strconv.Itoa(len(list))
}
