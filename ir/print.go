package ir

import (
	"strconv"
	"strings"

	"counterproof/api"
	"counterproof/arith"
)

// Print is a unit's text.
func Print(u api.Unit) (string, api.Errno) {
	if err, _ := Check(u); err != api.OK {
		return "", api.ErrArg
	}
	var w strings.Builder
	for _, a := range u.Arrays {
		w.WriteString("array " + a.Name + " " + strconv.Itoa(a.Size) + "\n")
	}
	for _, f := range u.Flows {
		w.WriteString("func " + f.Name + " " + strconv.Itoa(f.Params) + " " + strconv.Itoa(f.Values) + "\n")
		for i, b := range f.Blocks {
			w.WriteString(blockName(i) + ":\n")
			for _, x := range b.Ins {
				w.WriteString("\t" + insText(x) + "\n")
			}
			w.WriteString("\t" + termText(b.Term) + "\n")
		}
	}
	return w.String(), api.OK
}

func value(v int) string { return "v" + strconv.Itoa(v) }

func blockName(i int) string { return "b" + strconv.Itoa(i) }

func insText(x api.Ins) string {
	sign, _ := arith.Sign(x.Op)
	switch x.Kind {
	case api.InsStore:
		return x.Name + "[" + value(x.A) + "] = " + value(x.B)
	case api.InsPrint:
		return "print " + value(x.A)
	}
	set := value(x.D) + " = "
	switch x.Kind {
	case api.InsNum:
		return set + strconv.Itoa(x.N)
	case api.InsMove:
		return set + value(x.A)
	case api.InsOne:
		return set + sign + " " + value(x.A)
	case api.InsTwo:
		return set + value(x.A) + " " + sign + " " + value(x.B)
	case api.InsLoad:
		return set + x.Name + "[" + value(x.A) + "]"
	case api.InsRead:
		return set + "read"
	}
	var args []string
	for _, v := range x.Args {
		args = append(args, value(v))
	}
	return set + x.Name + "(" + strings.Join(args, ", ") + ")"
}

func termText(t api.Term) string {
	switch t.Kind {
	case api.TermJump:
		return "jump " + blockName(t.To)
	case api.TermIf:
		return "if " + value(t.A) + " " + blockName(t.To) + " " + blockName(t.Else)
	case api.TermReturn:
		return "return " + value(t.A)
	}
	return "trap " + value(t.A)
}
