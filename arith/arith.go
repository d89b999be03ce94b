// Package arith is layer 1: what operators make of numbers of 64 bits, see the document's chapter 01-arith.
package arith

import "counterproof/api"

// pair is the row of an operator of two numbers; whole tells that it makes something of every two.
type pair struct {
	sign  string
	level int
	whole bool
	made  func(a, b int) int
}

// single is the row of an operator of one number.
type single struct {
	sign string
	made func(a int) int
}

// pairOf is a row of the table of operators of two numbers. It is a switch, not a table that is built anew, because every step of a run asks for a row.
func pairOf(op int) (pair, bool) {
	switch op {
	case api.OpOr:
		return pair{"|", 1, true, func(a, b int) int { return a | b }}, true
	case api.OpXor:
		return pair{"^", 2, true, func(a, b int) int { return a ^ b }}, true
	case api.OpAnd:
		return pair{"&", 3, true, func(a, b int) int { return a & b }}, true
	case api.OpEq:
		return pair{"==", 4, true, func(a, b int) int { return bit(a == b) }}, true
	case api.OpNe:
		return pair{"!=", 4, true, func(a, b int) int { return bit(a != b) }}, true
	case api.OpLt:
		return pair{"<", 5, true, func(a, b int) int { return bit(a < b) }}, true
	case api.OpLe:
		return pair{"<=", 5, true, func(a, b int) int { return bit(a <= b) }}, true
	case api.OpGt:
		return pair{">", 5, true, func(a, b int) int { return bit(a > b) }}, true
	case api.OpGe:
		return pair{">=", 5, true, func(a, b int) int { return bit(a >= b) }}, true
	case api.OpShl:
		return pair{"<<", 6, true, func(a, b int) int { return a << uint(b&63) }}, true
	case api.OpShr:
		return pair{">>", 6, true, func(a, b int) int { return a >> uint(b&63) }}, true
	case api.OpAdd:
		return pair{"+", 7, true, func(a, b int) int { return a + b }}, true
	case api.OpSub:
		return pair{"-", 7, true, func(a, b int) int { return a - b }}, true
	case api.OpMul:
		return pair{"*", 8, true, func(a, b int) int { return a * b }}, true
	case api.OpDiv:
		return pair{"/", 8, false, Div}, true
	case api.OpRem:
		return pair{"%", 8, false, Rem}, true
	}
	return pair{}, false
}

// singleOf is a row of the table of operators of one number.
func singleOf(op int) (single, bool) {
	switch op {
	case api.OpNeg:
		return single{"-", func(a int) int { return -a }}, true
	case api.OpNot:
		return single{"!", func(a int) int { return bit(a == 0) }}, true
	case api.OpInv:
		return single{"~", func(a int) int { return ^a }}, true
	}
	return single{}, false
}

func bit(holds bool) int {
	if holds {
		return 1
	}
	return 0
}

// Two is what an operator makes of two numbers; false: it makes nothing of them.
func Two(op, a, b int) (int, bool) {
	row, ok := pairOf(op)
	if !ok || !row.whole && b == 0 {
		return 0, false
	}
	return row.made(a, b), true
}

// One is what an operator makes of one number; false: it is none of these.
func One(op, a int) (int, bool) {
	row, ok := singleOf(op)
	if !ok {
		return 0, false
	}
	return row.made(a), true
}

// Div is the machine's quotient, which has an answer always.
func Div(a, b int) int {
	if b == 0 {
		return -1
	}
	return a / b
}

// Rem is the machine's remainder, which has an answer always.
func Rem(a, b int) int {
	if b == 0 {
		return a
	}
	return a % b
}

// Less tells whether a number is less than another one, both taken as numbers without a sign.
func Less(a, b int) bool { return uint(a) < uint(b) }

// Sign is an operator's text.
func Sign(op int) (string, bool) {
	if row, ok := pairOf(op); ok {
		return row.sign, true
	}
	row, ok := singleOf(op)
	return row.sign, ok
}

// Level is how strongly an operator of two numbers binds; 0 of others.
func Level(op int) int {
	row, _ := pairOf(op)
	return row.level
}
