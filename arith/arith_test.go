package arith_test

import (
	"math/big"
	"math/rand/v2"
	"testing"

	"counterproof/api"
	"counterproof/arith"
)

const (
	least    = -1 << 63
	greatest = 1<<63 - 1
)

// edges are numbers at which something turns.
var edges = []int{0, 1, -1, 2, -2, 3, 7, -8, 31, 32, 62, 63, 64, 65, 127, -63, -64, 1 << 31, -1 << 31, 1 << 32, 1<<62 - 1, 1 << 62, greatest - 1, greatest, least, least + 1}

var pairs = []int{api.OpAdd, api.OpSub, api.OpMul, api.OpDiv, api.OpRem, api.OpAnd, api.OpOr, api.OpXor, api.OpShl, api.OpShr, api.OpLt, api.OpLe, api.OpGt, api.OpGe, api.OpEq, api.OpNe}

// numbers are the edges, and numbers of all lengths.
func numbers() []int {
	d := rand.New(rand.NewPCG(1, 2))
	out := append([]int(nil), edges...)
	for range 60 {
		out = append(out, int(d.Uint64())>>d.IntN(64))
	}
	return out
}

// cut is a whole number's lowest 64 bits, in two's complement.
func cut(n *big.Int) int {
	m := new(big.Int).And(n, new(big.Int).SetUint64(1<<64-1))
	return int(m.Uint64())
}

func told(is bool) int {
	if is {
		return 1
	}
	return 0
}

// want is what the document's table says, by numbers without an end.
func want(op, a, b int) (int, bool) {
	x, y, z := big.NewInt(int64(a)), big.NewInt(int64(b)), new(big.Int)
	low := uint(new(big.Int).And(y, big.NewInt(63)).Int64())
	if (op == api.OpDiv || op == api.OpRem) && b == 0 {
		return 0, false
	}
	switch op {
	case api.OpAdd:
		return cut(z.Add(x, y)), true
	case api.OpSub:
		return cut(z.Sub(x, y)), true
	case api.OpMul:
		return cut(z.Mul(x, y)), true
	case api.OpDiv:
		return cut(z.Quo(x, y)), true
	case api.OpRem:
		return cut(z.Rem(x, y)), true
	case api.OpAnd:
		return cut(z.And(x, y)), true
	case api.OpOr:
		return cut(z.Or(x, y)), true
	case api.OpXor:
		return cut(z.Xor(x, y)), true
	case api.OpShl:
		return cut(z.Lsh(x, low)), true
	case api.OpShr:
		return cut(z.Rsh(x, low)), true
	case api.OpLt:
		return told(x.Cmp(y) < 0), true
	case api.OpLe:
		return told(x.Cmp(y) <= 0), true
	case api.OpGt:
		return told(x.Cmp(y) > 0), true
	case api.OpGe:
		return told(x.Cmp(y) >= 0), true
	case api.OpEq:
		return told(x.Cmp(y) == 0), true
	case api.OpNe:
		return told(x.Cmp(y) != 0), true
	}
	return 0, false
}

func TestTwo(t *testing.T) {
	ns := numbers()
	for _, op := range pairs {
		for _, a := range ns {
			for _, b := range ns {
				n, ok := arith.Two(op, a, b)
				if w, wok := want(op, a, b); n != w || ok != wok {
					t.Fatal("A1: Two", op, a, b, "told", n, ok, "not", w, wok)
				}
			}
		}
	}
	for _, op := range []int{0, -1, api.OpNeg, api.OpNot, api.OpInv, 20, 21, greatest, least} {
		if n, ok := arith.Two(op, 5, 3); n != 0 || ok {
			t.Error("A1: no operator of two numbers", op, n, ok)
		}
	}
}

func TestOne(t *testing.T) {
	for _, a := range numbers() {
		x := big.NewInt(int64(a))
		for op, w := range map[int]int{api.OpNeg: cut(new(big.Int).Neg(x)), api.OpNot: told(a == 0), api.OpInv: cut(new(big.Int).Not(x))} {
			if n, ok := arith.One(op, a); n != w || !ok {
				t.Error("A1: One", op, a, "told", n, ok, "not", w)
			}
		}
	}
	for _, op := range append([]int{0, -1, 20, greatest, least}, pairs...) {
		if n, ok := arith.One(op, 5); n != 0 || ok {
			t.Error("A1: no operator of one number", op, n, ok)
		}
	}
}

func TestMachine(t *testing.T) {
	ns := numbers()
	for _, a := range ns {
		for _, b := range ns {
			q, r := -1, a
			if b != 0 {
				q, _ = want(api.OpDiv, a, b)
				r, _ = want(api.OpRem, a, b)
			}
			if n := arith.Div(a, b); n != q {
				t.Error("A2: Div", a, b, n, q)
			}
			if n := arith.Rem(a, b); n != r {
				t.Error("A2: Rem", a, b, n, r)
			}
			x, y := new(big.Int).SetUint64(uint64(a)), new(big.Int).SetUint64(uint64(b))
			if arith.Less(a, b) != (x.Cmp(y) < 0) {
				t.Error("A2: Less", a, b)
			}
		}
	}
	if arith.Div(least, -1) != least || arith.Rem(least, -1) != 0 {
		t.Error("A2: of the least number and -1")
	}
}

func TestSigns(t *testing.T) {
	signs := []string{"", "+", "-", "*", "/", "%", "&", "|", "^", "<<", ">>", "<", "<=", ">", ">=", "==", "!=", "-", "!", "~", ""}
	levels := []int{0, 7, 7, 8, 8, 8, 3, 1, 2, 6, 6, 5, 5, 5, 5, 4, 4, 0, 0, 0, 0}
	for op := range signs {
		if s, ok := arith.Sign(op); s != signs[op] || ok != (signs[op] != "") {
			t.Error("A3: Sign", op, s, ok)
		}
		if l := arith.Level(op); l != levels[op] {
			t.Error("A3: Level", op, l)
		}
	}
	for _, op := range []int{-1, 21, greatest, least} {
		if s, ok := arith.Sign(op); s != "" || ok || arith.Level(op) != 0 {
			t.Error("A3: of no operator", op, s, ok)
		}
	}
}

func two(op, a, b int) int {
	n, _ := arith.Two(op, a, b)
	return n
}

func away(n int) *big.Int { return new(big.Int).Abs(big.NewInt(int64(n))) }

func TestTheorem(t *testing.T) {
	ns := numbers()
	for _, a := range ns {
		for _, b := range ns {
			if b != 0 {
				q, r := two(api.OpDiv, a, b), two(api.OpRem, a, b)
				if two(api.OpAdd, two(api.OpMul, q, b), r) != a || q != arith.Div(a, b) || r != arith.Rem(a, b) {
					t.Error("A4: the quotient times b, and the rest, are not a:", a, b)
				}
				if away(r).Cmp(away(b)) >= 0 {
					t.Error("A4: the rest is no nearer to 0:", a, b)
				}
			}
			up := two(api.OpShl, a, b)
			lost := new(big.Int).Lsh(big.NewInt(int64(a)), uint(b&63)).Cmp(big.NewInt(int64(up))) != 0
			if !lost && two(api.OpShr, up, b) != a {
				t.Error("A4: moved up, and down again:", a, b)
			}
			less, same, above := two(api.OpLt, a, b), two(api.OpEq, a, b), two(api.OpGt, a, b)
			if less+same+above != 1 || less*less != less || same*same != same {
				t.Error("A4: not just one of less, same and above:", a, b)
			}
			if two(api.OpLe, a, b) != 1-above || two(api.OpGe, a, b) != 1-less || two(api.OpNe, a, b) != 1-same {
				t.Error("A4: comparisons that are at odds:", a, b)
			}
		}
	}
}
