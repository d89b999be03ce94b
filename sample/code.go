package sample

import (
	"strconv"

	"counterproof/api"
)

// pool are the registers that code is made of: few of them, so that what one instruction sets another one reads.
func pool() []int { return []int{0, 1, 2, 5, 6, 7, 10, 10, 17, 31} }

// Code is code of up to so many pieces, each of a few instructions, that chapter 8's Check has no error of. What it does is anything at all.
func Code(d *Dice, pieces int) api.Code {
	var c api.Code
	for i := range d.Roll(4) {
		c.Arrays = append(c.Arrays, api.Array{Name: "a" + strconv.Itoa(i), Size: 1 + d.Roll(6)})
	}
	n := 1 + d.Roll(pieces)
	labels := 1 + d.Roll(6)
	at := make([]int, labels) // of each label, the piece ahead of which it stands
	for i := range at {
		at[i] = d.Roll(n + 1)
	}
	for piece := range n + 1 {
		for i, k := range at {
			if k == piece {
				c.Lines = append(c.Lines, api.Line{Label: label(i)})
			}
		}
		if piece < n {
			for _, in := range codePiece(d, c.Arrays, label(d.Roll(labels))) {
				c.Lines = append(c.Lines, api.Line{In: in})
			}
		}
	}
	return c
}

func label(i int) string { return "L" + strconv.Itoa(i) }

func codePiece(d *Dice, arrays []api.Array, to string) []api.Instr {
	r := func() int { return Pick(d, pool()) }
	switch d.Roll(14) {
	case 0, 1, 2:
		return []api.Instr{{Op: api.InAdd + d.Roll(12), D: r(), A: r(), B: r()}}
	case 3:
		return []api.Instr{{Op: api.InSeqz + d.Roll(3), D: r(), A: r()}}
	case 4, 5:
		return []api.Instr{{Op: api.InLi, D: r(), N: d.Number()}}
	case 6:
		return []api.Instr{{Op: api.InAddi, D: r(), A: r(), N: d.Roll(4095) - api.MaxImm}}
	case 7:
		return []api.Instr{{Op: api.InBeq + d.Roll(4), A: r(), B: r(), Name: to}}
	case 8:
		return []api.Instr{{Op: Pick(d, []int{api.InJ, api.InJal, api.InJal}), Name: to}}
	case 9:
		return []api.Instr{{Op: Pick(d, []int{api.InRet, api.InCall})}}
	case 10, 11:
		return memoryPiece(d, arrays, r(), r())
	}
	return callPiece(d, r())
}

// memoryPiece mostly finds a word.
func memoryPiece(d *Dice, arrays []api.Array, base, other int) []api.Instr {
	in := api.Instr{Op: api.InLd, D: other, A: base, N: 8 * (d.Roll(5) - 3)}
	if d.Once(2) {
		in = api.Instr{Op: api.InSd, A: base, B: other, N: in.N}
	}
	switch {
	case d.Once(12):
		in.N += d.Roll(8)
		return []api.Instr{in}
	case len(arrays) > 0 && d.Once(2):
		a := Pick(d, arrays)
		in.N = 8 * d.Roll(a.Size+d.Roll(8)/7)
		return []api.Instr{{Op: api.InLa, D: base, Name: a.Name}, in}
	}
	in.A, in.N = 2, 8*(d.Roll(4)-4)
	return []api.Instr{in}
}

// callPiece asks for something that there is, and ends the run now and then.
func callPiece(d *Dice, from int) []api.Instr {
	call := api.Instr{Op: api.InCall}
	what := Pick(d, []int{api.CallPrint, api.CallPrint, api.CallPrint, api.CallPrint, api.CallPrint, api.CallRead, api.CallRead, api.CallExit, api.CallEnd, api.CallTrap, 6})
	out := []api.Instr{{Op: api.InLi, D: 17, N: what}}
	if what == api.CallEnd {
		return append(out, api.Instr{Op: api.InLi, D: 10, N: d.Roll(7)}, call)
	}
	if what != api.CallRead {
		out = append(out, api.Instr{Op: api.InMv, D: 10, A: from})
	}
	return append(out, call)
}
