package sample

import (
	"strconv"

	"counterproof/api"
)

// Unit is a unit that chapter 10's Check has no error of. What it does is anything at all.
func Unit(d *Dice) api.Unit {
	var u api.Unit
	for i := range d.Roll(3) {
		u.Arrays = append(u.Arrays, api.Array{Name: "a" + strconv.Itoa(i), Size: 1 + d.Roll(6)})
	}
	for i := range 1 + d.Roll(4) {
		f := api.Flow{Name: "f" + strconv.Itoa(i), Params: d.Roll(4)}
		if i == 0 {
			f.Name, f.Params = "main", 0
		}
		f.Values = f.Params + 1 + d.Roll(Pick(d, []int{3, 6, 30}))
		u.Flows = append(u.Flows, f)
	}
	for i := range u.Flows {
		f := &u.Flows[i]
		blocks := 1 + d.Roll(7)
		for range blocks {
			var b api.Block
			for range d.Roll(7) {
				b.Ins = append(b.Ins, ins(d, u, f.Values))
			}
			b.Term = term(d, blocks, f.Values)
			f.Blocks = append(f.Blocks, b)
		}
	}
	k := d.Roll(len(u.Flows))
	u.Flows[0], u.Flows[k] = u.Flows[k], u.Flows[0]
	return u
}

func ins(d *Dice, u api.Unit, values int) api.Ins {
	v := func() int { return d.Roll(values) }
	switch d.Roll(16) {
	case 0, 1, 2, 3:
		return api.Ins{Kind: api.InsNum, D: v(), N: d.Number()}
	case 4, 5:
		return api.Ins{Kind: api.InsMove, D: v(), A: v()}
	case 6:
		return api.Ins{Kind: api.InsOne, D: v(), A: v(), Op: api.OpNeg + d.Roll(3)}
	case 7:
		return api.Ins{Kind: api.InsRead, D: v()}
	case 8, 9, 10:
		return api.Ins{Kind: api.InsPrint, A: v()}
	case 11:
		if len(u.Arrays) > 0 {
			return api.Ins{Kind: api.InsLoad, D: v(), A: v(), Name: Pick(d, u.Arrays).Name}
		}
	case 12:
		if len(u.Arrays) > 0 {
			return api.Ins{Kind: api.InsStore, A: v(), B: v(), Name: Pick(d, u.Arrays).Name}
		}
	case 13:
		f := Pick(d, u.Flows)
		x := api.Ins{Kind: api.InsCall, D: v(), Name: f.Name}
		for range f.Params {
			x.Args = append(x.Args, v())
		}
		return x
	}
	return api.Ins{Kind: api.InsTwo, D: v(), A: v(), B: v(), Op: 1 + d.Roll(16)}
}

func term(d *Dice, blocks, values int) api.Term {
	switch d.Roll(8) {
	case 0, 1:
		return api.Term{Kind: api.TermJump, To: d.Roll(blocks)}
	case 2, 3, 4, 5:
		return api.Term{Kind: api.TermIf, A: d.Roll(values), To: d.Roll(blocks), Else: d.Roll(blocks)}
	case 6:
		if d.Once(4) {
			return api.Term{Kind: api.TermTrap, A: d.Roll(values)}
		}
	}
	return api.Term{Kind: api.TermReturn, A: d.Roll(values)}
}
