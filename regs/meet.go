package regs

import (
	"slices"

	"counterproof/api"
	"counterproof/flow"
	"counterproof/ir"
)

// meeting is which values meet: the lesser one, then the other one.
type meeting map[[2]int]struct{}

func (m meeting) add(v, w int) {
	if v != w {
		m[[2]int{min(v, w), max(v, w)}] = struct{}{}
	}
}

// together adds that all of these meet.
func (m meeting) together(values []int) {
	for i, v := range values {
		for _, w := range values[:i] {
			m.add(v, w)
		}
	}
}

// wanted are the values that are wanted at each block's beginning; false: the function may not be, or has places that are not below Values.
func wanted(f api.Flow) ([][]int, bool) {
	if f.Values < 0 || f.Values > api.MaxValues {
		return nil, false
	}
	live := flow.Live(f)
	return live, len(live) == len(f.Blocks) && !slices.ContainsFunc(f.Blocks, func(b api.Block) bool { return beyond(b, f.Values) })
}

// beyond tells whether a block names a value that there is not.
func beyond(b api.Block, values int) bool {
	above := func(v int) bool { return v >= values }
	for _, x := range b.Ins {
		if slices.ContainsFunc(named(x), above) {
			return true
		}
	}
	return slices.ContainsFunc(asked(b.Term), above)
}

// named are all values that an instruction names.
func named(x api.Ins) []int {
	list := ir.Uses(x)
	if d := ir.Sets(x); d >= 0 {
		list = append(list, d)
	}
	return list
}

// asked are the values that an end names.
func asked(t api.Term) []int {
	switch t.Kind {
	case api.TermIf, api.TermReturn, api.TermTrap:
		return []int{t.A}
	}
	return nil
}

// meetings are the values of a function that meet. Two that are wanted somewhere both were so ever since one of them was set, or since the beginning of block 0; only in blocks that are not come to there may be no such place, so that their beginnings are looked at, too.
func meetings(f api.Flow, live [][]int) meeting {
	m := meeting{}
	reach := flow.Reach(f)
	for b, after := range flow.All(f) {
		if b == 0 || !reach[b] {
			m.together(live[b])
		}
		for i, x := range f.Blocks[b].Ins {
			if d := ir.Sets(x); d >= 0 {
				for _, v := range after[i] {
					m.add(d, v)
				}
			}
		}
	}
	if len(live) > 0 {
		m.params(live[0], min(f.Params, f.Values))
	}
	return m
}

// params adds that those of the first values that are wanted at the beginning meet all of the first ones.
func (m meeting) params(wanted []int, first int) {
	for _, v := range wanted {
		for w := range first {
			if v < first {
				m.add(v, w)
			}
		}
	}
}
