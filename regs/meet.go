package regs

import (
	"slices"

	"counterproof/api"
	"counterproof/flow"
	"counterproof/ir"
)

// meeting is which values meet: the lesser one, then the other one.
type meeting map[[2]int]struct{}

func (m meeting) add(v, w int) {
	if v != w {
		m[[2]int{min(v, w), max(v, w)}] = struct{}{}
	}
}

// together adds that all of these meet.
func (m meeting) together(values []int) {
	for i, v := range values {
		for _, w := range values[:i] {
			m.add(v, w)
		}
	}
}

// right tells whether a function may be, with all of its places below Values.
func right(f api.Flow) bool {
	if f.Values < 0 || f.Values > api.MaxValues || len(flow.Live(f)) != len(f.Blocks) {
		return false
	}
	beyond := func(v int) bool { return v >= f.Values }
	for _, b := range f.Blocks {
		if slices.ContainsFunc(asked(b.Term), beyond) {
			return false
		}
		for _, x := range b.Ins {
			if slices.ContainsFunc(named(x), beyond) {
				return false
			}
		}
	}
	return true
}

// named are all values that an instruction names.
func named(x api.Ins) []int {
	list := ir.Uses(x)
	if d := ir.Sets(x); d >= 0 {
		list = append(list, d)
	}
	return list
}

// asked are the values that an end names.
func asked(t api.Term) []int {
	switch t.Kind {
	case api.TermIf, api.TermReturn, api.TermTrap:
		return []int{t.A}
	}
	return nil
}

// meetings are the values of a function that meet. Two that are wanted somewhere both were so ever since one of them was set, or since the beginning of block 0; only in blocks that are not come to there may be no such place, so that their beginnings are looked at, too.
func meetings(f api.Flow) meeting {
	m := meeting{}
	live, reach := flow.Live(f), flow.Reach(f)
	for b, after := range flow.All(f) {
		if b == 0 || !reach[b] {
			m.together(live[b])
		}
		for i, x := range f.Blocks[b].Ins {
			if d := ir.Sets(x); d >= 0 {
				for _, v := range after[i] {
					m.add(d, v)
				}
			}
		}
	}
	if len(live) > 0 {
		params := min(f.Params, f.Values)
		for _, v := range live[0] {
			for w := range params {
				if v < params {
					m.add(v, w)
				}
			}
		}
	}
	return m
}
