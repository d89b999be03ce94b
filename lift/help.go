package lift

import "counterproof/api"

// stackFirst is where the stack's lowest word stands.
const stackFirst = api.StackTop - word*api.StackWords

// helpers are the functions that are called, each behind those that it calls.
func (l *lifter) helpers(landings []int) []api.Func {
	if l.needs[funcCall] > 0 {
		l.need(funcEnd)
	}
	var out []api.Func
	if l.needs[funcEnd] > 0 {
		out = append(out, deep(), end())
	}
	if l.needs[funcCall] > 0 {
		out = append(out, ask())
	}
	if l.needs[funcAt] > 0 {
		out = append(out, at(l.words))
	}
	if l.needs[funcBack] > 0 {
		out = append(out, l.back(landings))
	}
	return out
}

// at tells which word stands at a place.
func at(words int) api.Func {
	a := variable("a")
	within := func(from, to int) api.Expr {
		return two(api.OpAnd, two(api.OpGe, a, number(from)), two(api.OpLt, a, number(to)))
	}
	word3 := func(from int) api.Expr { return two(api.OpShr, plus(a, -from), number(3)) }
	whole := body(when(within(stackFirst, api.StackTop), give(plus(word3(stackFirst), words))))
	if words > 0 {
		end := api.DataBase + word*words
		whole = append(whole, when(within(api.DataBase, end), give(word3(api.DataBase))))
	}
	return api.Func{Name: funcAt, Params: []string{"a"}, Body: body(when(same(two(api.OpAnd, a, number(word-1)), 0), whole...), fault())}
}

// back tells which block InRet goes to.
func (l *lifter) back(landings []int) api.Func {
	if n := len(landings); n > 0 && landings[n-1] == len(l.list) {
		landings = landings[:n-1] // there is no instruction
	}
	f := api.Func{Name: funcBack, Params: []string{"a"}}
	if len(landings) > 0 {
		f.Body = l.landing(landings)
	}
	f.Body = append(f.Body, fault())
	return f
}

// landing returns the block that begins at one of some places.
func (l *lifter) landing(places []int) []api.Stmt {
	a, n := variable("a"), len(places)
	if n == 1 {
		return body(when(same(a, width*places[0]), give(number(l.block[places[0]]))))
	}
	return body(choose(two(api.OpLt, a, number(width*places[n/2])), l.landing(places[:n/2]), l.landing(places[n/2:])))
}

// ask is an ecall that does not end the run with a code; it tells what x10 is behind it.
func ask() api.Func {
	n, a := variable("n"), variable("a")
	return api.Func{Name: funcCall, Params: []string{"n", "a"}, Body: body(
		when(same(n, api.CallPrint), tell(a), give(a)),
		when(same(n, api.CallRead), give(api.Expr{Kind: api.ExprRead})),
		when(same(n, api.CallEnd), give(call(funcEnd, a))),
		when(same(n, api.CallTrap), trap(a)),
		fault(),
	)}
}

// end ends the run with a status, by doing what ends so.
func end() api.Func {
	a := variable("a")
	return api.Func{Name: funcEnd, Params: []string{"a"}, Body: body(
		when(same(a, api.StatDiv), give(two(api.OpDiv, number(1), number(0)))),
		when(same(a, api.StatBounds), give(element(number(-1)))),
		when(same(a, api.StatDepth), give(call(funcDeep))),
		fault(),
	)}
}

func deep() api.Func { return api.Func{Name: funcDeep, Body: body(give(call(funcDeep)))} }
