package lift

import "counterproof/api"

// stackFirst is where the stack's lowest word stands.
const stackFirst = api.StackTop - word*api.StackWords

// helpers are the functions that are called, each behind those that it calls.
func (l *lifter) helpers(landings []int) []api.Func {
	if l.needs[funcCall] > 0 {
		l.need(funcEnd)
	}
	var out []api.Func
	if l.needs[funcEnd] > 0 {
		out = append(out, deep(), end())
	}
	if l.needs[funcCall] > 0 {
		out = append(out, called())
	}
	if l.needs[funcGet] > 0 {
		out = append(out, l.reaches(funcGet, "a", "n"))
	}
	if l.needs[funcPut] > 0 {
		out = append(out, l.reaches(funcPut, "a", "n", "b"))
	}
	if l.needs[funcBack] > 0 {
		out = append(out, l.back(landings))
	}
	return out
}

// reaches looks for the word that stands at the sum of its first two params, and returns it, or puts the third one there.
func (l *lifter) reaches(name string, params ...string) api.Func {
	a := variable("a")
	does := func(word api.Expr) []api.Stmt {
		if len(params) > 2 {
			return body(store(word, variable(params[2])), give(number(0)))
		}
		return body(give(element(word)))
	}
	within := func(from, to, first int) api.Stmt {
		is := two(api.OpAnd, two(api.OpGe, a, number(from)), two(api.OpLt, a, number(to)))
		return when(is, does(plus(two(api.OpShr, plus(a, -from), number(3)), first))...)
	}
	list := body(within(stackFirst, api.StackTop, l.words))
	if l.words > 0 {
		list = append(list, within(api.DataBase, api.DataBase+word*l.words, 0))
	}
	whole := when(same(two(api.OpAnd, a, number(word-1)), 0), list...)
	return api.Func{Name: name, Params: params, Body: body(set("a", two(api.OpAdd, a, variable("n"))), whole, fault())}
}

// back tells which block InRet goes to.
func (l *lifter) back(landings []int) api.Func {
	if n := len(landings); n > 0 && landings[n-1] == len(l.list) {
		landings = landings[:n-1] // there is no instruction
	}
	f := api.Func{Name: funcBack, Params: []string{"a"}}
	if len(landings) > 0 {
		f.Body = l.landing(landings)
	}
	f.Body = append(f.Body, fault())
	return f
}

// landing returns the block that begins at one of some places.
func (l *lifter) landing(places []int) []api.Stmt {
	a, n := variable("a"), len(places)
	if n == 1 {
		return body(when(same(a, width*places[0]), give(number(l.block[places[0]]))))
	}
	return body(choose(two(api.OpLt, a, number(width*places[n/2])), l.landing(places[:n/2]), l.landing(places[n/2:])))
}

// called is an ecall that does not end the run with a code; it tells what x10 is behind it.
func called() api.Func {
	n, a := variable("n"), variable("a")
	return api.Func{Name: funcCall, Params: []string{"n", "a"}, Body: body(
		when(same(n, api.CallPrint), tell(a), give(a)),
		when(same(n, api.CallRead), give(api.Expr{Kind: api.ExprRead})),
		when(same(n, api.CallEnd), give(call(funcEnd, a))),
		when(same(n, api.CallTrap), trap(a)),
		fault(),
	)}
}

// end ends the run with a status, by doing what ends so.
func end() api.Func {
	a := variable("a")
	return api.Func{Name: funcEnd, Params: []string{"a"}, Body: body(
		when(same(a, api.StatDiv), give(two(api.OpDiv, number(1), number(0)))),
		when(same(a, api.StatBounds), give(element(number(-1)))),
		when(same(a, api.StatDepth), give(call(funcDeep))),
		fault(),
	)}
}

func deep() api.Func { return api.Func{Name: funcDeep, Body: body(give(call(funcDeep)))} }
