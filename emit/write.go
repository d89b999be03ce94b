package emit

import (
	"slices"
	"strconv"

	"counterproof/api"
	"counterproof/flow"
	"counterproof/ir"
	"counterproof/regs"
)

// The registers that have a part of their own.
const (
	regNone  = 0
	regBack  = 1
	regStack = 2
	regFirst = 3 // regFirst and regOther are for what stands in a slot
	regOther = 4
	regDepth = 8 // how many calls go on
	regValue = 10
	regParam = 11 // the first one
	regCall  = 17
)

const word = 8

// The labels that are no function's and no block's.
const (
	labelDiv    = "e.div"
	labelBounds = "e.bounds"
	labelDepth  = "e.depth"
	labelEnd    = "e.end"
)

// writer is code that is being written, and the function that is.
type writer struct {
	api.Code
	unit         api.Unit
	instructions int
	number       int // of the function
	flow         api.Flow
	places       []int
	saved        []int            // registers that the function gives to values
	fresh        map[int]struct{} // values that are to be 0 before they are asked for
}

func (w *writer) put(in api.Instr) {
	w.Lines = append(w.Lines, api.Line{In: in})
	w.instructions++
}

func (w *writer) label(name string) { w.Lines = append(w.Lines, api.Line{Label: name}) }

func (w *writer) three(op, d, a, b int) { w.put(api.Instr{Op: op, D: d, A: a, B: b}) }

func (w *writer) number64(d, n int) { w.put(api.Instr{Op: api.InLi, D: d, N: n}) }

func (w *writer) add(d, a, n int) { w.put(api.Instr{Op: api.InAddi, D: d, A: a, N: n}) }

func (w *writer) jump(name string) { w.put(api.Instr{Op: api.InJ, Name: name}) }

func (w *writer) branch(op, a, b int, name string) {
	w.put(api.Instr{Op: op, A: a, B: b, Name: name})
}

func (w *writer) call(what int) {
	w.number64(regCall, what)
	w.put(api.Instr{Op: api.InCall})
}

func functionLabel(name string) string { return "f." + name }

func (w *writer) blockLabel(block int) string {
	return "b." + strconv.Itoa(w.number) + "." + strconv.Itoa(block)
}

func (w *writer) returnLabel() string { return "r." + strconv.Itoa(w.number) }

// start is what is no function's: it calls main, and ends with what that returns.
func (w *writer) start() {
	w.put(api.Instr{Op: api.InJal, Name: functionLabel("main")})
	w.call(api.CallExit)
}

// endings are where runs end that divide by 0, leave an array, or call too deep.
func (w *writer) endings() {
	w.label(labelDiv)
	w.number64(regValue, api.StatDiv)
	w.jump(labelEnd)
	w.label(labelBounds)
	w.number64(regValue, api.StatBounds)
	w.jump(labelEnd)
	w.label(labelDepth)
	w.number64(regValue, api.StatDepth)
	w.label(labelEnd)
	w.call(api.CallEnd)
}

func (w *writer) function(number int, f api.Flow, places []int) {
	w.number, w.flow, w.places, w.saved = number, f, places, given(places)
	w.label(functionLabel(f.Name))
	w.enter()
	w.blocks()
	if slices.ContainsFunc(f.Blocks, returns) {
		w.leave()
	}
}

func returns(b api.Block) bool { return b.Term.Kind == api.TermReturn }

// size is how many bytes of the stack are the call's own.
func (w *writer) size() int { return word * frame(w.flow, w.places) }

// enter counts the call, saves what the caller has in registers, and brings what is wanted of Params to their places.
func (w *writer) enter() {
	w.number64(regFirst, api.MaxCalls)
	w.branch(api.InBge, regDepth, regFirst, labelDepth)
	w.add(regDepth, regDepth, 1)
	w.add(regStack, regStack, -w.size())
	w.store(regBack, 0)
	for i, r := range w.saved {
		w.store(r, 1+i)
	}
	w.fresh = map[int]struct{}{}
	for _, v := range flow.Live(w.flow)[0] {
		if v < w.flow.Params {
			w.keep(v, regParam+v)
		} else {
			w.fresh[v] = struct{}{}
		}
	}
}

func (w *writer) leave() {
	w.label(w.returnLabel())
	for i, r := range w.saved {
		w.load(r, 1+i)
	}
	w.load(regBack, 0)
	w.add(regStack, regStack, w.size())
	w.add(regDepth, regDepth, -1)
	w.put(api.Instr{Op: api.InRet})
}

// blocks writes all blocks. The first one stands for itself, as what is fresh there is made 0 in it; if one comes to it again, it is there once more, without that.
func (w *writer) blocks() {
	again := slices.ContainsFunc(w.flow.Blocks, func(b api.Block) bool { return slices.Contains(ir.Next(b.Term), 0) })
	first := 1
	if again {
		first = 0
	}
	w.block(0, first)
	for i := first; i < len(w.flow.Blocks); i++ {
		w.label(w.blockLabel(i))
		w.block(i, i+1)
	}
}

// block writes a block, ahead of another one.
func (w *writer) block(i, next int) {
	b := w.flow.Blocks[i]
	for _, x := range b.Ins {
		w.clear(ir.Uses(x))
		w.ins(x)
	}
	var rest []int
	for v := range w.fresh {
		rest = append(rest, v)
	}
	slices.Sort(rest)
	w.clear(rest)
	w.term(b.Term, next)
}

// clear makes those of some values 0 that still have to be.
func (w *writer) clear(values []int) {
	for _, v := range values {
		if _, ok := w.fresh[v]; ok {
			w.set(v, 0)
			delete(w.fresh, v)
		}
	}
}

// store and load move a register to and from a word of the call's own.
func (w *writer) store(r, at int) {
	w.put(api.Instr{Op: api.InSd, A: regStack, B: r, N: word * at})
}

func (w *writer) load(r, at int) {
	w.put(api.Instr{Op: api.InLd, D: r, A: regStack, N: word * at})
}

// register is the register that a value is kept in; regNone: it is in a slot.
func (w *writer) register(v int) int { return Register(w.places[v]) }

// slot is the word of the call's own that a value is kept in.
func (w *writer) slot(v int) int { return len(w.saved) + regs.Slots(w.places[v:v+1]) }

// get is a register in which a value stands: its own, or that one.
func (w *writer) get(v, r int) int {
	if own := w.register(v); own != regNone {
		return own
	}
	w.load(r, w.slot(v))
	return r
}

// take brings a value to a register.
func (w *writer) take(v, r int) {
	if own := w.register(v); own != regNone {
		w.three(api.InMv, r, own, 0)
		return
	}
	w.load(r, w.slot(v))
}

// keep brings a register to a value's place.
func (w *writer) keep(v, r int) {
	if own := w.register(v); own != regNone {
		w.three(api.InMv, own, r, 0)
		return
	}
	w.store(r, w.slot(v))
}

// target is a register in which a value may be made; done brings it to its place from there.
func (w *writer) target(v int) int {
	if own := w.register(v); own != regNone {
		return own
	}
	return regFirst
}

func (w *writer) done(v int) {
	if w.register(v) == regNone {
		w.store(regFirst, w.slot(v))
	}
}

// set makes a value a number.
func (w *writer) set(v, n int) {
	if n == 0 && w.register(v) == regNone {
		w.store(regNone, w.slot(v))
		return
	}
	w.number64(w.target(v), n)
	w.done(v)
}
