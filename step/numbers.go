package step

import (
	"larch/api"
	"larch/arith"
	"larch/call"
)

// What instructions do with constants, locals, the stack and numbers, and where they lead.

func (w *work) nothing() {}

// number pushes A, which is 0 where the form has none.
func (w *work) number() { w.give(w.instr.A) }

func (w *work) pooled() {
	tag := api.TInt
	if w.gives == api.KLong {
		tag = api.TLong
	}
	w.give(w.constant(tag).N)
}

// local answers the local A.
func (w *work) local() api.Value {
	k := w.instr.A
	if !w.must(k >= 0 && k < len(w.call.Locals)) {
		return api.Value{}
	}
	return w.call.Locals[k]
}

func (w *work) load() { w.found(w.gives, w.local()) }

func (w *work) store() { w.setLocal(w.take(w.takes)) }

func (w *work) count() {
	v := w.local()
	n, e := arith.Int(96, v.N, w.instr.B)
	if w.must(v.Kind == api.KInt && e == api.OK) {
		w.setLocal(api.Value{Kind: api.KInt, N: n})
	}
}

// setLocal sets the local A.
func (w *work) setLocal(v api.Value) {
	c, e := call.Set(w.call, w.instr.A, v)
	if w.must(e == api.OK) {
		w.call = c
	}
}

// single pops what is no long.
func (w *work) single() api.Value {
	v := w.top()
	w.must(v.Kind != api.KLong)
	return v
}

// pair pops a long, or two singles, and answers them as they lay.
func (w *work) pair() []api.Value {
	b := w.top()
	if b.Kind == api.KLong {
		return []api.Value{b}
	}
	return []api.Value{w.single(), b}
}

func (w *work) drop() { w.single() }

func (w *work) dropPair() { w.pair() }

func (w *work) twice() {
	v := w.single()
	w.push(v, v)
}

func (w *work) twiceAcross() {
	b, a := w.single(), w.single()
	w.push(b, a, b)
}

func (w *work) pairTwice() {
	l := w.pair()
	w.push(l...)
	w.push(l...)
}

func (w *work) swap() {
	b, a := w.single(), w.single()
	w.push(b, a)
}

// comes pushes what arithmetic comes to.
func (w *work) comes(n int, e api.Errno) {
	if e == api.ErrNone {
		w.throw("Arithmetic")
		return
	}
	if w.must(e == api.OK) {
		w.give(n)
	}
}

func (w *work) two() {
	b, a := w.pop(w.takes), w.pop(w.takes)
	if w.takes == api.KInt {
		w.comes(arith.Int(w.instr.Op, a, b))
		return
	}
	w.comes(arith.Long(w.instr.Op, a, b))
}

// shift is of a long by an int.
func (w *work) shift() {
	b, a := w.pop(api.KInt), w.pop(w.takes)
	w.comes(arith.Long(w.instr.Op, a, b))
}

func (w *work) one() { w.comes(arith.One(w.instr.Op, w.pop(w.takes))) }

func (w *work) jump() { w.call.At = w.instr.A }

func (w *work) jumpIf(ok bool) {
	if ok {
		w.jump()
	}
}

// ifHolds jumps if the condition of two ints holds.
func (w *work) ifHolds(a, b int) {
	ok, e := arith.If(w.instr.Op, a, b)
	w.must(e == api.OK)
	w.jumpIf(ok)
}

func (w *work) ifOne() { w.ifHolds(w.pop(w.takes), 0) }

func (w *work) ifTwo() {
	b, a := w.pop(w.takes), w.pop(w.takes)
	w.ifHolds(a, b)
}

func (w *work) ifSame() {
	b, a := w.pop(w.takes), w.pop(w.takes)
	w.jumpIf((a == b) == (w.instr.Op == 165))
}

func (w *work) ifNull() { w.jumpIf((w.pop(w.takes) == 0) == (w.instr.Op == 198)) }

func (w *work) choose() {
	n := w.pop(w.takes)
	w.jump()
	for _, x := range w.instr.Cases {
		if x.Key == n {
			w.call.At = x.To
		}
	}
}

func (w *work) answer() { w.effect = api.Effect{Kind: api.EBack, Value: w.take(w.takes)} }

func (w *work) leave() { w.effect = api.Effect{Kind: api.EBack} }
