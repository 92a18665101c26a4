package step

import (
	"slices"

	"larch/api"
	"larch/call"
	"larch/heap"
	"larch/link"
)

// fault keeps the first error that a step meets.
type fault struct{ e api.Errno }

// must holds as long as there is no error; what is not ok, a sound method never does.
func (f *fault) must(ok bool) bool {
	if !ok && f.e == api.OK {
		f.e = api.ErrStack
	}
	return f.e == api.OK
}

// state is what a step is done to.
type state struct {
	heap    []api.Object
	statics []api.Value
	call    api.Call
}

// own answers a state in memory of its own.
func (s state) own() state {
	s.heap = slices.Clone(s.heap)
	for k := range s.heap {
		s.heap[k].Words = slices.Clone(s.heap[k].Words)
	}
	s.statics = slices.Clone(s.statics)
	s.call = call.Copy(s.call)
	return s
}

// work is a step that is done. Once there is an error, what is done yet counts for nothing.
type work struct {
	fault
	state
	deed
	program *link.Program
	instr   api.Instr
	effect  api.Effect
}

// step does what the list tells for the instruction.
func (w *work) step() {
	for _, d := range deeds() {
		if slices.Contains(d.ops, w.instr.Op) {
			w.deed = d
			w.do(w)
			return
		}
	}
	w.must(false)
}

// staysBefore holds if the step's state is as it was ahead of it.
func (w *work) staysBefore() bool {
	return slices.Contains([]int{api.EBack, api.EThrow, api.EFull}, w.effect.Kind)
}

// top pops the top, of whatever kind it is.
func (w *work) top() api.Value {
	c, v, e := call.Pop(w.call)
	if w.must(e == api.OK) {
		w.call = c
	}
	return v
}

// take pops a value of a kind.
func (w *work) take(kind int) api.Value {
	v := w.top()
	w.must(v.Kind == kind)
	return v
}

// pop pops a value of a kind, and answers its number.
func (w *work) pop(kind int) int { return w.take(kind).N }

// push pushes values as they are.
func (w *work) push(l ...api.Value) { w.call = call.Push(w.call, l...) }

// give pushes the number of a value of the kind that the instruction gives.
func (w *work) give(n int) { w.push(api.Value{Kind: w.gives, N: n}) }

// found pushes a value that lies somewhere, where one of a kind must lie.
func (w *work) found(kind int, v api.Value) {
	w.must(v.Kind == kind)
	w.push(v)
}

// throw ends the step with a new object of one of the house's classes.
func (w *work) throw(name string) { w.effect = api.Effect{Kind: api.EThrow, Name: name} }

// object pops a reference, and answers its number and its object; not with KRef 0, with which Null is thrown.
func (w *work) object() (int, api.Object, bool) {
	n := w.pop(api.KRef)
	if n == 0 {
		w.throw("Null")
		return 0, api.Object{}, false
	}
	x := w.get(n)
	return n, x, w.must(true)
}

// get answers the object of a number.
func (w *work) get(n int) api.Object {
	x, e := heap.Get(w.heap, n)
	w.must(e == api.OK)
	return x
}

// set sets a word of an object.
func (w *work) set(n, k int, v api.Value) {
	l, e := heap.Set(w.heap, n, k, v)
	if w.must(e == api.OK) {
		w.heap = l
	}
}

// constant answers what A means, which must be of a tag.
func (w *work) constant(tag int) api.Const {
	c, e := w.program.Const(w.call.Class, w.instr.A)
	w.must(e == api.OK && c.Tag == tag)
	return c
}
