package step

import (
	"slices"
	"strings"

	"larch/api"
	"larch/arith"
	"larch/heap"
	"larch/kind"
	"larch/link"
)

// What instructions do with arrays, statics, fields, methods and objects.

// place pops an index and an array, and answers the array's number, the index, and the array; not where something is thrown. A
// word of a kind must lie there.
func (w *work) place(kind int) (int, int, api.Object, bool) {
	k := w.pop(api.KInt)
	n, x, ok := w.object()
	if !ok {
		return 0, 0, api.Object{}, false
	}
	if k < 0 || k >= len(x.Words) {
		w.throw("Index")
		return 0, 0, api.Object{}, false
	}
	return n, k, x, w.must(x.Words[k].Kind == kind)
}

func (w *work) fetch() {
	if _, k, x, ok := w.place(w.gives); ok {
		w.push(x.Words[k])
	}
}

// lay sets a word of the array below it on the stack.
func (w *work) lay(v api.Value) {
	if n, k, _, ok := w.place(w.takes); ok {
		w.set(n, k, v)
	}
}

func (w *work) put() { w.lay(w.take(w.takes)) }

func (w *work) putByte() {
	n, e := arith.One(145, w.pop(w.takes))
	w.must(e == api.OK)
	w.lay(api.Value{Kind: w.takes, N: n})
}

func (w *work) putRef() {
	v := w.take(w.takes)
	n, k, x, ok := w.place(w.takes)
	if !ok {
		return
	}
	elem, e := kind.Elem(ref(x.Type))
	if !w.must(e == api.OK) {
		return
	}
	if v.N != 0 && !w.may(v.N, elem) {
		w.throw("Store")
		return
	}
	w.set(n, k, v)
}

// may holds if the object of a number may stand for a type.
func (w *work) may(n int, y api.Type) bool { return w.program.May(ref(w.get(n).Type), y) }

// field answers the place and the kind of the field that the instruction names.
func (w *work) field(static bool) (int, int) {
	c := w.constant(api.TField)
	x, e := kind.Parse(c.Type)
	k := w.program.Slot(c.Class, c.Name, static)
	w.must(e == api.OK && k >= 0)
	return k, x.Kind
}

// slot answers the place and the kind of the static that the instruction names; not if there is none.
func (w *work) slot() (int, int, bool) {
	k, of := w.field(true)
	return k, of, w.must(k < len(w.statics))
}

func (w *work) getStatic() {
	if k, of, ok := w.slot(); ok {
		w.found(of, w.statics[k])
	}
}

func (w *work) putStatic() {
	if k, of, ok := w.slot(); ok {
		w.statics[k] = w.take(of)
	}
}

func (w *work) getField() {
	k, of := w.field(false)
	n, _, ok := w.object()
	if !ok {
		return
	}
	v, e := heap.Word(w.heap, n, k)
	w.must(e == api.OK)
	w.found(of, v)
}

func (w *work) putField() {
	k, of := w.field(false)
	v := w.take(of)
	if n, _, ok := w.object(); ok {
		w.set(n, k, v)
	}
}

// args pops what a method takes.
func (w *work) args(desc string) []api.Value {
	types, _, e := kind.Method(desc)
	w.must(e == api.OK)
	var l []api.Value
	for _, x := range slices.Backward(types) {
		l = append(l, w.take(x.Kind))
	}
	slices.Reverse(l)
	return l
}

// calls ends the step with a call of the method that is found in a class.
func (w *work) calls(class string, c api.Const, args []api.Value) {
	at, k := w.program.Find(class, c.Name, c.Type)
	w.must(at >= 0)
	w.effect = api.Effect{Kind: api.ECall, Class: at, Method: k, Args: args}
}

func (w *work) callStatic() {
	c := w.constant(api.TMethod)
	args := w.args(c.Type)
	if c.Class != "sys" {
		w.calls(c.Class, c, args)
		return
	}
	n := link.Call(c.Name, c.Type)
	w.must(n > 0)
	w.effect = api.Effect{Kind: api.ESys, Method: n, Args: args}
}

func (w *work) callOn() {
	c := w.constant(api.TMethod)
	args := w.args(c.Type)
	n, x, ok := w.object()
	if !ok {
		return
	}
	class := c.Class
	if w.instr.Op == 182 {
		class = classOf(x.Type)
	}
	w.calls(class, c, slices.Insert(args, 0, api.Value{Kind: api.KRef, N: n}))
}

// born puts a new object into the heap, if it came to be.
func (w *work) born(x api.Object, e api.Errno) {
	l, n := w.heap, 0
	if e == api.OK {
		l, n, e = heap.Put(w.heap, x)
	}
	if e == api.ErrFull {
		w.effect = api.Effect{Kind: api.EFull}
		return
	}
	if w.must(e == api.OK) {
		w.heap = l
		w.give(n)
	}
}

func (w *work) create() { w.born(fresh(w.program, w.constant(api.TClass).Class), api.OK) }

// array makes an array of a descriptor, of as many elements as the top tells.
func (w *work) array(desc string) {
	n := w.pop(w.takes)
	if n < 0 {
		w.throw("Negative")
		return
	}
	w.born(heap.Array(desc, n))
}

func (w *work) makeNumbers() {
	switch w.instr.A {
	case 8:
		w.array("[B")
	case 10:
		w.array("[I")
	case 11:
		w.array("[J")
	default:
		w.must(false)
	}
}

func (w *work) makeArray() {
	desc, e := kind.Print(ref(w.constant(api.TClass).Class))
	w.must(e == api.OK)
	w.array("[" + desc)
}

func (w *work) size() {
	if _, x, ok := w.object(); ok {
		w.give(len(x.Words))
	}
}

func (w *work) throwThis() {
	if n, _, ok := w.object(); ok {
		w.effect = api.Effect{Kind: api.EThrow, Value: api.Value{Kind: w.takes, N: n}}
	}
}

// named answers the type of the class that the instruction names.
func (w *work) named() api.Type { return ref(w.constant(api.TClass).Class) }

func (w *work) cast() {
	v := w.take(w.takes)
	if v.N != 0 && !w.may(v.N, w.named()) {
		w.throw("Cast")
		return
	}
	w.push(v)
}

func (w *work) isOf() {
	n := w.pop(w.takes)
	if n != 0 && w.may(n, w.named()) {
		w.give(1)
		return
	}
	w.give(0)
}

func (w *work) enter() { w.monitor(api.EEnter) }

func (w *work) exit() { w.monitor(api.EExit) }

// monitor ends the step with an effect of an object's monitor.
func (w *work) monitor(effect int) {
	if n, _, ok := w.object(); ok {
		w.effect = api.Effect{Kind: effect, Object: n}
	}
}

// ref is the type of what is of a class, or of an array of a descriptor.
func ref(name string) api.Type { return api.Type{Kind: api.KRef, Name: name} }

// classOf answers the class in which the methods of an object of a Type are found.
func classOf(name string) string {
	if strings.HasPrefix(name, "[") {
		return "Object"
	}
	return name
}

// fresh is a new object of a class.
func fresh(p *link.Program, name string) api.Object {
	return api.Object{Type: name, Words: p.Zeros(name)}
}
