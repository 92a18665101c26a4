package shape

import (
	"larch/api"
	"larch/kind"
	"larch/pool"
)

// work is an instruction that is done to a frame of its own. Its methods are deeds, and what these are made of.
type work struct {
	classes []api.Class
	pool    []api.Entry
	back    api.Type // what the method answers
	instr   api.Instr
	frame   api.Frame

	hand []api.Type // what was popped, or got from a local, as it is, in that order

	// What the constant A tells:
	owner api.Type   // the KRef of its Class
	args  []api.Type // a method's arguments
	told  api.Type   // a field's type, a method's answer's, a class's
}

// take takes the top off the stack, if it is fit.
func (w *work) take(fit func(api.Type) bool) bool {
	last := len(w.frame.Stack) - 1
	if last < 0 || !fit(w.frame.Stack[last]) {
		return false
	}
	w.hand = append(w.hand, w.frame.Stack[last])
	w.frame.Stack = w.frame.Stack[:last]
	return true
}

// pop takes a type that may stand for y off the stack.
func (w *work) pop(y api.Type) bool {
	return w.take(func(x api.Type) bool { return kind.May(w.classes, x, y) })
}

// push always comes to pass: how wide the stack may be is asked behind all deeds.
func (w *work) push(l ...api.Type) bool {
	w.frame.Stack = append(w.frame.Stack, l...)
	return true
}

func (w *work) popInt() bool       { return w.pop(api.Type{Kind: api.KInt}) }
func (w *work) popLong() bool      { return w.pop(api.Type{Kind: api.KLong}) }
func (w *work) popInts() bool      { return w.pop(ref("[I")) }
func (w *work) popLongs() bool     { return w.pop(ref("[J")) }
func (w *work) popBytes() bool     { return w.pop(ref("[B")) }
func (w *work) popThrowable() bool { return w.pop(ref("Throwable")) }
func (w *work) popOwner() bool     { return w.pop(w.owner) }
func (w *work) popTold() bool      { return w.pop(w.told) }
func (w *work) popAnswer() bool    { return w.pop(w.back) }

func (w *work) popReference() bool  { return w.take(isReference) }
func (w *work) popArray() bool      { return w.take(mayBeArray) }
func (w *work) popReferences() bool { return w.take(mayHaveReferences) }
func (w *work) popSingle() bool     { return w.take(isSingle) }

// popPair takes a KLong, or two singles.
func (w *work) popPair() bool {
	return w.take(isLong) || w.popSingle() && w.popSingle()
}

func (w *work) popArguments() bool {
	for k := len(w.args) - 1; k >= 0; k-- {
		if !w.pop(w.args[k]) {
			return false
		}
	}
	return true
}

func (w *work) pushNull() bool { return w.push(api.Type{Kind: api.KNull}) }
func (w *work) pushInt() bool  { return w.push(api.Type{Kind: api.KInt}) }
func (w *work) pushLong() bool { return w.push(api.Type{Kind: api.KLong}) }
func (w *work) pushTold() bool { return w.push(w.told) }

func (w *work) pushFirst() bool { return w.push(w.hand[0]) }
func (w *work) pushLast() bool  { return w.push(w.hand[len(w.hand)-1]) }

// pushBack lays down what is in the hand as it lay on the stack.
func (w *work) pushBack() bool {
	for k := len(w.hand) - 1; k >= 0; k-- {
		w.push(w.hand[k])
	}
	return true
}

// pushAnswer pushes what the method that the constant tells answers, if it does.
func (w *work) pushAnswer() bool {
	return w.told.Kind == api.KTop || w.pushTold()
}

// pushElement pushes the type of the elements of the array that was popped last.
func (w *work) pushElement() bool {
	x, e := kind.Elem(w.hand[len(w.hand)-1])
	if e != api.OK { // a KNull, which has no elements
		return w.pushNull()
	}
	return w.push(x)
}

// pushNumbers pushes the array of numbers that A tells.
func (w *work) pushNumbers() bool {
	switch w.instr.A {
	case 8:
		return w.push(ref("[B"))
	case 10:
		return w.push(ref("[I"))
	case 11:
		return w.push(ref("[J"))
	}
	return false
}

// pushArray pushes the array of the class's constant, unless that has too many [ for there being one.
func (w *work) pushArray() bool {
	inner, _ := kind.Print(w.told)
	x, e := kind.Parse("[" + inner)
	return e == api.OK && w.push(x)
}

// get takes the local A in hand, if it is fit.
func (w *work) get(fit func(api.Type) bool) bool {
	at := w.instr.A
	if at < 0 || at >= len(w.frame.Locals) || !fit(w.frame.Locals[at]) {
		return false
	}
	w.hand = append(w.hand, w.frame.Locals[at])
	return true
}

func (w *work) getInt() bool       { return w.get(isInt) }
func (w *work) getLong() bool      { return w.get(isLong) }
func (w *work) getReference() bool { return w.get(isReference) }

// setLocal sets the local A to what was popped.
func (w *work) setLocal() bool {
	x, at, locals := w.hand[0], w.instr.A, w.frame.Locals
	if at < 0 || at > len(locals)-kind.Wide(x) {
		return false
	}
	locals[at] = x
	if isLong(x) {
		locals[at+1] = api.Type{Kind: api.KTop}
	}
	if at > 0 && isLong(locals[at-1]) { // its second half is gone
		locals[at-1] = api.Type{Kind: api.KTop}
	}
	return true
}

func (w *work) answersInt() bool       { return isInt(w.back) }
func (w *work) answersLong() bool      { return isLong(w.back) }
func (w *work) answersReference() bool { return w.back.Kind == api.KRef }
func (w *work) answersNothing() bool   { return w.back.Kind == api.KTop }

// constant answers what the constant A means, which must be of a tag.
func (w *work) constant(tag int) (api.Const, bool) {
	c, e := pool.Const(w.pool, w.instr.A)
	w.owner = ref(c.Class)
	return c, e == api.OK && c.Tag == tag
}

func (w *work) findInt() bool {
	_, ok := w.constant(api.TInt)
	return ok
}

func (w *work) findLong() bool {
	_, ok := w.constant(api.TLong)
	return ok
}

func (w *work) findField() bool {
	c, ok := w.constant(api.TField)
	x, e := kind.Parse(c.Type)
	w.told = x
	return ok && e == api.OK
}

func (w *work) findMethod() bool {
	c, ok := w.constant(api.TMethod)
	args, back, e := kind.Method(c.Type)
	w.args, w.told = args, back
	return ok && e == api.OK
}

// findClass asks for a class's constant. Just a class's name and an array's descriptor make a KRef that has a descriptor.
func (w *work) findClass() bool {
	_, ok := w.constant(api.TClass)
	_, e := kind.Print(w.owner)
	w.told = w.owner
	return ok && e == api.OK
}

func (w *work) isNoArray() bool { return kind.Class(w.told.Name) }

func isInt(x api.Type) bool       { return x.Kind == api.KInt }
func isLong(x api.Type) bool      { return x.Kind == api.KLong }
func isSingle(x api.Type) bool    { return !isLong(x) }
func isReference(x api.Type) bool { return x.Kind == api.KNull || x.Kind == api.KRef }

func mayBeArray(x api.Type) bool {
	_, e := kind.Elem(x)
	return e == api.OK || x.Kind == api.KNull
}

func mayHaveReferences(x api.Type) bool {
	inner, _ := kind.Elem(x) // a KTop beside an error
	return inner.Kind == api.KRef || x.Kind == api.KNull
}
