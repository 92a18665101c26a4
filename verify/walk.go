package verify

import (
	"slices"

	"larch/api"
	"larch/code"
	"larch/shape"
)

// walk goes through the instructions of a method from the front.
type walk struct {
	method
	frame  api.Frame
	there  bool        // is there a frame?
	frames []api.Frame // those ahead of the instructions that were gone through

	entered map[int][]api.Type // by the places of handlers: the locals that were found to go on there last
}

// entry asks whether a frame may go on at a place, which must have a map.
type entry func(f api.Frame, at int) bool

// walkOf answers a walk that stands ahead of the first instruction, and whether all holds that is asked ahead of it.
func walkOf(l []api.Class, c api.Class, m api.Method) (*walk, bool) {
	of, ok := methodOf(l, c, m)
	first, e := shape.Begin(c, m)
	return &walk{method: of, frame: first, there: true, entered: map[int][]api.Type{}}, ok && e == api.OK
}

// goThrough goes through all instructions; if one of them does not hold, it ends there and answers the place.
func (w *walk) goThrough() (int, bool) {
	enters := func(f api.Frame, at int) bool {
		to, ok := w.mapAt(at)
		return ok && shape.May(w.classes, f, to)
	}
	for n, i := range w.instrs {
		last := n == len(w.instrs)-1
		if !w.arrives(i.At, enters) || !w.isHandled(i.At, enters) || !w.does(i, enters) || last && w.there {
			return i.At, false
		}
	}
	return 0, true
}

// arrives makes the frame what it is at a place, and holds if there is one. Where a map is, no more is known than what it
// tells.
func (w *walk) arrives(at int, enters entry) bool {
	if to, ok := w.mapAt(at); ok {
		if w.there && !enters(w.frame, at) {
			return false
		}
		// A copy, since frames are handed out and the map is the caller's.
		w.frame, w.there = api.Frame{Locals: slices.Clone(to.Locals), Stack: slices.Clone(to.Stack)}, true
	}
	if w.there {
		w.frames = append(w.frames, w.frame)
	}
	return w.there
}

// isHandled holds if each handler that has the place may be gone on with from here. What it catches fits its map, as was
// asked ahead of the walk, so that the locals alone tell; these seldom change from one place to the next, and are asked again
// just if they do, as many handlers may lie over a long code.
func (w *walk) isHandled(at int, enters entry) bool {
	locals := w.frame.Locals
handlers:
	for _, h := range w.handlers {
		switch {
		case at < h.From, at >= h.To, slices.Equal(locals, w.entered[h.At]):
			continue handlers
		case !enters(api.Frame{Locals: locals, Stack: h.stack}, h.At):
			return false
		}
		w.entered[h.At] = locals
	}
	return true
}

// does does an instruction to the frame, and holds if that may be, and what comes of it may go on at all places that it
// leads to.
func (w *walk) does(i api.Instr, enters entry) bool {
	f, e := shape.Step(w.classes, w.class, w.back, i, w.frame, w.Code.Stack)
	if e != api.OK {
		return false
	}
	for _, to := range code.Targets(i) {
		if !enters(f, to) {
			return false
		}
	}
	w.frame, w.there = f, code.Falls(i)
	return true
}
