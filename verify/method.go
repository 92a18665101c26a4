package verify

import (
	"cmp"
	"slices"

	"larch/api"
	"larch/code"
	"larch/kind"
	"larch/pool"
)

// method is a method of a right class, with what is asked of it at many places.
type method struct {
	api.Method
	classes  []api.Class
	class    api.Class
	back     api.Type // what it answers
	instrs   []api.Instr
	handlers []handler
}

// handler is a handler, and the stack with which it begins: what it catches.
type handler struct {
	api.Handler
	stack []api.Type
}

// methodOf answers a method of a right class, and whether all holds that is asked of its code, its type, its maps and its
// handlers ahead of the walk.
func methodOf(l []api.Class, c api.Class, m api.Method) (method, bool) {
	instrs, e := code.Decode(m.Code.Bytes)
	_, back, bad := kind.Method(m.Type)
	out := method{Method: m, classes: l, class: c, back: back, instrs: instrs}
	ok := e == api.OK && bad == api.OK && out.mapsFit() && out.takeHandlers()
	return out, ok
}

// begins holds if an instruction begins at a place.
func (m *method) begins(at int) bool {
	_, ok := slices.BinarySearchFunc(m.instrs, at, func(i api.Instr, at int) int { return cmp.Compare(i.At, at) })
	return ok
}

// mapAt answers the map of a place, if it has one: a right class has them in order.
func (m *method) mapAt(at int) (api.Frame, bool) {
	n, ok := slices.BinarySearchFunc(m.Code.Maps, at, func(x api.Map, at int) int { return cmp.Compare(x.At, at) })
	if !ok {
		return api.Frame{}, false
	}
	return api.Frame{Locals: m.Code.Maps[n].Locals, Stack: m.Code.Maps[n].Stack}, true
}

// mapsFit holds if each map may be one of this code.
func (m *method) mapsFit() bool {
	top := api.Type{Kind: api.KTop}
	for _, x := range m.Code.Maps {
		if !m.begins(x.At) || len(x.Locals) != m.Code.Locals || slices.Contains(x.Stack, top) || kind.Wide(x.Stack...) > m.Code.Stack {
			return false
		}
	}
	return true
}

// takeHandlers makes out what each handler catches, and holds if all of them may be of this code.
func (m *method) takeHandlers() bool {
	for _, h := range m.Code.Handlers {
		x, ok := m.caught(h.Class)
		if !ok || !m.hasRange(h) || !m.takesUp(h.At, x) {
			return false
		}
		m.handlers = append(m.handlers, handler{Handler: h, stack: []api.Type{x}})
	}
	return true
}

// hasRange holds if a handler is for one instruction at least, and for whole ones.
func (m *method) hasRange(h api.Handler) bool {
	return h.From < h.To && m.begins(h.From) && (m.begins(h.To) || h.To == len(m.Code.Bytes))
}

// caught answers the type of what a handler of the class with that number catches, and whether it may be one.
func (m *method) caught(number int) (api.Type, bool) {
	all := api.Type{Kind: api.KRef, Name: "Throwable"}
	if number == 0 {
		return all, true
	}
	c, _ := pool.Const(m.class.Pool, number) // a TClass, as the class is right
	x := api.Type{Kind: api.KRef, Name: c.Class}
	_, e := kind.Print(x) // just a class's name and an array's descriptor make a KRef that has a descriptor
	return x, e == api.OK && kind.May(m.classes, x, all)
}

// takesUp holds if a place has a map on whose stack lies one type, for which x may stand.
func (m *method) takesUp(at int, x api.Type) bool {
	to, ok := m.mapAt(at)
	return ok && len(to.Stack) == 1 && kind.May(m.classes, x, to.Stack[0])
}
