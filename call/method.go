package call

import (
	"cmp"
	"slices"

	"larch/api"
	"larch/code"
	"larch/link"
)

// method is a method that is looked at.
type method struct {
	api.Code
	instrs []api.Instr
}

// look answers the method that a call is of.
func look(p *link.Program, c api.Call) (method, api.Errno) {
	m, e := p.Method(c.Class, c.Method)
	if e != api.OK {
		return method{}, e
	}
	l, _ := code.Decode(m.Code.Bytes) // a code, as the method is sound
	return method{m.Code, l}, api.OK
}

// place answers which instruction begins at a place.
func (m method) place(at int) (int, bool) {
	return slices.BinarySearchFunc(m.instrs, at, func(i api.Instr, at int) int { return cmp.Compare(i.At, at) })
}

// behind answers where the instruction behind one begins, or would.
func (m method) behind(k int) int {
	if k+1 < len(m.instrs) {
		return m.instrs[k+1].At
	}
	return len(m.Bytes)
}
