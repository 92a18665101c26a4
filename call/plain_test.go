package call_test

import (
	"slices"
	"strings"

	"larch/api"
	"larch/code"
	"larch/kind"
	"larch/link"
	"larch/verify"
)

// A plain reading of the chapter, sentence by sentence, that everything is held against.

// plainTakes answers the kinds of what a method takes.
func plainTakes(m api.Method) []int {
	var l []int
	if m.Access != api.AStatic && m.Access != api.AStatic+api.ASync {
		l = append(l, api.KRef)
	}
	args, _, _ := kind.Method(m.Type)
	for _, x := range args {
		l = append(l, x.Kind)
	}
	return l
}

// plainBegin answers what Begin answers.
func plainBegin(p *link.Program, class, k int, args []api.Value) (api.Call, api.Errno) {
	m, e := p.Method(class, k)
	if e != api.OK {
		return api.Call{}, api.ErrNone
	}
	takes := plainTakes(m)
	if len(args) != len(takes) {
		return api.Call{}, api.ErrStack
	}
	var locals []api.Value
	for i, v := range args {
		if v.Kind != takes[i] {
			return api.Call{}, api.ErrStack
		}
		locals = append(locals, v)
		if v.Kind == api.KLong {
			locals = append(locals, api.Value{Kind: api.KTop})
		}
	}
	for len(locals) < m.Code.Locals {
		locals = append(locals, api.Value{Kind: api.KTop})
	}
	return api.Call{Class: class, Method: k, Locals: locals}, api.OK
}

// plainInstr answers the instruction that begins where a call stands, where the next one begins, and which one it is.
func plainInstr(p *link.Program, c api.Call) (api.Instr, int, int, api.Errno) {
	m, e := p.Method(c.Class, c.Method)
	if e != api.OK {
		return api.Instr{}, 0, 0, api.ErrNone
	}
	l, _ := code.Decode(m.Code.Bytes)
	for n, i := range l {
		if i.At != c.At {
			continue
		}
		next := len(m.Code.Bytes)
		for _, j := range l {
			if j.At > i.At && j.At < next {
				next = j.At
			}
		}
		return i, next, n, api.OK
	}
	return api.Instr{}, 0, 0, api.ErrCode
}

// plainNow answers what Now answers.
func plainNow(p *link.Program, c api.Call) (api.Instr, int, api.Errno) {
	i, next, _, e := plainInstr(p, c)
	return code.Plain(i), next, e
}

// plainSet answers what Set answers.
func plainSet(c api.Call, k int, v api.Value) (api.Call, api.Errno) {
	there := map[int]bool{}
	for i := range c.Locals {
		there[i] = true
	}
	if !there[k] || v.Kind == api.KLong && !there[k+1] {
		return api.Call{}, api.ErrStack
	}
	c.Locals = slices.Clone(c.Locals)
	if there[k-1] && c.Locals[k-1].Kind == api.KLong {
		c.Locals[k-1] = api.Value{Kind: api.KTop, N: 0}
	}
	c.Locals[k] = v
	if v.Kind == api.KLong {
		c.Locals[k+1] = api.Value{Kind: api.KTop, N: 0}
	}
	return c, api.OK
}

// plainClass holds if x is a class, or the class y, or below it: both are names.
func plainClass(all []api.Class, x, y string) bool {
	for range len(all) + 1 {
		if x == y {
			return true
		}
		n := slices.IndexFunc(all, func(c api.Class) bool { return c.Name == x })
		if n < 0 {
			return false
		}
		x = all[n].Super
	}
	return false
}

// plainStands holds if the KRef x may stand for the KRef y.
func plainStands(all []api.Class, x, y string) bool {
	switch {
	case x == y || y == "Object":
		return true
	case x[:1] != "[" && y != "" && y[:1] != "[":
		return plainClass(all, x, y)
	case x[:1] != "[" || y == "" || y[:1] != "[":
		return false
	}
	elem := func(s string) string {
		if s[1] == 'L' {
			return strings.TrimSuffix(s[2:], ";")
		}
		return strings.TrimLeft(s[1:], "IJB") // of numbers: none
	}
	return elem(x) != "" && elem(y) != "" && plainStands(all, elem(x), elem(y))
}

// plainValue holds if a value fits a type.
func plainValue(all []api.Class, l []api.Object, v api.Value, x api.Type) bool {
	null := api.Value{Kind: api.KRef, N: 0}
	switch x.Kind {
	case api.KTop:
		return true
	case api.KInt:
		return v.Kind == api.KInt && v.N >= -1<<31 && v.N < 1<<31
	case api.KLong:
		return v.Kind == api.KLong
	case api.KNull:
		return v == null
	}
	if v == null {
		return true
	}
	for n, o := range l {
		if v.Kind == api.KRef && v.N == n+1 && o.Type != "" && plainStands(all, o.Type, x.Name) {
			return true
		}
	}
	return false
}

// plainValues holds if some values fit as many types.
func plainValues(all []api.Class, l []api.Object, values []api.Value, types []api.Type) bool {
	if len(values) != len(types) {
		return false
	}
	for k, v := range values {
		if !plainValue(all, l, v, types[k]) {
			return false
		}
	}
	return true
}

// plainFrame answers the frame that the verifier tells where a call stands.
func plainFrame(p *link.Program, c api.Call) (api.Frame, bool) {
	_, _, n, e := plainInstr(p, c)
	if e != api.OK {
		return api.Frame{}, false
	}
	all := p.All()
	l, e := verify.Frames(all, all[c.Class], c.Method)
	return l[n], e == api.OK
}

// plainFits answers what Fits answers.
func plainFits(p *link.Program, l []api.Object, c api.Call) bool {
	f, ok := plainFrame(p, c)
	return ok && plainValues(p.All(), l, c.Locals, f.Locals) && plainValues(p.All(), l, c.Stack, f.Stack)
}

// plainCatch answers what Catch answers.
func plainCatch(p *link.Program, c api.Call, name string) (int, bool) {
	m, e := p.Method(c.Class, c.Method)
	if e != api.OK {
		return 0, false
	}
	for _, h := range m.Code.Handlers {
		if c.At < h.From || c.At >= h.To {
			continue
		}
		if h.Class == 0 {
			return h.At, true
		}
		x, _ := p.Const(c.Class, h.Class)
		if name == x.Class || name != "" && plainStands(p.All(), name, x.Class) {
			return h.At, true
		}
	}
	return 0, false
}
