package verify_test

import (
	"slices"

	"larch/api"
	"larch/class"
	"larch/code"
	"larch/kind"
	"larch/pool"
	"larch/shape"
)

// A plain reading of the chapter, sentence by sentence, that everything is held against.

// plainMay holds if each of some types may stand for that of others in its place.
func plainMay(l []api.Class, a, b []api.Type) bool {
	if len(a) != len(b) {
		return false
	}
	for i := range a {
		if !kind.May(l, a[i], b[i]) {
			return false
		}
	}
	return true
}

// plainMaps answers the maps by their places, if they are as is asked ahead of the walk.
func plainMaps(d api.Code, begin map[int]bool) (map[int]api.Map, bool) {
	maps := map[int]api.Map{}
	for _, m := range d.Maps {
		words := 0
		for _, x := range m.Stack {
			words++
			if x.Kind == api.KLong {
				words++
			}
			if x.Kind == api.KTop {
				return nil, false
			}
		}
		if !begin[m.At] || len(m.Locals) != d.Locals || words > d.Stack {
			return nil, false
		}
		maps[m.At] = m
	}
	return maps, true
}

// plainHandler holds if a handler is as is asked ahead of the walk.
func plainHandler(l []api.Class, c api.Class, h api.Handler, begin map[int]bool, size int, maps map[int]api.Map) bool {
	if h.From >= h.To || !begin[h.From] || !begin[h.To] && h.To != size {
		return false
	}
	m, ok := maps[h.At]
	if !ok || len(m.Stack) != 1 {
		return false
	}
	name := "Throwable"
	if h.Class != 0 {
		x, e := pool.Const(c.Pool, h.Class)
		if e != api.OK || x.Tag != api.TClass {
			return false
		}
		name = x.Class
		_, array := kind.Parse(name)
		if !kind.Class(name) && (array != api.OK || name[0] != '[') {
			return false
		}
	}
	return kind.May(l, ref(name), m.Stack[0]) && kind.May(l, ref(name), ref("Throwable"))
}

// plainWalk answers the frames, or the place where the walk ends.
func plainWalk(l []api.Class, c api.Class, m api.Method, instrs []api.Instr, maps map[int]api.Map) ([]api.Frame, int, bool) {
	_, back, _ := kind.Method(m.Type)
	var frames []api.Frame
	var came []api.Frame // what came of the one ahead, if it falls
	if f, e := shape.Begin(c, m); e == api.OK {
		came = append(came, f)
	} else {
		return nil, 0, false
	}
	for n, i := range instrs {
		if to, ok := maps[i.At]; ok {
			for _, f := range came {
				if !plainMay(l, f.Locals, to.Locals) || !plainMay(l, f.Stack, to.Stack) {
					return nil, i.At, false
				}
			}
			came = []api.Frame{{Locals: to.Locals, Stack: to.Stack}}
		}
		if len(came) == 0 {
			return nil, i.At, false
		}
		f := came[0]
		frames = append(frames, f)
		for _, h := range m.Code.Handlers {
			if h.From <= i.At && i.At < h.To && !plainMay(l, f.Locals, maps[h.At].Locals) {
				return nil, i.At, false
			}
		}
		f, e := shape.Step(l, c, back, i, f, m.Code.Stack)
		if e != api.OK {
			return nil, i.At, false
		}
		for _, at := range code.Targets(i) {
			to, ok := maps[at]
			if !ok || !plainMay(l, f.Locals, to.Locals) || !plainMay(l, f.Stack, to.Stack) {
				return nil, i.At, false
			}
		}
		came = nil
		if code.Falls(i) {
			came = []api.Frame{f}
			if n == len(instrs)-1 {
				return nil, i.At, false
			}
		}
	}
	return frames, len(m.Code.Bytes), true
}

// plainMethod answers what Method and Frames answer.
func plainMethod(l []api.Class, c api.Class, k int) ([]api.Frame, int, api.Errno) {
	if k < 0 || k >= len(c.Methods) {
		return nil, 0, api.ErrNone
	}
	m := c.Methods[k]
	instrs, e := code.Decode(m.Code.Bytes)
	if class.Check(c) != api.OK || e != api.OK {
		return nil, 0, api.ErrVerify
	}
	if _, _, e := kind.Method(m.Type); e != api.OK {
		return nil, 0, api.ErrVerify
	}
	begin := map[int]bool{}
	for _, i := range instrs {
		begin[i.At] = true
	}
	maps, ok := plainMaps(m.Code, begin)
	for _, h := range m.Code.Handlers {
		ok = ok && plainHandler(l, c, h, begin, len(m.Code.Bytes), maps)
	}
	if !ok {
		return nil, 0, api.ErrVerify
	}
	frames, at, ok := plainWalk(l, c, m, instrs, maps)
	if !ok {
		return nil, at, api.ErrVerify
	}
	return frames, at, api.OK
}

// plainClass answers what Class answers.
func plainClass(l []api.Class, c api.Class) (int, api.Errno) {
	if class.Check(c) != api.OK {
		return 0, api.ErrVerify
	}
	for k := range c.Methods {
		if _, _, e := plainMethod(l, c, k); e != api.OK {
			return k, e
		}
	}
	return len(c.Methods), api.OK
}

// plainCalls answers what Calls answers.
func plainCalls(c api.Class, k int) ([]api.Const, api.Errno) {
	if k < 0 || k >= len(c.Methods) {
		return nil, api.ErrNone
	}
	instrs, e := code.Decode(c.Methods[k].Code.Bytes)
	if e != api.OK {
		return nil, api.ErrVerify
	}
	var l []api.Const
	for _, i := range instrs {
		switch i.Op {
		case 178, 179, 180, 181, 182, 183, 184:
			x, e := pool.Const(c.Pool, i.A)
			if e != api.OK {
				return nil, api.ErrVerify
			}
			l = append(l, x)
		}
	}
	var once []api.Const
	for i, x := range l {
		if slices.Index(l, x) == i {
			once = append(once, x)
		}
	}
	return once, api.OK
}
