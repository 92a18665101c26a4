package call

import (
	"larch/api"
	"larch/link"
)

// filled answers the locals with which a method begins that takes these arguments, by their types, and whether it takes them: a
// KTop is no argument's type, so that it stands behind a long, and behind the last argument, alone.
func filled(types []api.Type, args []api.Value) ([]api.Value, bool) {
	locals := make([]api.Value, len(types))
	for k, x := range types {
		if x.Kind == api.KTop {
			continue
		}
		if len(args) == 0 || args[0].Kind != x.Kind {
			return nil, false
		}
		locals[k], args = args[0], args[1:]
	}
	return locals, len(args) == 0
}

// fits holds if a value is of a type, with a heap l.
func fits(p *link.Program, l []api.Object, v api.Value, x api.Type) bool {
	switch x.Kind {
	case api.KTop:
		return true
	case api.KInt:
		return v.Kind == api.KInt && int(int32(v.N)) == v.N
	case api.KLong:
		return v.Kind == api.KLong
	case api.KNull:
		return v == api.Value{Kind: api.KRef}
	case api.KRef:
		return v.Kind == api.KRef && (v.N == 0 || p.May(typeOf(l, v.N), x))
	}
	return false
}

// typeOf answers the type of the object of a number, KTop if there is none: that may stand for no reference.
func typeOf(l []api.Object, n int) api.Type {
	if n < 1 || n > len(l) || l[n-1].Type == "" {
		return api.Type{Kind: api.KTop}
	}
	return ref(l[n-1].Type)
}

// catches holds if a handler, of a method of the class at a place, is for the class kind.
func catches(p *link.Program, class int, h api.Handler, kind string) bool {
	if h.Class == 0 {
		return true
	}
	c, _ := p.Const(class, h.Class) // a class, as the method is sound
	return p.May(ref(kind), ref(c.Class))
}

// ref is the type of what is of a class, or of an array of a descriptor.
func ref(name string) api.Type { return api.Type{Kind: api.KRef, Name: name} }
