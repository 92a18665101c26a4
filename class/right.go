package class

import (
	"larch/api"
	"larch/pool"
)

// maxPlace is the greatest place in a code that two bytes tell.
const maxPlace = 65535

// isRight holds if c is right but for how many bytes it has.
func isRight(c api.Class) bool {
	if pool.Check(c.Pool) != api.OK {
		return false
	}
	n := namesOf(c.Pool)
	return n.hasClass(c.Name) && (c.Super == "" || n.hasClass(c.Super)) &&
		areRight(c.Fields, api.MaxItems, n.isField) && areRight(c.Methods, api.MaxItems, n.isMethod)
}

// areRight holds if l has at most so many members, and each of them is right.
func areRight[T any](l []T, most int, right func(T) bool) bool {
	if len(l) > most {
		return false
	}
	for _, x := range l {
		if !right(x) {
			return false
		}
	}
	return true
}

// isUpTo holds for the numbers from 0 to the most that there may be.
func isUpTo(most int, l ...int) bool {
	for _, n := range l {
		if n < 0 || n > most {
			return false
		}
	}
	return true
}

// isField holds for right fields.
func (n *names) isField(f api.Field) bool {
	return (f.Access == 0 || f.Access == api.AStatic) && n.hasTexts(f.Name, f.Type)
}

// isMethod holds for right methods.
func (n *names) isMethod(m api.Method) bool {
	return m.Access&^(api.AStatic|api.ASync) == 0 && n.hasTexts(m.Name, m.Type, codeText) && n.isCode(m.Code)
}

// isCode holds for right codes.
func (n *names) isCode(c api.Code) bool {
	return isUpTo(api.MaxStack, c.Stack, c.Locals) && len(c.Bytes) > 0 && len(c.Bytes) <= api.MaxCode &&
		areRight(c.Handlers, api.MaxItems, n.isHandler) &&
		(len(c.Maps) == 0 || n.hasTexts(mapsText)) && areRight(c.Maps, api.MaxItems, n.isMap) && doRise(c.Maps)
}

// isHandler holds for right handlers.
func (n *names) isHandler(h api.Handler) bool {
	return isUpTo(maxPlace, h.From, h.To, h.At) && (h.Class == 0 || tagAt(n.pool, h.Class) == api.TClass)
}

// isMap holds for maps that are right by themselves.
func (n *names) isMap(m api.Map) bool {
	return isUpTo(maxPlace, m.At) && areRight(m.Locals, api.MaxStack, n.isType) && longsAreWide(m.Locals) &&
		areRight(m.Stack, api.MaxStack, n.isType)
}

// isType holds for right types.
func (n *names) isType(x api.Type) bool {
	if x.Kind == api.KRef {
		return n.hasClass(x.Name)
	}
	return x.Kind >= 0 && x.Kind < len(kindBytes) && x.Name == ""
}

// longsAreWide holds if behind each KLong stands a KTop.
func longsAreWide(l []api.Type) bool {
	for i, x := range l {
		if x.Kind == api.KLong && (i+1 == len(l) || l[i+1].Kind != api.KTop) {
			return false
		}
	}
	return true
}

// doRise holds if each map is at a place behind that of the one ahead.
func doRise(l []api.Map) bool {
	ahead := -1
	for _, m := range l {
		if m.At <= ahead {
			return false
		}
		ahead = m.At
	}
	return true
}
