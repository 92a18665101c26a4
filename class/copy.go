package class

import (
	"slices"

	"larch/api"
)

// copied answers a list of the copies that one makes of the members of l.
func copied[T any](l []T, one func(T) T) []T {
	l = slices.Clone(l)
	for i, x := range l {
		l[i] = one(x)
	}
	return l
}

// copyOfMethod answers m, in memory of its own.
func copyOfMethod(m api.Method) api.Method {
	m.Code.Bytes = slices.Clone(m.Code.Bytes)
	m.Code.Handlers = slices.Clone(m.Code.Handlers)
	m.Code.Maps = copied(m.Code.Maps, copyOfMap)
	return m
}

// copyOfMap answers m, in memory of its own.
func copyOfMap(m api.Map) api.Map {
	m.Locals = slices.Clone(m.Locals)
	m.Stack = slices.Clone(m.Stack)
	return m
}
