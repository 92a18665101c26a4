package link

import (
	"iter"

	"larch/api"
)

// index is all classes of a list, and where they and what they have lie, by names. Of two of one name the first one counts,
// as the list may be one that does not fit together.
type index struct {
	classes []api.Class
	places  map[string]int // of classes
	fields  map[member]slot
	methods map[member]int // places in their classes
	sizes   []int          // how many fields of its own each class has that are not static
}

// member is how a field or a method is found in the class at a place; a field by its name alone.
type member struct {
	class      int
	name, kind string
}

// slot is a field, the place of its class, and its own: among the statics, or among those of its class that are not static.
type slot struct {
	api.Field
	class, place int
}

// indexOf answers the index of all classes of a list.
func indexOf(all []api.Class) index {
	x := index{
		classes: all,
		places:  map[string]int{},
		fields:  map[member]slot{},
		methods: map[member]int{},
		sizes:   make([]int, len(all)),
	}
	statics := 0
	for at, c := range all {
		putFirst(x.places, c.Name, at)
		for k, m := range c.Methods {
			putFirst(x.methods, member{at, m.Name, m.Type}, k)
		}
		for _, f := range c.Fields {
			counter := &x.sizes[at]
			if isStaticField(f) {
				counter = &statics
			}
			putFirst(x.fields, member{class: at, name: f.Name}, slot{f, at, *counter})
			*counter++
		}
	}
	return x
}

// putFirst puts a value into a map, unless the key has one.
func putFirst[K comparable, V any](m map[K]V, key K, v V) {
	if _, there := m[key]; !there {
		m[key] = v
	}
}

// upwards goes through the places of a class and of those above it. It must not be asked of a class whose classes above don't
// end with Object: it would not end in a ring. A class without a name, which a list may have that does not fit together, is
// above none.
func (x *index) upwards(name string) iter.Seq[int] {
	return func(yield func(int) bool) {
		for up := name; up != ""; {
			at, ok := x.places[up]
			if !ok || !yield(at) {
				return
			}
			up = x.classes[at].Super
		}
	}
}

// findField answers the field that is found in a class.
func (x *index) findField(class, name string) (slot, bool) {
	for at := range x.upwards(class) {
		if f, ok := x.fields[member{class: at, name: name}]; ok {
			return f, true
		}
	}
	return slot{}, false
}

// findMethod answers the places of the class and of the method that is found in a class, -1 and -1 if there is none.
func (x *index) findMethod(class, name, kind string) (int, int) {
	for at := range x.upwards(class) {
		if k, ok := x.methods[member{at, name, kind}]; ok {
			return at, k
		}
	}
	return -1, -1
}

// ahead answers how many fields come ahead of those of a field's own class: the statics are counted through all classes
// already.
func (x *index) ahead(f slot) int {
	n := 0
	if isStaticField(f.Field) {
		return n
	}
	for at := range x.upwards(x.classes[f.class].Super) {
		n += x.sizes[at]
	}
	return n
}

// classAt answers the class at a place.
func (x *index) classAt(at int) (api.Class, api.Errno) {
	if at < 0 || at >= len(x.classes) {
		return api.Class{}, api.ErrNone
	}
	return x.classes[at], api.OK
}

// only answers those of some fields that are static, or those that are not.
func only(l []api.Field, static bool) []api.Field {
	var out []api.Field
	for _, f := range l {
		if isStaticField(f) == static {
			out = append(out, f)
		}
	}
	return out
}

// isStaticField holds for static fields: any other number is not static, even if it has that bit.
func isStaticField(f api.Field) bool { return f.Access == api.AStatic }

// isStaticMethod holds for static methods, likewise.
func isStaticMethod(m api.Method) bool {
	return m.Access == api.AStatic || m.Access == api.AStatic|api.ASync
}
