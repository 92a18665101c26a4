package kind

import (
	"iter"
	"slices"

	"larch/api"
)

const (
	object = "Object" // what every class and every array may stand for
	few    = 64       // classes, up to which a list is asked as it is
)

// Above: see the chapter.
func Above(l []api.Class, name string) []string {
	return slices.Collect(upwards(l, name))
}

// May: see the chapter.
func May(l []api.Class, x, y api.Type) bool {
	switch {
	case y.Kind == api.KTop || x == y:
		return true
	case y.Kind != api.KRef:
		return false
	case x.Kind == api.KRef:
		return mayRef(l, x, y)
	}
	return x.Kind == api.KNull
}

// mayRef is May of two KRef that are not the same.
func mayRef(l []api.Class, x, y api.Type) bool {
	switch {
	case y.Name == object:
		return true
	case array(x.Name) != array(y.Name):
		return false
	case array(x.Name):
		return mayArray(l, x, y)
	}
	for name := range upwards(l, x.Name) {
		if name == y.Name {
			return true
		}
	}
	return false
}

// mayArray is May of two arrays that are not the same. Numbers lie in an array in their own width, so that just elements that are KRef may be others.
func mayArray(l []api.Class, x, y api.Type) bool {
	a, _ := Elem(x) // a KTop beside an error
	b, _ := Elem(y)
	return a.Kind == api.KRef && b.Kind == api.KRef && May(l, a, b)
}

// upwards goes through the classes above a class. A name that is not in the list ends the walk, so that places alone tell what was met.
func upwards(l []api.Class, name string) iter.Seq[string] {
	return func(yield func(string) bool) {
		find := finder(l)
		met := make([]bool, len(l))
		at := find(name)
		for at >= 0 && l[at].Super != "" {
			met[at] = true
			name := l[at].Super
			at = find(name)
			if at >= 0 && met[at] || !yield(name) {
				return
			}
		}
	}
}

// finder answers what tells the place of the first class of a name, -1 if there is none. A walk through a long list would take its length squared, if each name were looked for from the front.
func finder(l []api.Class) func(string) int {
	if len(l) <= few {
		return func(name string) int { return firstOf(l, name) }
	}
	first := make(map[string]int, len(l))
	for at := len(l) - 1; at >= 0; at-- { // from the back, so that the first of a name stays
		first[l[at].Name] = at
	}
	return func(name string) int {
		at, ok := first[name]
		if !ok {
			return -1
		}
		return at
	}
}

func firstOf(l []api.Class, name string) int {
	for at := range l {
		if l[at].Name == name {
			return at
		}
	}
	return -1
}
