package link

import (
	"larch/api"
	"larch/class"
	"larch/code"
	"larch/kind"
	"larch/pool"
	"larch/verify"
)

// misfit answers the place of the class that keeps all of them from fitting together, and whether there is one.
func (x *index) misfit() (int, bool) {
	first := len(House())
	for at := first; at < len(x.classes); at++ {
		if !x.isPlaced(at) {
			return at, true
		}
	}
	for at := first; at < len(x.classes); at++ {
		if !x.isLinked(x.classes[at]) {
			return at, true
		}
	}
	return first, !hasMain(x.classes[first])
}

// isPlaced holds if a class has its place among all of them, whatever its codes are.
func (x *index) isPlaced(at int) bool {
	c := x.classes[at]
	// The order matters: what is found above is asked just of a class whose classes above end.
	return kind.Class(c.Name) && x.places[c.Name] == at && x.isBelowObject(c) && hasFields(c) && x.hasMethods(c)
}

// isBelowObject holds if a class is not just below sys, and the classes above it end with Object: a Super that is none of all
// classes would end them with its own name.
func (x *index) isBelowObject(c api.Class) bool {
	above := kind.Above(x.classes, c.Name)
	return c.Super != sys && len(above) > 0 && above[len(above)-1] == object
}

// hasFields holds if a class may have the fields that it has.
func hasFields(c api.Class) bool {
	for _, f := range c.Fields {
		if _, e := kind.Parse(f.Type); e != api.OK {
			return false
		}
	}
	return areApart(c.Fields, func(f api.Field) string { return f.Name })
}

// hasMethods holds if a class may have the methods that it has: none of them hides one above that is called in another way.
func (x *index) hasMethods(c api.Class) bool {
	for _, m := range c.Methods {
		at, k := x.findMethod(c.Super, m.Name, m.Type)
		if at >= 0 && isStaticMethod(x.classes[at].Methods[k]) != isStaticMethod(m) {
			return false
		}
	}
	return areApart(c.Methods, func(m api.Method) member { return member{name: m.Name, kind: m.Type} })
}

// areApart holds if no two members of a list have the same key.
func areApart[T any, K comparable](l []T, key func(T) K) bool {
	met := make(map[K]struct{}, len(l))
	for _, x := range l {
		met[key(x)] = struct{}{}
	}
	return len(met) == len(l)
}

// isLinked holds if a class is sound, and its instructions find what they name.
func (x *index) isLinked(c api.Class) bool {
	if _, e := verify.Class(x.classes, c); e != api.OK {
		return false
	}
	for n := range namings(c) {
		if !x.finds(c, n) {
			return false
		}
	}
	return true
}

// naming is an instruction that names a field, a method, or a class of which an object is made, by a number of the pool.
type naming struct{ op, number int }

// namings answers how the instructions of a sound class name something, each way once: a long code may name one constant many
// times, and a great pool is gone through whole to tell what one means.
func namings(c api.Class) map[naming]struct{} {
	l := map[naming]struct{}{}
	for _, m := range c.Methods {
		instrs, _ := code.Decode(m.Code.Bytes) // a sound method has a code
		for _, i := range instrs {
			if i.Op >= 178 && i.Op <= 184 || i.Op == 187 {
				l[naming{i.Op, i.A}] = struct{}{}
			}
		}
	}
	return l
}

// finds holds if what an instruction of a sound class names is found.
func (x *index) finds(c api.Class, n naming) bool {
	named, _ := pool.Const(c.Pool, n.number) // it is there, and of the right tag, in a sound method
	switch n.op {
	case 178, 179:
		return x.findsField(named, true)
	case 180, 181:
		return x.findsField(named, false)
	case 182, 183:
		return x.findsMethod(named, false)
	case 184:
		if named.Class == sys {
			return Call(named.Name, named.Type) > 0
		}
		return x.findsMethod(named, true)
	}
	_, there := x.places[named.Class] // of which 187 makes an object
	return there && named.Class != sys
}

// findsField holds if the field that a constant names is found, and is as it is asked for.
func (x *index) findsField(named api.Const, static bool) bool {
	f, ok := x.findField(named.Class, named.Name)
	return ok && isStaticField(f.Field) == static && f.Type == named.Type
}

// findsMethod holds if the method that a constant names is found, and is as it is asked for.
func (x *index) findsMethod(named api.Const, static bool) bool {
	at, k := x.findMethod(named.Class, named.Name, named.Type)
	return at >= 0 && isStaticMethod(x.classes[at].Methods[k]) == static
}

// hasMain holds if a class itself has the method that a program begins with.
func hasMain(c api.Class) bool {
	k, e := class.Find(c, "main", "()V")
	return e == api.OK && isStaticMethod(c.Methods[k])
}
