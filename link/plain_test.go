package link_test

import (
	"slices"

	"larch/api"
	"larch/code"
	"larch/kind"
	"larch/pool"
	"larch/verify"
)

// A plain reading of the chapter, sentence by sentence, that everything is held against.

// plainAll is the house's classes and the list's.
func plainAll(l []api.Class) []api.Class {
	all := []api.Class{
		{Name: "Object"}, {Name: "Throwable", Super: "Object"}, {Name: "Arithmetic", Super: "Throwable"}, {Name: "Null", Super: "Throwable"}, {Name: "Index", Super: "Throwable"},
		{Name: "Negative", Super: "Throwable"}, {Name: "Cast", Super: "Throwable"}, {Name: "Store", Super: "Throwable"}, {Name: "Monitor", Super: "Throwable"}, {Name: "sys", Super: "Object"},
	}
	return append(all, l...)
}

// plainPlace is the place of the first class of a name, -1 if there is none.
func plainPlace(all []api.Class, name string) int {
	return slices.IndexFunc(all, func(c api.Class) bool { return c.Name == name })
}

func plainStaticField(f api.Field) bool { return f.Access == 8 }

func plainStaticMethod(m api.Method) bool { return m.Access == 8 || m.Access == 40 }

// plainWay is the places of a class and of those above it, none if there is no such class.
func plainWay(all []api.Class, name string) []int {
	if plainPlace(all, name) < 0 {
		return nil
	}
	l := []int{plainPlace(all, name)}
	for _, up := range kind.Above(all, name) {
		if at := plainPlace(all, up); at >= 0 {
			l = append(l, at)
		}
	}
	return l
}

// plainField answers the places of the class and of the field that is found.
func plainField(all []api.Class, class, name string) (int, int) {
	for _, at := range plainWay(all, class) {
		for k, f := range all[at].Fields {
			if f.Name == name {
				return at, k
			}
		}
	}
	return -1, -1
}

// plainMethod answers the places of the class and of the method that is found.
func plainMethod(all []api.Class, class, name, kind string) (int, int) {
	for _, at := range plainWay(all, class) {
		for k, m := range all[at].Methods {
			if m.Name == name && m.Type == kind {
				return at, k
			}
		}
	}
	return -1, -1
}

// plainHouseCall is the number of a house's call, 0 if there is none.
func plainHouseCall(name, kind string) int {
	for n, x := range houseCalls() {
		if x.name == name && x.kind == kind {
			return n + 1
		}
	}
	return 0
}

// plainPlaced holds for the first part of what is asked of a class.
func plainPlaced(all []api.Class, at int) bool {
	c := all[at]
	if !kind.Class(c.Name) || plainPlace(all[:at], c.Name) >= 0 {
		return false
	}
	if plainPlace(all, c.Super) < 0 || c.Super == "sys" {
		return false
	}
	if up := kind.Above(all, c.Name); len(up) == 0 || up[len(up)-1] != "Object" {
		return false
	}
	for k, f := range c.Fields {
		if _, e := kind.Parse(f.Type); e != api.OK {
			return false
		}
		for _, g := range c.Fields[:k] {
			if f.Name == g.Name {
				return false
			}
		}
	}
	for k, m := range c.Methods {
		for _, n := range c.Methods[:k] {
			if m.Name == n.Name && m.Type == n.Type {
				return false
			}
		}
		if up, j := plainMethod(all, c.Super, m.Name, m.Type); up >= 0 && plainStaticMethod(all[up].Methods[j]) != plainStaticMethod(m) {
			return false
		}
	}
	return true
}

// plainFinds holds if an instruction finds what it names.
func plainFinds(all []api.Class, op int, x api.Const) bool {
	switch op {
	case 178, 179, 180, 181:
		at, k := plainField(all, x.Class, x.Name)
		return at >= 0 && plainStaticField(all[at].Fields[k]) == (op < 180) && all[at].Fields[k].Type == x.Type
	case 182, 183:
		at, k := plainMethod(all, x.Class, x.Name, x.Type)
		return at >= 0 && !plainStaticMethod(all[at].Methods[k])
	case 184:
		if x.Class == "sys" {
			return plainHouseCall(x.Name, x.Type) > 0
		}
		at, k := plainMethod(all, x.Class, x.Name, x.Type)
		return at >= 0 && plainStaticMethod(all[at].Methods[k])
	case 187:
		return plainPlace(all, x.Class) >= 0 && x.Class != "sys"
	}
	return true
}

// plainLinked holds for the second part of what is asked of a class.
func plainLinked(all []api.Class, c api.Class) bool {
	if _, e := verify.Class(all, c); e != api.OK {
		return false
	}
	for _, m := range c.Methods {
		instrs, _ := code.Decode(m.Code.Bytes)
		for _, i := range instrs {
			x, _ := pool.Const(c.Pool, i.A)
			if !plainFinds(all, i.Op, x) {
				return false
			}
		}
	}
	return true
}

// plainMake answers the numbers that Make answers.
func plainMake(l []api.Class) (int, api.Errno) {
	if len(l) < 1 || len(l) > 32 {
		return 0, api.ErrLink
	}
	all := plainAll(l)
	for k := range l {
		if !plainPlaced(all, 10+k) {
			return k, api.ErrLink
		}
	}
	for k, c := range l {
		if !plainLinked(all, c) {
			return k, api.ErrLink
		}
	}
	for _, m := range l[0].Methods {
		if m.Name == "main" && m.Type == "()V" && plainStaticMethod(m) {
			return len(all), api.OK
		}
	}
	return 0, api.ErrLink
}

// plainFields is the fields of a class.
func plainFields(all []api.Class, name string) []api.Field {
	var l []api.Field
	way := plainWay(all, name)
	slices.Reverse(way)
	for _, at := range way {
		for _, f := range all[at].Fields {
			if !plainStaticField(f) {
				l = append(l, f)
			}
		}
	}
	return l
}

// plainStatics is the static fields of all classes.
func plainStatics(all []api.Class) []api.Field {
	var l []api.Field
	for _, c := range all {
		for _, f := range c.Fields {
			if plainStaticField(f) {
				l = append(l, f)
			}
		}
	}
	return l
}

// plainSlot counts how many fields come ahead of the one that is found, of those that it is one of.
func plainSlot(all []api.Class, class, name string, static bool) int {
	at, k := plainField(all, class, name)
	if at < 0 || plainStaticField(all[at].Fields[k]) != static {
		return -1
	}
	n := 0
	for _, f := range all[at].Fields[:k] {
		if plainStaticField(f) == static {
			n++
		}
	}
	if static {
		return n + len(plainStatics(all[:at]))
	}
	return n + len(plainFields(all, all[at].Super))
}

// plainZeros is a zero for each field of a class.
func plainZeros(all []api.Class, name string) []api.Value {
	var l []api.Value
	for _, f := range plainFields(all, name) {
		switch f.Type {
		case "I":
			l = append(l, api.Value{Kind: api.KInt})
		case "J":
			l = append(l, api.Value{Kind: api.KLong})
		default:
			l = append(l, api.Value{Kind: api.KRef})
		}
	}
	return l
}
