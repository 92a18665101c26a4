package class_test

import (
	"fmt"
	"slices"
	"testing"

	"larch/api"
	"larch/class"
)

// change changes each member of each list of a class, in place.
func change(c *api.Class) {
	for i := range c.Pool {
		c.Pool[i] = api.Entry{Tag: 99, Text: "z", N: 9, A: 9, B: 9}
	}
	for i := range c.Fields {
		c.Fields[i] = api.Field{Access: 99, Name: "z", Type: "z"}
	}
	for i := range c.Methods {
		m := &c.Methods[i]
		for j := range m.Code.Bytes {
			m.Code.Bytes[j] = 99
		}
		for j := range m.Code.Handlers {
			m.Code.Handlers[j] = api.Handler{From: 9, To: 9, At: 9, Class: 9}
		}
		for j := range m.Code.Maps {
			k := &m.Code.Maps[j]
			for n := range k.Locals {
				k.Locals[n] = api.Type{Kind: 9, Name: "z"}
			}
			for n := range k.Stack {
				k.Stack[n] = api.Type{Kind: 9, Name: "z"}
			}
			k.At = 99
		}
		m.Access, m.Name, m.Type, m.Code.Stack, m.Code.Locals = 99, "z", "z", 99, 99
	}
	c.Name, c.Super = "z", "z"
}

// grow puts a member behind each list of a class; lists that shared memory would have it in another one, too.
func grow(c *api.Class) {
	for i := range c.Methods {
		k := &c.Methods[i].Code
		for j := range k.Maps {
			m := &k.Maps[j]
			m.Locals = append(m.Locals, api.Type{Kind: 8})
			m.Stack = append(m.Stack, api.Type{Kind: 8})
		}
		k.Bytes = append(k.Bytes, 88)
		k.Handlers = append(k.Handlers, api.Handler{From: 8})
		k.Maps = append(k.Maps, api.Map{At: 8})
	}
	c.Pool = append(c.Pool, api.Entry{Tag: 8})
	c.Fields = append(c.Fields, api.Field{Name: "8"})
	c.Methods = append(c.Methods, api.Method{Name: "8"})
}

func less[T any](l []T) []T { return l[:len(l)-1] }

// cut answers a class that grew as it was before.
func cut(c api.Class) api.Class {
	c.Pool, c.Fields, c.Methods = less(c.Pool), less(c.Fields), less(c.Methods)
	for i := range c.Methods {
		k := &c.Methods[i].Code
		k.Bytes, k.Handlers, k.Maps = less(k.Bytes), less(k.Handlers), less(k.Maps)
		for j := range k.Maps {
			m := &k.Maps[j]
			m.Locals, m.Stack = less(m.Locals), less(m.Stack)
		}
	}
	return c
}

// finds asks for a method's place, or an error and 0 beside it.
func finds(t *testing.T, c api.Class, name, kind string, want int, wanted api.Errno) {
	t.Helper()
	given := class.Copy(c)
	i, e := class.Find(c, name, kind)
	is(t, fmt.Sprintf("Find of %q %q: its error", name, kind), e, wanted)
	is(t, fmt.Sprintf("Find of %q %q", name, kind), i, want)
	hasClass(t, "what was handed in", c, given)
}

// 8.2.
func TestFind(t *testing.T) {
	c := full()
	finds(t, c, "m", "()V", 0, api.OK)
	finds(t, c, "a", "()V", 1, api.OK)
	finds(t, c, "m", "I", 2, api.OK)
	for _, x := range [][2]string{
		{"a", "I"}, {"a", ""}, {"", "()V"}, {"", ""}, {"x", "()V"}, {"()V", "m"}, {"m()", "V"}, {"M", "()V"}, {"m", "()v"}, {"m", "()"},
		{"m ", "()V"}, {"z", "z"}, {"Code", "Code"},
	} {
		finds(t, c, x[0], x[1], 0, api.ErrNone)
	}
	c.Methods = append(c.Methods, c.Methods...)
	finds(t, c, "m", "()V", 0, api.OK)
	finds(t, c, "m", "I", 2, api.OK)
	c.Methods = slices.Concat(c.Methods[1:3], c.Methods)
	finds(t, c, "a", "()V", 0, api.OK)
	finds(t, c, "m", "I", 1, api.OK)
	finds(t, c, "m", "()V", 2, api.OK)
}

// 8.2: in classes without methods, where just a field has the name and the type, and in classes that are not right.
func TestFindElsewhere(t *testing.T) {
	finds(t, api.Class{}, "m", "()V", 0, api.ErrNone)
	finds(t, api.Class{}, "", "", 0, api.ErrNone)
	finds(t, api.Class{Methods: []api.Method{}}, "", "", 0, api.ErrNone)
	finds(t, api.Class{Methods: []api.Method{{}}}, "", "", 0, api.OK)
	finds(t, api.Class{Pool: fullPool(), Name: "a", Fields: full().Fields}, "m", "I", 0, api.ErrNone)
	finds(t, api.Class{Methods: []api.Method{{Name: "b"}, {Type: "b"}, {Name: "b", Type: "b"}}}, "b", "b", 2, api.OK)
	many := api.Class{Methods: append(make([]api.Method, 100000), api.Method{Name: "last"})}
	finds(t, many, "last", "", 100000, api.OK)
}

// 8.2: of all classes, right or not.
func TestCopy(t *testing.T) {
	for what, c := range rightClasses() {
		d := class.Copy(c)
		hasClass(t, "Copy of a class "+what, d, c)
		is(t, "Check of a copy of a class "+what, class.Check(d), api.OK)
	}
	for what, c := range wrongClasses() {
		hasClass(t, "Copy of a class that is not right, "+what, class.Copy(c), c)
	}
	hasClass(t, "Copy of nothing", class.Copy(api.Class{}), api.Class{})
}

// 8.2: changing the copy does not change the class, nor the other way.
func TestCopyIsApart(t *testing.T) {
	c := full()
	d := class.Copy(c)
	change(&d)
	hasClass(t, "the class, once the copy was changed", c, full())
	d = class.Copy(c)
	change(&c)
	hasClass(t, "the copy, once the class was changed", d, full())
	c = full()
	d, e := class.Copy(c), class.Copy(c)
	change(&d)
	hasClass(t, "another copy, once one was changed", e, full())
}

// 8.2: lists with room behind them share none of it.
func TestCopyIsApartBehindItsEnds(t *testing.T) {
	roomy := full()
	grow(&roomy)
	roomy = cut(roomy)
	d := class.Copy(roomy)
	grow(&d)
	grow(&roomy)
	change(&roomy)
	hasClass(t, "the copy, once both grew", cut(d), full())
	c := full()
	d = class.Copy(c)
	grow(&d)
	change(&d)
	hasClass(t, "the class, once the copy grew", c, full())
}
