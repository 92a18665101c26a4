package link_test

import (
	"reflect"
	"testing"

	"larch/api"
	"larch/link"
)

// Tests that nothing is kept of what is handed in or out.

// whole is a list whose classes have something of each kind: handlers and maps, too.
func whole() []api.Class {
	c := classOf("c<Object", aMain, "0 f I", "8 s J", "0 g [I")
	methodOf(&c, 0, "m", "(J)V", "nop nop return pop return")
	putTexts(&c, "StackMapTable")
	putClasses(&c, "Throwable", "Index")
	last := &c.Methods[1].Code
	last.Handlers = []api.Handler{{From: 0, To: 2, At: 3}, {From: 1, To: 3, At: 3, Class: put(&c, constant("class Index"))}}
	last.Maps = []api.Map{
		{At: 1, Locals: []api.Type{ref("c"), kindOf(api.KLong), {}}},
		{At: 3, Locals: []api.Type{ref("c"), {}, {}}, Stack: []api.Type{ref("Throwable")}},
	}
	return []api.Class{c, classOf("d<c", "0 h J", "8 t I", "0 m (J)V")}
}

// scribble writes over all members of a list, and over the room behind them.
func scribble[T any](l []T, x T) {
	l = l[:cap(l)]
	for k := range l {
		l[k] = x
	}
}

// scribbleMethod writes over all that a method has.
func scribbleMethod(m api.Method) {
	for _, x := range m.Code.Maps {
		scribble(x.Locals, ref("changed"))
		scribble(x.Stack, ref("changed"))
	}
	scribble(m.Code.Bytes, 0xff)
	scribble(m.Code.Handlers, api.Handler{From: 9})
	scribble(m.Code.Maps, api.Map{At: 9})
}

// scribbleClasses writes over all that classes have, and over them.
func scribbleClasses(l []api.Class) {
	for _, c := range l {
		for _, m := range c.Methods {
			scribbleMethod(m)
		}
		scribble(c.Pool, api.Entry{Tag: 9, Text: "changed"})
		scribble(c.Fields, api.Field{Name: "changed"})
		scribble(c.Methods, api.Method{Name: "changed"})
	}
	scribble(l, api.Class{Name: "changed"})
}

// isWhole asks for all that a program of whole tells.
func isWhole(t *testing.T, what string, p *link.Program) {
	t.Helper()
	l := whole()
	all := plainAll(l)
	if !reflect.DeepEqual(copies(p.All()), copies(all)) {
		t.Fatalf("%s: All: %s", what, told(p.All()))
	}
	holds(t, p, all)
	for at, c := range l {
		for k, want := range c.Methods {
			if m, e := p.Method(10+at, k); e != api.OK || !reflect.DeepEqual(m, want) {
				t.Errorf("%s: Method(%d, %d): %v %v", what, 10+at, k, m, e)
			}
		}
	}
}

func TestNothingOfTheListIsKept(t *testing.T) {
	l := whole()
	p := fits(t, l)
	isWhole(t, "made", p)
	scribbleClasses(l)
	isWhole(t, "with the list changed", p)
	// Nor is anything of one program another one's.
	l = whole()
	q, r := fits(t, l), fits(t, l)
	scribbleClasses(q.All())
	isWhole(t, "another one", r)
	isWhole(t, "the first one", p)
}

func TestNothingThatIsToldIsKept(t *testing.T) {
	p := fits(t, whole())
	scribbleClasses(p.All())
	isWhole(t, "with All changed", p)
	for _, s := range []string{"c", "d", "Object"} {
		scribble(p.Fields(s), api.Field{Name: "changed"})
		scribble(p.Zeros(s), api.Value{Kind: 9, N: 9})
	}
	scribble(p.Statics(), api.Field{Name: "changed"})
	isWhole(t, "with fields changed", p)
	for at := range 12 {
		for k := range 3 {
			m, _ := p.Method(at, k)
			scribbleMethod(m)
		}
	}
	isWhole(t, "with methods changed", p)
	scribbleClasses(link.House())
	isWhole(t, "with the house changed", p)
	isWhole(t, "made again", fits(t, whole()))
}

// No two lists of one answer share memory.
func TestListsAreApart(t *testing.T) {
	p := fits(t, whole())
	n := len(p.All())
	for k := range n {
		all := p.All()
		scribbleClasses(all[k : k+1 : k+1])
		for j, c := range p.All() {
			if j != k && !reflect.DeepEqual(all[j], c) {
				t.Errorf("class %d is a part of class %d", j, k)
			}
		}
	}
	all := p.All()
	scribble(all[10].Methods[1].Code.Maps[0].Locals, ref("changed"))
	if !reflect.DeepEqual(all[10].Methods[1].Code.Maps[1], whole()[0].Methods[1].Code.Maps[1]) {
		t.Error("a map is a part of another one")
	}
}

// A list that is refused changes no program, and is not changed itself (which makes asks for each list).
func TestRefusedChangesNothing(t *testing.T) {
	p := fits(t, whole())
	for k := range 2 {
		for _, change := range []func(*api.Class){rename("1"), below("none"), field(0, "f", "V"), unsound, wrong} {
			l := whole()
			change(&l[k])
			refused(t, l, k)
			isWhole(t, "with another one refused", p)
		}
	}
}
