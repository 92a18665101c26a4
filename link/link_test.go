package link_test

import (
	"fmt"
	"reflect"
	"slices"
	"strconv"
	"strings"
	"testing"

	"larch/api"
	"larch/class"
	"larch/link"
)

// Tests of 13.1: Make, as far as it looks at all classes ahead of their codes; House and Call.

// told tells a list: names, what they are below, and members.
func told(l []api.Class) string {
	var s []string
	for _, c := range l {
		text := c.Name + "<" + c.Super
		for _, f := range c.Fields {
			text += fmt.Sprintf(" %d %s %s", f.Access, f.Name, f.Type)
		}
		for _, m := range c.Methods {
			text += fmt.Sprintf(" %d %s%s %v", m.Access, m.Name, m.Type, m.Code.Bytes)
		}
		s = append(s, text)
	}
	return "{" + strings.Join(s, ", ") + "}"
}

// copies answers classes in memory of their own.
func copies(l []api.Class) []api.Class {
	var own []api.Class
	for _, c := range l {
		own = append(own, class.Copy(c))
	}
	return own
}

// makes makes a program of a list, and holds it against the plain reading, and the list against what it was.
func makes(t *testing.T, l []api.Class) (*link.Program, int, api.Errno) {
	t.Helper()
	before := copies(l)
	p, n, e := link.Make(l)
	if len(l) > 0 && !reflect.DeepEqual(l, before) {
		t.Errorf("%s: what was handed in is changed", told(before))
	}
	if want, errno := plainMake(l); n != want || e != errno || (p == nil) != (e != api.OK) {
		t.Errorf("%s: %d %v, want %d %v", told(l), n, e, want, errno)
	}
	return p, n, e
}

// fits asks for a list that fits together.
func fits(t *testing.T, l []api.Class) *link.Program {
	t.Helper()
	p, n, e := makes(t, l)
	if n != 10+len(l) || e != api.OK {
		t.Fatalf("%s: %d %v, want %d", told(l), n, e, 10+len(l))
	}
	return p
}

// refused asks for a list that does not, and the number that is told.
func refused(t *testing.T, l []api.Class, number int) {
	t.Helper()
	if p, n, e := makes(t, l); p != nil || n != number || e != api.ErrLink {
		t.Errorf("%s: %d %v, want %d %v", told(l), n, e, number, api.ErrLink)
	}
}

// refusedAt asks for lists of one, three and five classes, of which a class at each place is changed so that it does not fit.
func refusedAt(t *testing.T, what string, change func(c *api.Class)) {
	t.Helper()
	for _, n := range []int{1, 3, 5} {
		for k := range n {
			l := plainList(n)
			change(&l[k])
			if p, got, e := makes(t, l); p != nil || got != k || e != api.ErrLink {
				t.Errorf("%s, at %d of %d: %d %v", what, k, n, got, e)
			}
		}
	}
}

// fitsAt asks likewise for lists that fit in spite of the change.
func fitsAt(t *testing.T, change func(c *api.Class)) {
	t.Helper()
	for _, n := range []int{1, 3, 5} {
		for k := range n {
			l := plainList(n)
			change(&l[k])
			fits(t, l)
		}
	}
}

func TestExample(t *testing.T) {
	text := func(s string) api.Entry { return api.Entry{Tag: api.TUtf8, Text: s} }
	c := api.Class{
		Pool:    []api.Entry{{}, text("Main"), {Tag: api.TClass, A: 1}, text("Object"), {Tag: api.TClass, A: 3}, text("main"), text("()V"), text("Code")},
		Name:    "Main",
		Super:   "Object",
		Methods: []api.Method{{Access: api.AStatic, Name: "main", Type: "()V", Code: api.Code{Bytes: []byte{0xb1}}}},
	}
	p, n, e := link.Make([]api.Class{c})
	if n != 11 || e != api.OK || p.Place("Main") != 10 {
		t.Errorf("one class: %d %v", n, e)
	}
	fits(t, []api.Class{c})
}

func TestHowMany(t *testing.T) {
	refused(t, nil, 0)
	refused(t, []api.Class{}, 0)
	for _, n := range []int{1, 2, 31, api.MaxClasses} {
		fits(t, plainList(n))
	}
	for _, n := range []int{api.MaxClasses + 1, api.MaxClasses + 2, 100} {
		refused(t, plainList(n), 0)
	}
	// How many there are is asked first, whatever the classes are.
	l := plainList(api.MaxClasses + 1)
	l[7].Name = ""
	refused(t, l, 0)
	refused(t, make([]api.Class, 33), 0)
	l = plainList(api.MaxClasses)
	l[31].Name = ""
	refused(t, l, 31)
}

// rename changes a class's name, and puts it into its pool.
func rename(name string) func(*api.Class) {
	return func(c *api.Class) {
		putClasses(c, name)
		c.Name = name
	}
}

// below changes what a class is below.
func below(super string) func(*api.Class) {
	return func(c *api.Class) {
		putClasses(c, super)
		c.Super = super
	}
}

func TestNames(t *testing.T) {
	for _, s := range []string{"", "1", "1a", "_a", "$a", "/a", "a-b", "a b", "a.b", "a;", "[I", "[La;", "La;", "é", "aé", "a\x00", strings.Repeat("a", 61), strings.Repeat("a", 300)} {
		refusedAt(t, "the name "+s, rename(s))
	}
	for _, s := range []string{"a", "Z", "a1_$/", "I", "J", "B", "V", "object", "Sys", "Objects", strings.Repeat("a", 60)} {
		fitsAt(t, rename(s))
	}
	for _, s := range houseNames() {
		refusedAt(t, "the house's name "+s, rename(s))
	}
	// A name twice: it is the second one that does not fit, wherever both are, and whatever it has.
	for k := range 5 {
		for j := range k {
			l := plainList(5)
			rename(l[j].Name)(&l[k])
			refused(t, l, k)
			l[k] = l[j]
			refused(t, l, k)
		}
	}
	l := plainList(5)
	for k := 1; k < 5; k++ {
		rename("c0")(&l[k])
	}
	refused(t, l, 1)
}

func TestSupers(t *testing.T) {
	for _, s := range []string{"", "none", "sys", "object", "[I", "[LObject;", "LObject;", "Object ", "1", "é", strings.Repeat("a", 300)} {
		refusedAt(t, "below "+s, below(s))
	}
	for _, s := range houseNames() {
		if s != "sys" {
			fitsAt(t, below(s))
		}
	}
	// One of the list, wherever it is; rings are elsewhere.
	for k := range 5 {
		for j := range 5 {
			if k != j {
				l := plainList(5)
				below(l[j].Name)(&l[k])
				fits(t, l)
			}
		}
	}
	// A class below one that is behind it and below sys fits, but that one does not.
	l := plainList(3)
	below("c2")(&l[0])
	below("sys")(&l[2])
	refused(t, l, 2)
	// A class below one that is behind it and below none, or below one that there is not, does not fit itself.
	for _, s := range []string{"", "none"} {
		l := plainList(3)
		below("c2")(&l[1])
		below(s)(&l[2])
		refused(t, l, 1)
	}
	// An empty Super is none, even where a class behind has an empty name: then that is above Object neither.
	l = plainList(3)
	below("")(&l[1])
	rename("")(&l[2])
	refused(t, l, 1)
	l = plainList(3)
	rename("")(&l[2])
	methodOf(&l[2], 0, "main", "()V", "")
	refused(t, l, 2)
}

// supers makes a list of "name<super" texts, each class with a main.
func supers(text string) []api.Class {
	var l []api.Class
	for _, s := range strings.Fields(text) {
		l = append(l, classOf(s, aMain))
	}
	return l
}

func TestRings(t *testing.T) {
	for _, x := range []struct {
		text   string
		number int
	}{
		{"a<a", 0}, {"a<Object b<b", 1}, {"a<Object b<b c<Object", 1}, {"a<Object b<Object c<c", 2},
		{"a<b b<a", 0}, {"a<Object b<c c<b", 1}, {"a<Object b<d c<Object d<b", 1}, {"b<Object a<c c<b d<e e<d", 3},
		{"a<b b<c c<a", 0}, {"x<Object a<c b<a c<b", 1}, {"x<Object a<b b<c c<d d<e e<a", 1},
		{"below<a a<a", 0}, {"x<Object below<a a<b b<a", 1}, {"x<Object below<under under<a a<b b<c c<a", 1}, {"x<Object a<b b<a below<a", 1}, {"below<x x<Object a<a", 2},
	} {
		refused(t, supers(x.text), x.number)
	}
	// The longest rings that there may be, and the longest way up that there may be.
	l := plainList(api.MaxClasses)
	for k := range l {
		below("c" + strconv.Itoa((k+1)%len(l)))(&l[k])
	}
	refused(t, l, 0)
	below("Object")(&l[31])
	fits(t, l)
	below("c31")(&l[31])
	refused(t, l, 0)
	slices.Reverse(l)
	refused(t, l, 0)
	below("Throwable")(&l[0])
	fits(t, l)
}

// field answers what puts a field into a class, whatever it is.
func field(access int, name, desc string) func(*api.Class) {
	return func(c *api.Class) { fieldOf(c, access, name, desc) }
}

// method answers what puts a method into a class.
func method(access int, name, desc string) func(*api.Class) {
	return func(c *api.Class) { methodOf(c, access, name, desc, "") }
}

// both answers what makes both changes.
func both(f, g func(*api.Class)) func(*api.Class) {
	return func(c *api.Class) {
		f(c)
		g(c)
	}
}

func TestFieldTypes(t *testing.T) {
	for _, s := range []string{"", "V", "B", "L;", "La", "a", "()V", "(I)I", "II", "I ", "[", "[V", "[L;", "L1;", "[[[[[[[[[I", "Z"} {
		for _, access := range []int{0, api.AStatic} {
			refusedAt(t, "a field's type "+s, field(access, "f", s))
			refusedAt(t, "a second field's type "+s, both(field(0, "g", "I"), field(access, "f", s)))
		}
	}
	for _, s := range []string{"I", "J", "LObject;", "Lnone;", "Lsys;", "[I", "[B", "[[J", "[LObject;", "[[[[[[[[I"} {
		fitsAt(t, field(0, "f", s))
		fitsAt(t, field(api.AStatic, "f", s))
	}
}

func TestFieldNames(t *testing.T) {
	for _, x := range []func(*api.Class){field(0, "f", "I"), field(0, "f", "J"), field(api.AStatic, "f", "I"), field(api.AStatic, "f", "LObject;")} {
		refusedAt(t, "a name twice", both(field(0, "f", "I"), x))
		refusedAt(t, "a name twice", both(field(api.AStatic, "f", "I"), x))
		refusedAt(t, "a name twice, with one between", both(field(0, "f", "I"), both(field(0, "g", "I"), x)))
	}
	fitsAt(t, both(field(0, "f", "I"), field(0, "F", "I")))
	fitsAt(t, both(field(0, "main", "I"), method(0, "f", "()V"))) // a method's name is another one
	// Of one above each name may be there again, of whatever type, static or not.
	for _, up := range []string{"0 f I", "8 f I"} {
		for _, down := range []string{"0 f I", "8 f I", "0 f J", "8 f J", "0 f LObject;", "8 f [I"} {
			fits(t, chain(of(aMain, up), of(down)))
			fits(t, chain(of(aMain, up), of(), of(down)))
			l := chain(of(aMain, up), of(aMain, down))
			slices.Reverse(l)
			fits(t, l)
		}
	}
}

func TestMethodNames(t *testing.T) {
	for _, access := range []int{0, 8, 32, 40} {
		for _, other := range []int{0, 8, 32, 40} {
			refusedAt(t, "a method twice", both(method(access, "m", "()V"), method(other, "m", "()V")))
			refusedAt(t, "a method twice, with one between", both(method(access, "m", "(I)I"), both(method(0, "m", "()V"), method(other, "m", "(I)I"))))
			fitsAt(t, both(method(access, "m", "()V"), method(other, "m", "()I")))
			fitsAt(t, both(method(access, "m", "(I)V"), method(other, "m", "(J)V")))
			fitsAt(t, both(method(access, "m", "()V"), method(other, "n", "()V")))
		}
	}
	refusedAt(t, "main twice", method(api.AStatic, "main", "()V"))
	// Name and type are not laid one behind the other.
	fitsAt(t, both(method(0, "m", "()V"), method(8, "m()", "()V")))
	fitsAt(t, both(method(0, "m(I)V", "()V"), method(0, "m", "(I)V")))
	first := has(classOf("first<Object", aMain), unsound)
	refused(t, []api.Class{first, has(classOf("a<Object"), method(0, "m(I)V", "()V"), method(0, "m", "(I)V()V"))}, 0)
	refused(t, []api.Class{first, has(classOf("a<Object"), method(0, "m(I)V", "()V")), has(classOf("b<a"), method(8, "m", "(I)V()V"))}, 0)
}

// isStatic tells how numbers are read: by these alone a method is static.
func isStatic(access int) bool { return access == 8 || access == 40 }

// A class that is not sound stands ahead of the two: it is told (0) just if the two fit as far as they are looked at first.
func TestMethodsAbove(t *testing.T) {
	accesses := []int{0, 8, 32, 40, 1, 2, 9, 16, 24, 41, 48, 72, -8, -40, 8 + 1<<32, 1 << 40}
	for _, up := range accesses {
		for _, down := range accesses {
			first := has(classOf("first<Object", aMain), unsound)
			want := 0
			if isStatic(up) != isStatic(down) {
				want = 2
			}
			a, b := has(classOf("a<Object"), method(up, "m", "(I)V")), has(classOf("b<a"), method(down, "m", "(I)V"))
			refused(t, []api.Class{first, a, b}, want)
			// With a class between.
			far := has(classOf("b<between"), method(down, "m", "(I)V"))
			refused(t, []api.Class{first, a, far, classOf("between<a")}, want)
			// With the one above behind.
			if want != 0 {
				want = 1
			}
			refused(t, []api.Class{first, b, a}, want)
			// With another name, or another type, it is another one.
			refused(t, []api.Class{first, a, has(classOf("b<a"), method(down, "n", "(I)V"), method(down, "m", "(J)V"), method(down, "m", "(I)I"))}, 0)
			refused(t, []api.Class{first, a, has(classOf("b<Object"), method(down, "m", "(I)V"))}, 0)
		}
	}
}

func TestMethodsAboveFit(t *testing.T) {
	for _, x := range [][2]int{{0, 0}, {0, 32}, {32, 0}, {32, 32}, {8, 8}, {8, 40}, {40, 8}, {40, 40}} {
		fits(t, []api.Class{classOf("c<Object", aMain), has(classOf("a<Object"), method(x[0], "m", "()V")), has(classOf("b<a"), method(x[1], "m", "()V"))})
	}
	for _, x := range [][2]int{{0, 8}, {0, 40}, {32, 8}, {32, 40}, {8, 0}, {8, 32}, {40, 0}, {40, 32}} {
		refused(t, []api.Class{classOf("c<Object", aMain), has(classOf("a<Object"), method(x[0], "m", "()V")), has(classOf("b<a"), method(x[1], "m", "()V"))}, 2)
	}
	// What is found above is the nearest one: with a static one over one that is not, the class between does not fit, not the last one.
	l := chain(of(aMain, "0 m ()V"), of("8 m ()V"), of("8 m ()V"))
	refused(t, l, 1)
	// A field's name above is none of a method's.
	fits(t, chain(of(aMain, "8 m I"), of("0 m ()V")))
	// sys's own calls are nobody's above.
	fits(t, chain(of(aMain, "0 out (I)V", "0 in ()I"), of("0 yield ()V")))
}

func TestHouse(t *testing.T) {
	want := "Object< Throwable<Object Arithmetic<Throwable Null<Throwable Index<Throwable Negative<Throwable Cast<Throwable Store<Throwable Monitor<Throwable sys<Object"
	var got []string
	for _, c := range link.House() {
		got = append(got, c.Name+"<"+c.Super)
		if len(c.Pool)+len(c.Fields)+len(c.Methods) != 0 {
			t.Errorf("%s has more than its name and its super: %v", c.Name, c)
		}
	}
	if s := strings.Join(got, " "); s != want {
		t.Errorf("the house's classes: %s, want %s", s, want)
	}
	l := link.House()
	for k := range l {
		l[k] = api.Class{Name: "changed"}
	}
	if again := link.House(); len(again) != 10 || again[0].Name != "Object" || again[9].Name != "sys" {
		t.Error("what House hands out is kept")
	}
}

func TestCall(t *testing.T) {
	names, kinds := []string{"", "out(I)V", "OUT", "out ", "sys", "main"}, []string{"", "V", "()J", "(I)", "(J)V", "(I)I", "(LObject;)I", "(Lsys;)V", "out(I)V"}
	for _, x := range houseCalls() {
		names, kinds = append(names, x.name), append(kinds, x.kind)
		// Texts that are a call's only one behind the other.
		whole := x.name + x.kind
		for cut := range len(whole) + 1 {
			if n := link.Call(whole[:cut], whole[cut:]); (n != 0) != (whole[:cut] == x.name) {
				t.Errorf("Call(%q, %q): %d", whole[:cut], whole[cut:], n)
			}
		}
	}
	for _, name := range names {
		for _, kind := range kinds {
			if n := link.Call(name, kind); n != plainHouseCall(name, kind) {
				t.Errorf("Call(%q, %q): %d, want %d", name, kind, n, plainHouseCall(name, kind))
			}
		}
	}
	for k, x := range houseCalls() {
		if n := link.Call(x.name, x.kind); n != k+1 {
			t.Errorf("Call(%q, %q): %d, want %d", x.name, x.kind, n, k+1)
		}
	}
}
