package kind_test

import (
	"slices"
	"strconv"
	"strings"
	"testing"

	"larch/api"
	"larch/kind"
)

// classes makes a list of "name<super" texts.
func classes(text string) []api.Class {
	var l []api.Class
	for _, s := range strings.Fields(text) {
		name, super, _ := strings.Cut(s, "<")
		l = append(l, api.Class{Name: name, Super: super})
	}
	return l
}

func above(t *testing.T, list, name, want string) {
	t.Helper()
	if got := strings.Join(kind.Above(classes(list), name), " "); got != want {
		t.Errorf("Above(%s, %q): %q, want %q", list, name, got, want)
	}
}

func TestAboveNone(t *testing.T) {
	for _, list := range []string{"", "b", "b<c c", "b<c c<b", "b<a", "A<b aa<b"} {
		above(t, list, "a", "")
		above(t, list, "", "")
	}
	if l := kind.Above(nil, "a"); len(l) != 0 {
		t.Errorf("Above in nil: %v", l)
	}
}

func TestAboveChain(t *testing.T) {
	const list = "c<b a d<c b<a"
	above(t, list, "d", "c b a")
	above(t, list, "c", "b a")
	above(t, list, "b", "a")
	above(t, list, "a", "")
	above(t, list, "", "")
	const open = "c<b b<a a<Object"
	above(t, open, "c", "b a Object")
	above(t, open, "a", "Object")
	above(t, open, "Object", "")
	above(t, "a<[I", "a", "[I")
	above(t, "a<[I [I<b b", "a", "[I b")
	above(t, "a<a-b a-b<b", "a", "a-b b")
}

func TestAboveEmptyName(t *testing.T) {
	above(t, "<a a<b b", "", "a b") // a class without a name has one above it, but stands above none
	above(t, "a <b", "a", "")
	above(t, "a<b b <c", "a", "b")
}

func TestAboveRings(t *testing.T) {
	above(t, "a<a", "a", "")
	above(t, "a<b b<a", "a", "b")
	above(t, "a<b b<a", "b", "a")
	above(t, "a<b b<c c<a", "b", "c a")
	above(t, "x<y y<a a<b b<c c<a", "x", "y a b c")
	above(t, "x<y y<a a<b b<c c<a", "a", "b c")
	above(t, "x<y y<y", "x", "y")
	above(t, "x<y y<x z<x", "z", "x y")
}

func TestAboveFirstCounts(t *testing.T) {
	above(t, "a<b a<c b c", "a", "b")
	above(t, "a<c a<b b c", "a", "c")
	above(t, "a a<b b", "a", "")
	above(t, "a<b b<c b<d c d", "a", "b c")
	above(t, "a<b b b<d c d", "a", "b")
	above(t, "a<b b<a a<z", "b", "a")
	above(t, "x<a a<b a<c b<a", "x", "a b")
}

// A long list is asked another way than a short one: both ways must tell the same.
func TestAboveLongLists(t *testing.T) {
	for _, more := range []int{55, 57, 58, 59, 60, 61, 62, 63, 64, 65, 66, 100, 1000} {
		pad := ""
		for i := range more {
			pad += " p" + strconv.Itoa(i) + "<p" + strconv.Itoa(i+1)
		}
		above(t, "a<b b<c b<d c d"+pad, "a", "b c")
		above(t, "a<b"+pad+" b<c c<a b<q a<q", "a", "b c")
		above(t, "x<a a<b b<a"+pad+" a<z", "x", "a b")
		above(t, "a<Object"+pad, "a", "Object")
		above(t, pad+" a<a", "a", "")
		above(t, pad+" a<b", "b", "")
		above(t, "a <c c"+pad, "a", "")
		if n := len(kind.Above(classes(pad), "p0")); n != more {
			t.Errorf("%d above p0, want %d", n, more)
		}
		l := classes("a<b b<c b<d c d" + pad)
		if !kind.May(l, ref("a"), ref("c")) || kind.May(l, ref("a"), ref("d")) || !kind.May(l, ref("[Lp0;"), ref("[Lp9;")) {
			t.Errorf("May with %d more", more)
		}
	}
}

func TestAboveVeryLong(t *testing.T) {
	const n = 200000
	l := make([]api.Class, n)
	for i := range l {
		l[i] = api.Class{Name: strconv.Itoa(i), Super: strconv.Itoa((i + 1) % n)}
	}
	up := kind.Above(l, "7")
	if len(up) != n-1 || up[0] != "8" || up[n-2] != "6" {
		t.Errorf("Above in a ring of %d: %d", n, len(up))
	}
}

// kinds are types of each kind, and some that there are not.
func kinds() []api.Type {
	l := []api.Type{of(api.KTop), of(api.KInt), of(api.KLong), of(api.KNull), of(5), of(-1), of(4 + 1<<32)}
	for _, k := range []int{api.KTop, api.KInt, api.KLong, api.KNull, 5, -1} {
		l = append(l, api.Type{Kind: k, Name: "a"}, api.Type{Kind: k, Name: "Object"}, api.Type{Kind: k, Name: "[I"}, api.Type{Kind: k, Name: "[Lc;"})
	}
	for _, s := range []string{"", "Object", "a", "b", "c", "d", "r", "s", "none", "a-b", "object", "L", "I", "J", "B"} {
		l = append(l, ref(s))
	}
	for _, inner := range []string{"", "I", "J", "B", "V", "a", "LObject;", "La;", "Lb;", "Lc;", "Ld;", "Lr;", "Ls;", "Lnone;", "L;", "La-b;", "II", "La;I"} {
		for _, n := range []int{1, 2, 3, 7, 8, 9} {
			l = append(l, ref(deep(n, inner)))
		}
	}
	return l
}

const family = "c<b b<a a<Object d<a r<s s<r a-b<c <a e<[I [I<a [La;<a L<[Lc; b<d"

func may(t *testing.T, l []api.Class, x, y api.Type, want bool) {
	t.Helper()
	if got := kind.May(l, x, y); got != want {
		t.Errorf("May(%v, %v): %v", x, y, got)
	}
}

func TestMayTop(t *testing.T) {
	for _, l := range [][]api.Class{nil, classes(family)} {
		for _, x := range kinds() {
			may(t, l, x, of(api.KTop), true)
			may(t, l, x, api.Type{Kind: api.KTop, Name: "a"}, true)
			may(t, l, of(api.KTop), x, x.Kind == api.KTop)
		}
	}
}

func TestMaySame(t *testing.T) {
	for _, x := range kinds() {
		may(t, nil, x, x, true)
		may(t, classes(family), x, x, true)
	}
	may(t, nil, api.Type{Kind: api.KInt, Name: "a"}, of(api.KInt), false)
	may(t, nil, of(api.KInt), api.Type{Kind: api.KInt, Name: "a"}, false)
	may(t, nil, of(5), of(6), false)
}

func TestMayNumbers(t *testing.T) {
	for _, x := range []int{api.KInt, api.KLong} {
		for _, y := range kinds() {
			may(t, classes(family), of(x), y, y == of(x) || y.Kind == api.KTop)
			may(t, classes(family), y, of(x), y == of(x))
		}
	}
}

func TestMayNull(t *testing.T) {
	for _, y := range kinds() {
		may(t, classes(family), of(api.KNull), y, y == of(api.KNull) || y.Kind == api.KTop || y.Kind == api.KRef)
		may(t, classes(family), y, of(api.KNull), y == of(api.KNull))
	}
}

func TestMayObject(t *testing.T) {
	for _, l := range [][]api.Class{nil, classes(family), classes("Object<a a")} {
		for _, x := range kinds() {
			may(t, l, x, ref("Object"), x.Kind == api.KRef || x.Kind == api.KNull)
		}
		may(t, l, ref("Object"), ref("[I"), false)
		may(t, l, ref("Object"), ref("[LObject;"), false)
		may(t, l, ref("[La;"), ref("[LObject;"), true)
		may(t, l, ref("[[I"), ref("[LObject;"), true)
		may(t, l, ref("[[I"), ref("[[LObject;"), false)
		may(t, l, ref("[I"), ref("[LObject;"), false)
		may(t, l, ref("[J"), ref("[LObject;"), false)
		may(t, l, ref("[B"), ref("[LObject;"), false)
		may(t, l, ref("[[B"), ref("[LObject;"), true)
		may(t, l, ref("[LObject;"), ref("[[I"), false)
		may(t, l, ref("a"), ref("[LObject;"), false)
		may(t, l, ref(deep(8, "B")), ref(deep(7, "LObject;")), true)
		may(t, l, ref(deep(9, "B")), ref(deep(8, "LObject;")), false)
		may(t, l, ref(deep(8, "La;")), ref(deep(8, "LObject;")), true)
	}
	may(t, classes(family), ref("[LObject;"), ref("[La;"), false)
	may(t, classes("Object<a a"), ref("Object"), ref("a"), true)
	may(t, classes("Object<a a"), ref("b"), ref("a"), false)
	may(t, nil, ref("a"), ref("object"), false)
}

func TestMayClasses(t *testing.T) {
	l := classes(family)
	ups := map[string]string{"c": " b a Object ", "b": " a Object ", "a": " Object ", "d": " a Object ", "r": " s ", "s": " r ", "a-b": " c b a Object ", "": " a Object "}
	for _, x := range []string{"c", "b", "a", "d", "r", "s", "a-b", "none", "", "Object"} {
		for _, y := range []string{"c", "b", "a", "d", "r", "s", "a-b", "none", "", "Object"} {
			want := x == y || y == "Object" || y != "" && strings.Contains(ups[x], " "+y+" ")
			may(t, l, ref(x), ref(y), want)
			if kind.Class(x) && kind.Class(y) {
				for n := 1; n <= 8; n++ {
					may(t, l, ref(deep(n, "L"+x+";")), ref(deep(n, "L"+y+";")), want)
					may(t, l, ref(deep(n, "L"+x+";")), ref(deep(n-1, "L"+y+";")), n > 1 && y == "Object")
					may(t, l, ref(deep(n-1, "L"+x+";")), ref(deep(n, "L"+y+";")), false)
				}
			}
		}
	}
}

func TestMayArrayAndClass(t *testing.T) {
	l := classes(family) // where arrays have classes above and below them, which count for nothing
	may(t, l, ref("[I"), ref("a"), false)
	may(t, l, ref("[La;"), ref("a"), false)
	may(t, l, ref("e"), ref("[I"), false)
	may(t, l, ref("L"), ref("[Lc;"), false)
	may(t, l, ref("a"), ref("[La;"), false)
	may(t, classes("[x<[y [y"), ref("[x"), ref("[y"), false)
	may(t, classes("[x<y y"), ref("[x"), ref("y"), false)
}

func TestMayArraysOfNumbers(t *testing.T) {
	l := classes(family)
	for _, x := range []string{"I", "J", "B"} {
		for _, y := range []string{"I", "J", "B", "La;", "LObject;"} {
			for n := 1; n <= 8; n++ {
				may(t, l, ref(deep(n, x)), ref(deep(n, y)), x == y)
				may(t, l, ref(deep(n, y)), ref(deep(n, x)), x == y)
			}
		}
	}
	may(t, l, ref("[["), ref("[LObject;"), false) // no array's: it has no elements
	may(t, l, ref("[[V"), ref("[LObject;"), false)
	may(t, l, ref("[La;I"), ref("[LObject;"), false)
	may(t, l, ref("[Lc;"), ref("[La;I"), false)
}

func TestNothingChanged(t *testing.T) {
	l := classes(family)
	was := slices.Clone(l)
	up := kind.Above(l, "c")
	for i := range up {
		up[i] = "x"
	}
	if again := kind.Above(l, "c"); strings.Join(again, " ") != "b a Object" {
		t.Errorf("Above behind a change of its answer: %v", again)
	}
	for _, x := range kinds() {
		for _, y := range kinds() {
			kind.May(l, x, y)
		}
	}
	for i, c := range l {
		if c.Name != was[i].Name || c.Super != was[i].Super {
			t.Errorf("class %d was changed", i)
		}
	}
	x := []api.Type{of(api.KLong), ref("a")}
	kind.Wide(x...)
	if x[0] != of(api.KLong) || x[1] != ref("a") {
		t.Errorf("Wide changed its types: %v", x)
	}
	one, _, _ := kind.Method("(IJ)V")
	one[0] = ref("x")
	method(t, "(IJ)V", of(api.KTop), of(api.KInt), of(api.KLong))
}
