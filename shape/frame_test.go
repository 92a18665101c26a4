package shape_test

import (
	"math"
	"slices"
	"strings"
	"testing"

	"larch/api"
	"larch/kind"
	"larch/shape"
)

// Tests of 11.2: May and Begin.

func may(t *testing.T, l []api.Class, a, b string, want bool) {
	t.Helper()
	if got := shape.May(l, frame(a), frame(b)); got != want {
		t.Errorf("May(%q, %q): %v", a, b, got)
	}
}

func TestMayOfOtherSizes(t *testing.T) {
	l := family()
	for _, s := range []string{"", "I", "J", "T", "N", "a", "I I", "J T", "T T", "a b c"} {
		may(t, l, s+" | "+s, s+" | "+s, true)
		for _, x := range []string{"I", "J", "T", "N", "a"} {
			may(t, l, s+" "+x+" | "+s, s+" | "+s, false)
			may(t, l, s+" | "+s, s+" "+x+" | "+s, false)
			may(t, l, x+" "+s+" | "+s, s+" | "+s, false)
			may(t, l, s+" | "+s+" "+x, s+" | "+s, false)
			may(t, l, s+" | "+s, s+" | "+s+" "+x, false)
			may(t, l, s+" | "+x+" "+s, s+" | "+s, false)
			may(t, l, s+" "+x+" | "+s, s+" | "+s+" "+x, false)
		}
	}
	may(t, l, "J | ", "I I | ", false) // as many words are not as many
	may(t, l, "J", "T T", false)
	may(t, l, "I | ", "I", false)
	may(t, l, "I", "I | ", false)
}

// Each type against each other one, in each place.
func TestMayOfEachType(t *testing.T) {
	for _, l := range [][]api.Class{family(), nil, classes("other<a a<b")} {
		for _, x := range strings.Fields(allTypes) {
			for _, y := range strings.Fields(allTypes) {
				want := kind.May(l, typeOf(x), typeOf(y))
				may(t, l, x, y, want)
				may(t, l, x+" | ", y+" | ", want)
				may(t, l, "I "+x+" a | b J", "I "+y+" a | b J", want)
				may(t, l, "I a | b "+x+" J", "I a | b "+y+" J", want)
				may(t, l, x+" | "+x+" "+x, y+" | "+y+" "+y, want)
				may(t, l, x+" | I", y+" | J", false)
				may(t, l, "I | "+x, "J | "+y, false)
				may(t, l, x+" I", y+" N", false)
				may(t, l, "I "+x, "N "+y, false)
			}
		}
	}
}

func TestMayByTheList(t *testing.T) {
	l := family()
	for _, x := range []struct {
		a, b string
		want bool
	}{
		{"b", "a", true}, {"a", "b", false}, {"c", "a", true}, {"other", "a", false}, {"a", "Object", true}, {"N", "a", true}, {"a", "N", false},
		{"[Lb;", "[La;", true}, {"[La;", "[Lb;", false}, {"[I", "Object", true}, {"[I", "[J", false}, {"I", "T", true}, {"T", "I", false},
		{"J", "T", true}, {"J", "I", false}, {"I", "J", false}, {"I", "N", false}, {"[[I", "[LObject;", true}, {"[I", "[LObject;", false},
		{"b T | c I", "a T | b I", true}, {"b I | c I", "a T | b T", true}, {"b T | c I", "a I | b I", false}, {"b T | a I", "a T | b I", false},
	} {
		may(t, l, x.a, x.b, x.want)
	}
	may(t, nil, "b", "a", false)
	may(t, classes("b<x x<a"), "b", "a", true)
	may(t, classes("b<x b<a"), "b", "a", false)
	may(t, classes("b<c c<b"), "b", "a", false)
}

func TestMayChangesNothing(t *testing.T) {
	l, a, b := family(), frame("b J T | c N"), frame("a J T | a [I")
	shape.May(l, a, b)
	shape.Words(a)
	if !same(a, frame("b J T | c N")) || !same(b, frame("a J T | a [I")) || len(l) != len(family()) || l[4].Name != "b" || l[4].Super != "a" {
		t.Error("May changed what it was handed")
	}
}

func method(access int, kind string, locals int) api.Method {
	return api.Method{Access: access, Name: "m", Type: kind, Code: api.Code{Locals: locals}}
}

func begins(t *testing.T, m api.Method, want string) {
	t.Helper()
	c := api.Class{Name: "own", Super: "a", Methods: []api.Method{m}}
	f, e := shape.Begin(c, m)
	got := text(f.Locals)
	if e != api.OK {
		got = refused
		if e != api.ErrStack || len(f.Locals) != 0 {
			t.Errorf("Begin(%v): %v %v beside each other", m, f, e)
		}
	}
	if got != want || len(f.Stack) != 0 {
		t.Errorf("Begin(%v): %s and %v on the stack, want %s", m, got, f.Stack, want)
	}
}

// Each Access: a method is static by 8 and 40 alone.
func TestBeginAccess(t *testing.T) {
	for _, access := range append(ops("0..300"), -1, -8, -40, 8+1<<32, 40+1<<32, 8-1<<32, 1<<16+8, math.MaxInt, math.MinInt, math.MinInt+8) {
		if access == 8 || access == 40 {
			begins(t, method(access, "()V", 0), "")
			begins(t, method(access, "(IJ)V", 3), "I J T")
			begins(t, method(access, "(IJ)V", 5), "I J T T T")
			begins(t, method(access, "(IJ)V", 2), refused)
			continue
		}
		begins(t, method(access, "()V", 0), refused)
		begins(t, method(access, "()V", 1), "own")
		begins(t, method(access, "(IJ)V", 4), "own I J T")
		begins(t, method(access, "(IJ)V", 6), "own I J T T T")
		begins(t, method(access, "(IJ)V", 3), refused)
	}
}

func TestBeginTypes(t *testing.T) {
	for s, want := range map[string]string{
		"": "", "I": "I", "J": "J T", "La;": "a", "[J": "[J", "JJ": "J T J T", "JI": "J T I", "IJ": "I J T", "[IJLa;": "[I J T a",
		"[[La;LI;B": refused, "Lown;[Lown;": "own [Lown;", "IJLa;[[I": "I J T a [[I",
	} {
		for _, back := range []string{"V", "I", "J", "La;", "[[I"} {
			kind := "(" + s + ")" + back
			n := len(strings.Fields(want))
			if want == refused {
				begins(t, method(8, kind, 64), refused)
				continue
			}
			for _, access := range []int{0, 8, 32, 40} {
				own := ""
				if access == 0 || access == 32 {
					own = "own"
				}
				need := n + len(own)/3
				for locals := -2; locals <= need+3; locals++ {
					if locals < need {
						begins(t, method(access, kind, locals), refused)
						continue
					}
					begins(t, method(access, kind, locals), joined(own, want, strings.Repeat("T ", locals-need)))
				}
			}
		}
	}
}

func TestBeginNoMethod(t *testing.T) {
	for _, s := range []string{
		"", "V", "I", "()", "(I)", "(V)V", "()VV", "()B", "(B)V", "I)V", "(I", "La;", "[I", ")(V", "(La)V", "(;)V", "()L;", "((I)V", "() V", "()v",
		"(" + strings.Repeat("[", 9) + "I)V", "(L" + strings.Repeat("n", 61) + ";)V", "\xff", "(L1;)V",
	} {
		for _, access := range []int{0, 8, 32, 40} {
			for _, locals := range []int{0, 1, 5, 64, 65} {
				begins(t, method(access, s, locals), refused)
			}
		}
	}
}

// MaxStack locals, and one more; as many words of arguments as a descriptor may have, and one more.
func TestBeginBounds(t *testing.T) {
	for _, access := range []int{0, 8, 32, 40} {
		own := ""
		if access == 0 || access == 32 {
			own = "own "
		}
		tops := strings.Repeat("T ", 64-len(own)/4)
		begins(t, method(access, "()V", 64), joined(own, tops))
		for _, locals := range []int{65, 66, 1000, 1 << 32, math.MaxInt, -1, -64, math.MinInt} {
			begins(t, method(access, "()V", locals), refused)
			begins(t, method(access, "(I)V", locals), refused)
		}
		most := strings.Repeat("I", 32)
		need := 32 + len(own)/4
		begins(t, method(access, "("+most+")V", need), joined(own, strings.Repeat("I ", 32)))
		begins(t, method(access, "("+most+")V", need-1), refused)
		begins(t, method(access, "("+most+")V", 64), joined(own, strings.Repeat("I ", 32), strings.Repeat("T ", 64-need)))
		begins(t, method(access, "("+most+"I)V", 64), refused)
		begins(t, method(access, "("+strings.Repeat("J", 16)+")V", need), joined(own, strings.Repeat("J T ", 16)))
		begins(t, method(access, "("+strings.Repeat("J", 16)+")V", need-1), refused)
	}
}

// Nothing else of a class and of a method is asked.
func TestBeginAsksNothingElse(t *testing.T) {
	for _, name := range []string{"", "a", "[I", "1", "Object", strings.Repeat("n", 61)} {
		m := api.Method{Name: name, Type: "(I)V", Code: api.Code{Stack: -7, Locals: 2, Bytes: []byte{255}, Handlers: []api.Handler{{From: -1}}, Maps: []api.Map{{At: 9}}}}
		f, e := shape.Begin(api.Class{Name: name}, m)
		if e != api.OK || !same(f, api.Frame{Locals: []api.Type{ref(name), of(api.KInt)}}) {
			t.Errorf("Begin in %q: %v %v", name, f, e)
		}
	}
}

func TestBeginIsTheCallers(t *testing.T) {
	c, m := api.Class{Name: "own"}, method(0, "(JI)V", 6)
	f, _ := shape.Begin(c, m)
	was := slices.Clone(f.Locals)
	for i := range f.Locals {
		f.Locals[i] = ref("changed")
	}
	g, e := shape.Begin(c, m)
	if e != api.OK || !slices.Equal(g.Locals, was) {
		t.Errorf("Begin behind a change of its answer: %v %v", g, e)
	}
}
