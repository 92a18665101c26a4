package link_test

import (
	"reflect"
	"slices"
	"strings"
	"testing"

	"larch/api"
	"larch/kind"
	"larch/link"
	"larch/pool"
)

// Tests of 13.2: what a program tells.

// same holds two lists against each other (an empty one is as none).
func same[T comparable](t *testing.T, what string, got, want []T) {
	t.Helper()
	if !slices.Equal(got, want) {
		t.Errorf("%s: %v, want %v", what, got, want)
	}
}

// fieldsOf reads "access name type" texts, with commas between them.
func fieldsOf(s string) []api.Field {
	var l []api.Field
	for _, x := range strings.Split(s, ",") {
		if x != "" {
			l = append(l, classOf("a", x).Fields...)
		}
	}
	return l
}

// house is a list in which much is hidden: d is below b, b below a; e is below Index.
func house() []api.Class {
	return []api.Class{
		classOf("d<b", "8 main ()V", "0 f LObject;", "8 g I", "0 k I", "0 m ()V"),
		classOf("a<Object", "0 f I", "8 s J", "0 g J", "0 h [I", "8 t La;", "0 m ()V", "8 n (I)I", "0 m (J)V"),
		classOf("e<Index", "8 s I", "0 q La;", "40 n ()V"),
		classOf("b<a", "8 h [[B", "0 s LObject;", "8 u I", "32 m ()V", "0 o ()J"),
		classOf("empty<Object"),
	}
}

func TestAll(t *testing.T) {
	for _, l := range [][]api.Class{house(), plainList(1), plainList(api.MaxClasses)} {
		p := fits(t, l)
		want := plainAll(l)
		all := p.All()
		if !reflect.DeepEqual(copies(all), copies(want)) {
			t.Errorf("All of %s: %s", told(l), told(all))
		}
		for k, c := range want {
			if at := p.Place(c.Name); at != k {
				t.Errorf("Place(%s): %d, want %d", c.Name, at, k)
			}
		}
		for _, s := range []string{"", "none", "object", "SYS", "LObject;", "[LObject;", "c32", "c-1", "Object "} {
			if at := p.Place(s); at != -1 {
				t.Errorf("Place(%s): %d", s, at)
			}
		}
	}
}

func TestFieldsTold(t *testing.T) {
	p := fits(t, house())
	a := "0 f I,0 g J,0 h [I"
	for name, want := range map[string]string{
		"a": a, "b": a + ",0 s LObject;", "d": a + ",0 s LObject;,0 f LObject;,0 k I", "e": "0 q La;", "empty": "",
		"Object": "", "Throwable": "", "Index": "", "sys": "", "none": "", "": "", "[La;": "", "La;": "",
	} {
		same(t, "Fields("+name+")", p.Fields(name), fieldsOf(want))
	}
	same(t, "Statics()", p.Statics(), fieldsOf("8 g I,8 s J,8 t La;,8 s I,8 h [[B,8 u I"))
	p = fits(t, plainList(3))
	same(t, "Statics() of none", p.Statics(), nil)
	same(t, "Fields of none", p.Fields("c1"), nil)
}

func TestSlots(t *testing.T) {
	p := fits(t, house())
	type asked struct {
		class, name string
		static      bool
	}
	for x, want := range map[asked]int{
		// In the class itself.
		{"a", "f", false}: 0, {"a", "g", false}: 1, {"a", "h", false}: 2, {"a", "s", true}: 1, {"a", "t", true}: 2, {"d", "k", false}: 5, {"e", "q", false}: 0, {"e", "s", true}: 3, {"b", "u", true}: 5,
		// Above it.
		{"b", "f", false}: 0, {"b", "g", false}: 1, {"b", "t", true}: 2, {"d", "t", true}: 2, {"d", "u", true}: 5, {"d", "s", false}: 3,
		// Hidden by a nearer one.
		{"d", "f", false}: 4, {"b", "h", true}: 4, {"d", "h", true}: 4, {"b", "s", false}: 3, {"d", "g", true}: 0,
		// Asked with the other word.
		{"a", "f", true}: -1, {"a", "s", false}: -1, {"b", "h", false}: -1, {"d", "h", false}: -1, {"b", "s", true}: -1, {"d", "s", true}: -1, {"d", "g", false}: -1, {"d", "f", true}: -1, {"e", "q", true}: -1, {"e", "s", false}: -1,
		// None.
		{"a", "k", false}: -1, {"a", "u", true}: -1, {"a", "", false}: -1, {"a", "main", true}: -1, {"empty", "f", false}: -1, {"Object", "f", false}: -1, {"sys", "out", true}: -1, {"Index", "q", false}: -1,
		{"none", "f", false}: -1, {"none", "s", true}: -1, {"", "f", false}: -1, {"", "", true}: -1, {"[La;", "f", false}: -1, {"La;", "f", false}: -1,
	} {
		if got := p.Slot(x.class, x.name, x.static); got != want {
			t.Errorf("Slot(%s, %s, %v): %d, want %d", x.class, x.name, x.static, got, want)
		}
	}
}

func TestFinds(t *testing.T) {
	p := fits(t, house())
	type asked struct{ class, name, kind string }
	for x, want := range map[asked][2]int{
		{"d", "main", "()V"}: {10, 0}, {"d", "m", "()V"}: {10, 1}, {"a", "m", "()V"}: {11, 0}, {"a", "n", "(I)I"}: {11, 1}, {"a", "m", "(J)V"}: {11, 2}, {"e", "n", "()V"}: {12, 0}, {"b", "m", "()V"}: {13, 0}, {"b", "o", "()J"}: {13, 1},
		{"b", "n", "(I)I"}: {11, 1}, {"b", "m", "(J)V"}: {11, 2}, {"d", "m", "(J)V"}: {11, 2}, {"d", "n", "(I)I"}: {11, 1}, {"d", "o", "()J"}: {13, 1},
		{"a", "o", "()J"}: {-1, -1}, {"a", "n", "()V"}: {-1, -1}, {"e", "n", "(I)I"}: {-1, -1}, {"a", "m", ""}: {-1, -1}, {"a", "", "()V"}: {-1, -1}, {"a", "m", "(I)V"}: {-1, -1}, {"b", "main", "()V"}: {-1, -1},
		{"a", "m(", ")V"}: {-1, -1}, {"a", "f", "I"}: {-1, -1}, {"empty", "m", "()V"}: {-1, -1}, {"Object", "m", "()V"}: {-1, -1}, {"sys", "out", "(I)V"}: {-1, -1}, {"sys", "yield", "()V"}: {-1, -1},
		{"none", "m", "()V"}: {-1, -1}, {"", "m", "()V"}: {-1, -1}, {"", "", ""}: {-1, -1}, {"[La;", "m", "()V"}: {-1, -1}, {"La;", "m", "()V"}: {-1, -1},
	} {
		if at, k := p.Find(x.class, x.name, x.kind); at != want[0] || k != want[1] {
			t.Errorf("Find(%s, %s, %s): %d %d, want %v", x.class, x.name, x.kind, at, k, want)
		}
	}
}

func TestZeros(t *testing.T) {
	p := fits(t, append(house(), classOf("z<a", "0 i I", "0 j J", "0 o LObject;", "0 x Lz;", "0 p [I", "0 q [J", "0 r [B", "0 v [LObject;", "8 w I")))
	i, j, ref := api.Value{Kind: api.KInt}, api.Value{Kind: api.KLong}, api.Value{Kind: api.KRef}
	for name, want := range map[string][]api.Value{
		"a": {i, j, ref}, "b": {i, j, ref, ref}, "d": {i, j, ref, ref, ref, i}, "e": {ref}, "z": {i, j, ref, i, j, ref, ref, ref, ref, ref, ref},
		"empty": nil, "Object": nil, "Monitor": nil, "sys": nil, "none": nil, "": nil, "[I": nil,
	} {
		same(t, "Zeros("+name+")", p.Zeros(name), want)
	}
}

func TestMethodTold(t *testing.T) {
	l := house()
	p := fits(t, l)
	for at := -2; at < 20; at++ {
		for k := -2; k < 6; k++ {
			m, e := p.Method(at, k)
			if at >= 10 && at < 15 && k >= 0 && k < len(l[at-10].Methods) {
				if e != api.OK || !reflect.DeepEqual(m, l[at-10].Methods[k]) {
					t.Errorf("Method(%d, %d): %v %v", at, k, m, e)
				}
			} else if e != api.ErrNone || !reflect.DeepEqual(m, api.Method{}) {
				t.Errorf("Method(%d, %d): %v %v", at, k, m, e)
			}
		}
	}
	for _, n := range []int{-1 << 63, -1 << 31, 1 << 31, 1<<63 - 1} {
		if _, e := p.Method(n, 0); e != api.ErrNone {
			t.Errorf("Method(%d, 0): %v", n, e)
		}
		if _, e := p.Method(10, n); e != api.ErrNone {
			t.Errorf("Method(10, %d): %v", n, e)
		}
	}
}

func TestConst(t *testing.T) {
	c := classOf("c<Object", aMain)
	texts := []string{"int 5", "int -2147483648", "long -7", "long 9223372036854775807", "class none", "class [I", "field a f I", "method sys out (I)V", "int 5"}
	var numbers []int
	for _, s := range texts {
		numbers = append(numbers, put(&c, constant(s)))
	}
	l := []api.Class{c, classOf("d<c")}
	p := fits(t, l)
	for k, n := range numbers {
		if x, e := p.Const(10, n); x != constant(texts[k]) || e != api.OK {
			t.Errorf("Const(10, %d): %v %v, want %s", n, x, e, texts[k])
		}
	}
	seen := map[int]int{}
	for at := -2; at < 15; at++ {
		for k := -2; k < len(c.Pool)+3; k++ {
			var want api.Const
			errno := api.ErrNone
			if at >= 10 && at < 12 {
				if x, e := pool.Const(l[at-10].Pool, k); e == api.OK {
					want, errno = x, api.OK
					seen[x.Tag]++
				}
			}
			if x, e := p.Const(at, k); x != want || e != errno {
				t.Errorf("Const(%d, %d): %v %v, want %v %v", at, k, x, e, want, errno)
			}
		}
	}
	if len(seen) != 5 {
		t.Errorf("just these tags were told: %v", seen)
	}
	for _, n := range []int{-1 << 63, -1 << 31, 1 << 31, 1<<63 - 1} {
		if _, e := p.Const(n, 2); e != api.ErrNone {
			t.Errorf("Const(%d, 2): %v", n, e)
		}
		if _, e := p.Const(10, n); e != api.ErrNone {
			t.Errorf("Const(10, %d): %v", n, e)
		}
	}
}

func TestMay(t *testing.T) {
	l := house()
	p := fits(t, l)
	types := []api.Type{kindOf(api.KTop), kindOf(api.KInt), kindOf(api.KLong), kindOf(api.KNull), kindOf(7), kindOf(-1), {}, {Kind: api.KInt, Name: "a"}, ref(""), ref("none"), ref("[none"), ref("[I"), ref("[J"), ref("[B"), ref("[[I")}
	for _, c := range plainAll(l) {
		types = append(types, ref(c.Name), ref("[L"+c.Name+";"), ref("[[L"+c.Name+";"))
	}
	for _, x := range types {
		for _, y := range types {
			if got, want := p.May(x, y), kind.May(plainAll(l), x, y); got != want {
				t.Errorf("May(%v, %v): %v, want %v", x, y, got, want)
			}
		}
	}
	for s, want := range map[string]bool{
		"d a": true, "d b": true, "b a": true, "a b": false, "e Index": true, "e Throwable": true, "e Object": true, "e a": false, "Index Throwable": true, "Throwable Index": false, "sys Object": true, "a none": false, "none Object": true, "none none": true,
		"[Ld; [La;": true, "[La; [Ld;": false, "[[Le; [[LThrowable;": true, "[I Object": true, "[I [LObject;": false, "[[I [LObject;": true,
	} {
		x, y, _ := strings.Cut(s, " ")
		if got := p.May(ref(x), ref(y)); got != want {
			t.Errorf("May(%s): %v, want %v", s, got, want)
		}
	}
}

// A program that no call made has nothing.
func TestNoProgram(t *testing.T) {
	_, _, e := link.Make(nil)
	refusedOne, _, _ := link.Make(nil)
	if e != api.ErrLink || refusedOne != nil {
		t.Errorf("a program beside an error: %v", refusedOne)
	}
	for _, p := range []*link.Program{nil, {}, new(link.Program), refusedOne} {
		for _, s := range []string{"", "Object", "sys", "a", "f", "main", "()V", "out", "(I)V"} {
			at, k := p.Find(s, "main", "()V")
			if p.Place(s) != -1 || len(p.Fields(s)) != 0 || len(p.Zeros(s)) != 0 || at != -1 || k != -1 {
				t.Errorf("of no program: %d %v %v %d %d", p.Place(s), p.Fields(s), p.Zeros(s), at, k)
			}
			for _, static := range []bool{true, false} {
				if p.Slot(s, "f", static) != -1 || p.Slot("Object", s, static) != -1 {
					t.Errorf("Slot of no program: %d", p.Slot(s, "f", static))
				}
			}
		}
		if len(p.All()) != 0 || len(p.Statics()) != 0 {
			t.Errorf("of no program: %v %v", p.All(), p.Statics())
		}
		for n := -1; n < 12; n++ {
			m, e := p.Method(n, 0)
			c, f := p.Const(n, 1)
			if e != api.ErrNone || f != api.ErrNone || c != (api.Const{}) || !reflect.DeepEqual(m, api.Method{}) {
				t.Errorf("of no program: %v %v %v %v", m, e, c, f)
			}
		}
		for _, x := range []api.Type{{}, kindOf(api.KInt), kindOf(api.KLong), kindOf(api.KNull), ref("Object"), ref("a"), ref("[I")} {
			for _, y := range []api.Type{{}, kindOf(api.KInt), kindOf(api.KLong), kindOf(api.KNull), ref("Object"), ref("a"), ref("[I")} {
				if p.May(x, y) {
					t.Errorf("May(%v, %v) of no program", x, y)
				}
			}
		}
	}
}
