package shape_test

import (
	"fmt"
	"math"
	"slices"
	"strconv"
	"strings"
	"testing"

	"larch/api"
	"larch/pool"
	"larch/shape"
)

// refused is how an instruction that may not be done is told.
const refused = "refused"

// The types that tests put everywhere.
const (
	classTypes = "Object a b c other none Throwable Bad"
	innerRefs  = "[La; [Lb; [Lc; [Lother; [LObject; [[I [[J [[B [[La; [[LObject;"
	arrayTypes = "[I [J [B " + innerRefs
	allRefs    = "N " + classTypes + " " + arrayTypes
	allSingles = "I T " + allRefs
	allTypes   = "J " + allSingles
)

func of(k int) api.Type { return api.Type{Kind: k} }

func ref(name string) api.Type { return api.Type{Kind: api.KRef, Name: name} }

// typeOf reads a type: I, J, N (KNull), T (KTop), or a KRef's name.
func typeOf(s string) api.Type {
	switch s {
	case "T":
		return of(api.KTop)
	case "I":
		return of(api.KInt)
	case "J":
		return of(api.KLong)
	case "N":
		return of(api.KNull)
	}
	return ref(s)
}

// types reads types, one behind the other.
func types(s string) []api.Type {
	var l []api.Type
	for _, x := range strings.Fields(s) {
		l = append(l, typeOf(x))
	}
	return l
}

// text tells types as types reads them.
func text(l []api.Type) string {
	var s []string
	for _, x := range l {
		switch x {
		case of(api.KTop):
			s = append(s, "T")
		case of(api.KInt):
			s = append(s, "I")
		case of(api.KLong):
			s = append(s, "J")
		case of(api.KNull):
			s = append(s, "N")
		default:
			if x.Kind == api.KRef && x.Name != "" {
				s = append(s, x.Name)
			} else {
				s = append(s, strconv.Itoa(x.Kind)+":"+x.Name)
			}
		}
	}
	return strings.Join(s, " ")
}

// frame reads "locals | stack", or a stack alone.
func frame(s string) api.Frame {
	locals, stack, both := strings.Cut(s, "|")
	if !both {
		locals, stack = "", s
	}
	return api.Frame{Locals: types(locals), Stack: types(stack)}
}

// frameText tells a frame as frame reads it.
func frameText(f api.Frame) string {
	if len(f.Locals) == 0 {
		return text(f.Stack)
	}
	return text(f.Locals) + " | " + text(f.Stack)
}

// classes makes a list of "name<super" texts.
func classes(text string) []api.Class {
	var l []api.Class
	for _, s := range strings.Fields(text) {
		name, super, _ := strings.Cut(s, "<")
		l = append(l, api.Class{Name: name, Super: super})
	}
	return l
}

// family is the list that tests take, unless they have one of their own.
func family() []api.Class {
	return classes("Object Throwable<Object Bad<Throwable a<Object b<a c<b other<Object")
}

// constant reads "int 5", "long 5", "class a", "field a f I", "method a m ()V".
func constant(s string) api.Const {
	l := strings.Fields(s)
	n, _ := strconv.Atoi(l[1])
	switch l[0] {
	case "int":
		return api.Const{Tag: api.TInt, N: n}
	case "long":
		return api.Const{Tag: api.TLong, N: n}
	case "class":
		return api.Const{Tag: api.TClass, Class: l[1]}
	case "field":
		return api.Const{Tag: api.TField, Class: l[1], Name: l[2], Type: l[3]}
	}
	return api.Const{Tag: api.TMethod, Class: l[1], Name: l[2], Type: l[3]}
}

// holding answers a class whose pool has constants, and the number of the last one.
func holding(l ...string) (api.Class, int) {
	c := api.Class{Name: "a", Pool: []api.Entry{{}}}
	at := 0
	for _, s := range l {
		p, i, e := pool.Put(c.Pool, constant(s))
		if e != api.OK {
			panic(s)
		}
		c.Pool, at = p, i
	}
	return c, at
}

// asked is a step that is asked for.
type asked struct {
	list  []api.Class
	class api.Class
	back  api.Type
	instr api.Instr
	most  int
}

// ask asks for an instruction, in a method that answers nothing.
func ask(op, a int) asked {
	return asked{list: family(), instr: api.Instr{Op: op, A: a}, most: 1000}
}

// askOf asks for an instruction of a constant; of an empty text: of none.
func askOf(op int, of string) asked {
	k := ask(op, 0)
	if of != "" {
		k.class, k.instr.A = holding("int 99", of)
	}
	return k
}

// do answers the frame that comes of f, or refused.
func (k asked) do(t *testing.T, f api.Frame) string {
	t.Helper()
	g, e := shape.Step(k.list, k.class, k.back, k.instr, f, k.most)
	if e == api.OK {
		return frameText(g)
	}
	if e != api.ErrStack || len(g.Locals) != 0 || len(g.Stack) != 0 {
		t.Errorf("%v of %s: %v %v beside each other", k.instr, frameText(f), e, g)
	}
	return refused
}

// gives asks for what comes of a frame.
func (k asked) gives(t *testing.T, f, want string) {
	t.Helper()
	if got := k.do(t, frame(f)); got != want {
		t.Errorf("%v (method answers %v, most %d) of %q: %q, want %q", k.instr, k.back, k.most, f, got, want)
	}
}

// ops reads numbers, and "from..to".
func ops(s string) []int {
	var l []int
	for _, x := range strings.Fields(s) {
		first, last, ok := strings.Cut(x, "..")
		if !ok {
			last = first
		}
		from, _ := strconv.Atoi(first)
		to, _ := strconv.Atoi(last)
		for op := from; op <= to; op++ {
			l = append(l, op)
		}
	}
	return l
}

func TestExample(t *testing.T) {
	for _, x := range []struct {
		op         int
		from, want string
	}{{133, "I | I", "I | J"}, {96, "I | I I", "I | I"}, {96, "I | I J", refused}, {133, "I", "J"}, {96, "I I", "I"}} {
		ask(x.op, 0).gives(t, x.from, x.want)
		k := ask(x.op, 0)
		k.list, k.most = nil, 2
		k.gives(t, x.from, x.want)
	}
}

// row is a row of the chapter's table: what the stack must have (each place a word of fitting), and what comes of that.
type row struct{ ops, of, back, in, out string }

func rows() []row {
	return []row{
		{ops: "0 167"},
		{ops: "1", out: "N"}, {ops: "2..8 16 17", out: "I"}, {ops: "9 10", out: "J"},
		{ops: "18 19", of: "int 5", out: "I"}, {ops: "20", of: "long 5", out: "J"},
		{ops: "46", in: "ints I", out: "I"}, {ops: "47", in: "longs I", out: "J"}, {ops: "51", in: "bytes I", out: "I"},
		{ops: "79", in: "ints I I"}, {ops: "80", in: "longs I J"}, {ops: "84", in: "bytes I I"}, {ops: "83", in: "refs I ref"},
		{ops: "87", in: "single"}, {ops: "88", in: "J"}, {ops: "88", in: "single single"},
		{ops: "92", in: "J", out: "J J"},
		{ops: "96 100 104 108 112 120 122 124 126 128 130", in: "I I", out: "I"},
		{ops: "97 101 105 109 113 127 129 131", in: "J J", out: "J"},
		{ops: "121 123 125", in: "J I", out: "J"},
		{ops: "116 145 146 147", in: "I", out: "I"}, {ops: "117", in: "J", out: "J"}, {ops: "133", in: "I", out: "J"},
		{ops: "136", in: "J", out: "I"}, {ops: "148", in: "J J", out: "I"},
		{ops: "153 154 155 156 157 158 170 171", in: "I"}, {ops: "159 160 161 162 163 164", in: "I I"},
		{ops: "165 166", in: "ref ref"}, {ops: "198 199 194 195", in: "ref"},
		{ops: "172", back: "I", in: "I"}, {ops: "173", back: "J", in: "J"}, {ops: "177", back: "T"},
		{ops: "176", back: "a", in: "a"}, {ops: "176", back: "Object", in: "Object"}, {ops: "176", back: "[La;", in: "[La;"},
		{ops: "176", back: "[I", in: "ints"},
		{ops: "178", of: "field a f I", out: "I"}, {ops: "178", of: "field a f J", out: "J"},
		{ops: "178", of: "field a f Lb;", out: "b"}, {ops: "178", of: "field a f [[B", out: "[[B"},
		{ops: "179", of: "field a f I", in: "I"}, {ops: "179", of: "field a f J", in: "J"},
		{ops: "179", of: "field other f La;", in: "a"}, {ops: "179", of: "field other f [La;", in: "[La;"},
		{ops: "180", of: "field a f I", in: "a", out: "I"}, {ops: "180", of: "field a f J", in: "a", out: "J"},
		{ops: "180", of: "field Object f La;", in: "Object", out: "a"}, {ops: "180", of: "field [La; f [J", in: "[La;", out: "[J"},
		{ops: "181", of: "field a f I", in: "a I"}, {ops: "181", of: "field a f J", in: "a J"},
		{ops: "181", of: "field a f [La;", in: "a [La;"}, {ops: "181", of: "field [I f La;", in: "ints a"},
		{ops: "182 183", of: "method a m ()V", in: "a"}, {ops: "182 183", of: "method [B m ()I", in: "bytes", out: "I"},
		{ops: "182 183", of: "method a m (IJ)J", in: "a I J", out: "J"},
		{ops: "182 183", of: "method Object m ([ILa;J)La;", in: "Object ints a J", out: "a"},
		{ops: "184", of: "method a m ()V"}, {ops: "184", of: "method a m ()[[I", out: "[[I"},
		{ops: "184", of: "method a m (JI)V", in: "J I"}, {ops: "184", of: "method other m (La;[La;I)I", in: "a [La; I", out: "I"},
		{ops: "187", of: "class b", out: "b"},
		{ops: "189", of: "class b", in: "I", out: "[Lb;"}, {ops: "189", of: "class [B", in: "I", out: "[[B"},
		{ops: "190", in: "array", out: "I"},
		{ops: "191", in: "Throwable"},
		{ops: "192", of: "class b", in: "ref", out: "b"}, {ops: "192", of: "class [J", in: "ref", out: "[J"},
		{ops: "193", of: "class b", in: "ref", out: "I"}, {ops: "193", of: "class [J", in: "ref", out: "I"},
	}
}

// fitting are the types that may be in a place, with the family.
func fitting(place string) []string {
	all := map[string]string{
		"I": "I", "J": "J", "single": allSingles, "ref": allRefs, "Object": allRefs, "refs": "N " + innerRefs, "array": "N " + arrayTypes,
		"ints": "N [I", "longs": "N [J", "bytes": "N [B", "a": "N a b c", "[La;": "N [La; [Lb; [Lc;", "Throwable": "N Throwable Bad",
	}
	return strings.Fields(all[place])
}

// asks answers a row's steps.
func (r row) asks() []asked {
	var l []asked
	for _, op := range ops(r.ops) {
		k := askOf(op, r.of)
		if r.back != "" {
			k.back = typeOf(r.back)
		}
		l = append(l, k)
	}
	return l
}

// right answers a stack that lets a row come to pass: of each place the last type that may be there.
func (r row) right() []string {
	var l []string
	for _, place := range strings.Fields(r.in) {
		fit := fitting(place)
		l = append(l, fit[len(fit)-1])
	}
	return l
}

// joined tells types that lie on one another.
func joined(parts ...string) string {
	return strings.Join(strings.Fields(strings.Join(parts, " ")), " ")
}

// 11.1: each row with a right stack, with types below that stay, and with stacks that are too short.
func TestRows(t *testing.T) {
	below := append(strings.Fields(allTypes), "J J", "T T T", "a J I N", "I I I I I I")
	for _, r := range rows() {
		for _, k := range r.asks() {
			in := r.right()
			k.gives(t, strings.Join(in, " "), r.out)
			for _, b := range below {
				k.gives(t, joined(b, strings.Join(in, " ")), joined(b, r.out))
				k.gives(t, "J T [I I | "+joined(b, strings.Join(in, " ")), "J T [I I | "+joined(b, r.out))
			}
			for n := range in {
				k.gives(t, strings.Join(in[len(in)-n:], " "), refused)
				k.gives(t, "I J T a | "+strings.Join(in[len(in)-n:], " "), refused)
			}
		}
	}
}

// alsoTaken holds if another row of the same Op takes what this one does not.
func alsoTaken(op int, stack []string) bool {
	return op == 88 && (stack[len(stack)-1] == "J" || len(stack) > 1 && !slices.Contains(stack, "J"))
}

// 11.1: each type in each place of each row.
func TestEachTypeInEachPlace(t *testing.T) {
	for _, r := range rows() {
		for _, k := range r.asks() {
			for at, place := range strings.Fields(r.in) {
				for _, x := range strings.Fields(allTypes) {
					in := r.right()
					in[at] = x
					want := r.out
					if !slices.Contains(fitting(place), x) {
						if alsoTaken(k.instr.Op, in) {
							continue
						}
						want = refused
					}
					k.gives(t, strings.Join(in, " "), want)
					if want != refused {
						k.gives(t, "other I "+strings.Join(in, " "), joined("other I", want))
					}
				}
			}
		}
	}
}

// known are the Ops that there are, as chapter 9 tells them.
const known = "0..10 26..33 42..47 50 51 59..66 75..80 83 84 87..90 92 95 96 97 100 101 104 105 108 109 112 113 116 117 120..131 133 136 145..148 172 173 176 177 190 191 194 195 " +
	"16 17 18 21 22 25 54 55 58 188 19 20 178..184 187 189 192 193 132 153..167 198 199 170 171"

// 11.1: each Op that there is can be done to some frame.
func TestEachOpThereIs(t *testing.T) {
	var have []int
	for _, r := range rows() {
		have = append(have, ops(r.ops)...)
	}
	have = append(have, ops("21 22 25..33 42..45 50 54 55 58..66 75..78 89 90 95 132 188")...) // that have tests of their own
	for _, op := range ops(known) {
		if !slices.Contains(have, op) {
			t.Errorf("no test does %d", op)
		}
	}
}

// 11.1: Ops that there are not.
func TestOpsThereAreNot(t *testing.T) {
	there := ops(known)
	var l []int
	for op := -300; op <= 600; op++ {
		if !slices.Contains(there, op) {
			l = append(l, op)
		}
	}
	for _, op := range there {
		l = append(l, op+1<<32, op-1<<32, op+256, op-256, op+1<<16, math.MinInt+op, math.MaxInt-op)
	}
	for _, op := range l {
		for _, r := range rows() { // which it would do, if it were one of theirs
			k := r.asks()[0]
			k.instr.Op = op
			k.gives(t, strings.Join(r.right(), " "), refused)
		}
		for a := range 12 {
			for _, x := range []string{"", "I", "J", "a", "[La; I", "a b"} {
				ask(op, a).gives(t, "I J T a | "+x, refused)
			}
		}
	}
}

// 11.1: the forms beside the plain ones.
func TestShortForms(t *testing.T) {
	plain := map[int][2]int{
		2: {17, -1}, 3: {17, 0}, 4: {17, 1}, 5: {17, 2}, 6: {17, 3}, 7: {17, 4}, 8: {17, 5}, 16: {17, 7}, 10: {9, 1},
		26: {21, 0}, 27: {21, 1}, 28: {21, 2}, 29: {21, 3}, 30: {22, 0}, 31: {22, 1}, 32: {22, 2}, 33: {22, 3},
		42: {25, 0}, 43: {25, 1}, 44: {25, 2}, 45: {25, 3}, 59: {54, 0}, 60: {54, 1}, 61: {54, 2}, 62: {54, 3},
		63: {55, 0}, 64: {55, 1}, 65: {55, 2}, 66: {55, 3}, 75: {58, 0}, 76: {58, 1}, 77: {58, 2}, 78: {58, 3},
	}
	locals := []string{"", "I", "J T", "a", "I I I", "I I I I", "J T J T", "N a b [I", "I J T I", "a J T [I b", "T T T T T", "N I J T J T"}
	for op, p := range plain {
		for _, l := range locals {
			for _, x := range strings.Fields("I J N T a [I") {
				f := frame(l + " | T " + x)
				for _, most := range []int{0, 1, 2, 3, 9} {
					short, long := ask(op, 7), ask(p[0], p[1])
					short.most, long.most = most, most
					if got, want := short.do(t, f), long.do(t, f); got != want {
						t.Errorf("%d of %s, most %d: %s, but %d: %s", op, frameText(f), most, got, p[0], want)
					}
				}
			}
		}
	}
	for _, of := range []string{"int 5", "long 5", "class a", "field a f I", "method a m ()V"} {
		if got, want := askOf(19, of).do(t, frame("J")), askOf(18, of).do(t, frame("J")); got != want {
			t.Errorf("19 of %s: %s, but 18: %s", of, got, want)
		}
	}
	ask(27, 9).gives(t, "J I | ", "J I | I") // A is told by the Op
	ask(61, 9).gives(t, "a a a | I", "a a I | ")
	ask(66, -1).gives(t, "T T T T T | J", "T T T J T | ")
}

// 11.1: nothing but Op and A is asked of an instruction.
func TestOtherOperands(t *testing.T) {
	for _, b := range []int{0, -1, 5, math.MinInt, math.MaxInt} {
		for _, c := range [][]api.Case{nil, {}, {{Key: 1, To: 2}}, {{Key: 1, To: -7}, {Key: 1, To: 9}}} {
			for _, at := range []int{0, -1, 4095, math.MaxInt} {
				k := ask(132, 1)
				k.instr = api.Instr{At: at, Op: 132, A: 1, B: b, Cases: c}
				k.gives(t, "J I | ", "J I | ")
				k.instr = api.Instr{At: at, Op: 170, A: at, B: b, Cases: c}
				k.gives(t, "a I", "a")
				k.instr = api.Instr{At: at, Op: 96, A: at, B: b, Cases: c}
				k.gives(t, "I I", "I")
			}
		}
	}
}

// 11.1: how wide the stack may be.
func TestMost(t *testing.T) {
	for _, x := range []struct {
		op         int
		from, want string
		words      int // behind it
	}{
		{0, "", "", 0}, {0, "I", "I", 1}, {0, "J I", "J I", 3}, {0, "J J", "J J", 4}, {0, "T N", "T N", 2},
		{1, "", "N", 1}, {1, "J J", "J J N", 5}, {9, "", "J", 2}, {9, "a", "a J", 3}, {17, "I J", "I J I", 4},
		{87, "J J I", "J J", 4}, {87, "I", "", 0}, {88, "J J J", "J J", 4}, {92, "J", "J J", 4}, {92, "I I", "I I I I", 4}, {90, "I I", "I I I", 3},
		{96, "I I", "I", 1}, {148, "J J", "I", 1}, {133, "I", "J", 2}, {133, "J I", "J J", 4}, {136, "J", "I", 1}, {97, "J J J", "J J", 4},
		{177, "", "", 0}, {177, "I J", "I J", 3}, {80, "I [J I J", "I", 1}, {47, "[J I", "J", 2}, {95, "I N", "N I", 2},
	} {
		for most := -3; most <= 9; most++ {
			k := ask(x.op, 0)
			k.most = most
			want := x.want
			if x.words > most {
				want = refused
			}
			k.gives(t, x.from, want)
		}
		for _, most := range []int{math.MinInt, math.MinInt + 1, -1 << 32, math.MaxInt, 1 << 32} {
			k := ask(x.op, 0)
			k.most = most
			want := x.want
			if most < 0 {
				want = refused
			}
			k.gives(t, x.from, want)
		}
	}
}

// 11.1: how wide the stack is in between, or was, is not asked; and that a call's answer counts.
func TestMostOfCalls(t *testing.T) {
	for _, x := range []struct {
		op             int
		of, from, want string
		words          int
	}{
		{184, "method a m (JJJ)V", "J J J", "", 0}, {184, "method a m (JJJ)I", "J J J", "I", 1}, {184, "method a m ()J", "I", "I J", 3},
		{182, "method a m (JI)J", "N a J I", "N J", 3}, {183, "method a m ()La;", "a", "a", 1}, {178, "field a f J", "J", "J J", 4},
		{181, "field a f J", "a J", "", 0}, {180, "field a f J", "a", "J", 2}, {20, "long 1", "", "J", 2}, {189, "class a", "I", "[La;", 1},
	} {
		for most := -1; most <= 8; most++ {
			k := askOf(x.op, x.of)
			k.most = most
			want := x.want
			if x.words > most {
				want = refused
			}
			k.gives(t, x.from, want)
		}
	}
}

func TestWords(t *testing.T) {
	for s, want := range map[string]int{
		"": 0, "I": 1, "J": 2, "N": 1, "T": 1, "a": 1, "[J": 1, "J J": 4, "I J": 3, "J I N T a [I J": 9,
		"J T | ": 0, "J T J T | I": 1, "I | J": 2,
	} {
		if got := shape.Words(frame(s)); got != want {
			t.Errorf("Words(%q): %d, want %d", s, got, want)
		}
	}
	long := api.Frame{Stack: slices.Repeat(types("J I"), 50000)}
	if got := shape.Words(long); got != 150000 {
		t.Errorf("Words of a long stack: %d", got)
	}
	for _, k := range []int{-1, 5, 7, math.MaxInt, math.MinInt, 2 + 1<<32} {
		if got := shape.Words(api.Frame{Stack: []api.Type{of(k)}}); got != 1 {
			t.Errorf("Words of kind %d: %d", k, got)
		}
	}
}

// P1: whatever the types, no call panics.
func TestStrangeTypes(t *testing.T) {
	var l []api.Type
	for _, k := range []int{-1, 0, 1, 2, 3, 4, 5, math.MinInt, math.MaxInt} {
		for _, s := range []string{"", "[", "[[", "[V", "L", "a", "[La", "[La;I", strings.Repeat("[", 9) + "I", "1", "Object", "[I", "\xff\x00"} {
			l = append(l, api.Type{Kind: k, Name: s})
		}
	}
	c, n := holding("int 1", "long 1", "class 1", "class [", "field [V f I", "field - f V", "method L m (I)V", "method - m ((", "class a")
	for op := -2; op < 260; op++ {
		for k, x := range l {
			f := api.Frame{Locals: []api.Type{x, l[(k*7)%len(l)]}, Stack: []api.Type{l[(k*5)%len(l)], l[(k*11)%len(l)], x}}
			i := api.Instr{Op: op, A: k % (n + 2)}
			g, e := shape.Step(family(), c, l[(k*3)%len(l)], i, f, 8)
			if e != api.OK && (e != api.ErrStack || len(g.Locals)+len(g.Stack) != 0) || e == api.OK && len(g.Locals) != 2 {
				t.Errorf("%v of %v: %v %v", i, f, g, e)
			}
		}
	}
}

// same holds if two frames are.
func same(f, g api.Frame) bool {
	return slices.Equal(f.Locals, g.Locals) && slices.Equal(f.Stack, g.Stack)
}

// P2, and what is handed out: the caller's own.
func TestNothingShared(t *testing.T) {
	for _, r := range rows() {
		for _, k := range r.asks() {
			checkShared(t, k, r.right())
		}
	}
	for _, s := range []string{"I I I", "I J I", "a J J", "I I a"} {
		for _, op := range ops("21 22 25 54 55 58 89 90 92 95 132 50") {
			checkShared(t, ask(op, 1), strings.Fields(s))
			checkShared(t, ask(op, 3), strings.Fields(s))
		}
	}
}

// checkShared does a step to a frame whose lists lie in one piece of memory, with more behind them.
func checkShared(t *testing.T, k asked, stack []string) {
	t.Helper()
	whole := types("I J T a N " + strings.Join(stack, " ") + " other other other other")
	was := slices.Clone(whole)
	f := api.Frame{Locals: whole[:5], Stack: whole[5 : 5+len(stack)]}
	k.instr.Cases = []api.Case{{Key: 1, To: 2}}
	all := fmt.Sprint(k)
	g, e := shape.Step(k.list, k.class, k.back, k.instr, f, k.most)
	if !slices.Equal(whole, was) || fmt.Sprint(k) != all {
		t.Errorf("%v changed what it was handed: %v", k.instr, whole)
	}
	told := frameText(g)
	for i := range whole {
		whole[i] = ref("changed")
	}
	if frameText(g) != told {
		t.Errorf("what came of %v hangs on what was handed in", k.instr)
	}
	copy(whole, was)
	stackWas, localsWas := slices.Clone(g.Stack), slices.Clone(g.Locals)
	g.Locals = append(g.Locals, ref("more"))
	for i := range g.Locals {
		g.Locals[i] = ref("changed")
	}
	if !slices.Equal(g.Stack, stackWas) {
		t.Errorf("the lists that %v answers share memory", k.instr)
	}
	g.Stack = append(g.Stack, ref("more"))
	for i := range g.Stack {
		g.Stack[i] = ref("changed")
	}
	if !slices.Equal(whole, was) {
		t.Errorf("what %v answers shares memory with what it was handed", k.instr)
	}
	again, f2 := shape.Step(k.list, k.class, k.back, k.instr, f, k.most)
	if f2 != e || !same(again, api.Frame{Locals: localsWas, Stack: stackWas}) {
		t.Errorf("%v a second time: %v %v", k.instr, again, f2)
	}
}

// 11.1: long frames.
func TestLongFrames(t *testing.T) {
	f := api.Frame{Locals: slices.Repeat(types("I"), 100000), Stack: slices.Repeat(types("I"), 100000)}
	g, e := shape.Step(nil, api.Class{}, api.Type{}, api.Instr{Op: 54, A: 99999}, f, 99999)
	if e != api.OK || len(g.Locals) != 100000 || len(g.Stack) != 99999 {
		t.Errorf("54: %v %d %d", e, len(g.Locals), len(g.Stack))
	}
	if _, e = shape.Step(nil, api.Class{}, api.Type{}, api.Instr{Op: 54, A: 99999}, f, 99998); e != api.ErrStack {
		t.Errorf("54 with a word too many: %v", e)
	}
	if !shape.May(family(), f, f) {
		t.Error("a long frame may not stand for itself")
	}
}

func ExampleStep() {
	f, e := shape.Step(nil, api.Class{}, api.Type{}, api.Instr{Op: 133}, api.Frame{Stack: []api.Type{{Kind: api.KInt}}}, 2)
	fmt.Println(f.Stack[0].Kind == api.KLong, e == api.OK)
	// Output: true true
}
