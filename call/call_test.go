package call_test

import (
	"slices"
	"strconv"
	"strings"
	"testing"

	"larch/api"
	"larch/kind"
	"larch/link"
)

// Tests of 17.1: Begin and Now.

// begins asks Begin for a method of b.
func begins(t *testing.T, x made, k int, args, locals string) {
	t.Helper()
	c, e := begin(t, x.Program, inB, k, valuesOf(args)...)
	isCall(t, args, c, e, api.Call{Class: inB, Method: k, Locals: valuesOf(locals)}, api.OK)
}

// The chapter's example.
func TestExample(t *testing.T) {
	for n, locals := range map[int]string{3: "", 4: " t0", 5: " t0 t0", 64: strings.Repeat(" t0", 61)} {
		x := programOf(t, static("(JI)V", 0, n, "return"))
		begins(t, x, 0, "l5 i6", "l5 t0 i6"+locals)
	}
}

// What is begun has no stack, no Lock, and stands at 0, also where the method is synchronized.
func TestBeginOfEachAccess(t *testing.T) {
	x := programOf(t,
		written{0, "a", "(I)V", 0, 3, "return"}, written{api.AStatic, "b", "(I)V", 0, 3, "return"},
		written{api.ASync, "c", "(I)V", 0, 3, "return"}, written{api.AStatic | api.ASync, "d", "(I)V", 0, 3, "return"},
		written{0, "e", "()V", 0, 1, "return"}, written{api.AStatic, "f", "()V", 0, 0, "return"},
	)
	begins(t, x, 0, "7 i1", "7 i1 t0")
	begins(t, x, 1, "i1", "i1 t0 t0")
	begins(t, x, 2, "7 i1", "7 i1 t0")
	begins(t, x, 3, "i1", "i1 t0 t0")
	begins(t, x, 4, "-3", "-3")
	begins(t, x, 5, "", "")
	for k, args := range []string{"i1", "7 i1", "i1", "7 i1", "", "7"} { // with one too few, one too many
		c, e := begin(t, x.Program, inB, k, valuesOf(args)...)
		isCall(t, args, c, e, api.Call{}, api.ErrStack)
	}
	c, e := begin(t, x.Program, 10, 0) // the main of the first class
	isCall(t, "main", c, e, api.Call{Class: 10}, api.OK)
}

// descriptors are those of methods with up to three arguments of all kinds, in every order.
func descriptors() []string {
	l := []string{""}
	for from := 0; len(l) < 85; from++ {
		for _, s := range []string{"I", "J", "La;", "[I"} {
			l = append(l, l[from]+s)
		}
	}
	for k, s := range l {
		l[k] = "(" + s + ")V"
	}
	return l
}

// right answers arguments that a method takes, no two alike; number 9 is as good as 0, as Begin knows no heap.
func right(m api.Method) []api.Value {
	var l []api.Value
	for k, kind := range plainTakes(m) {
		l = append(l, api.Value{Kind: kind, N: 9 + k})
	}
	return l
}

// widths answers how many locals a method's arguments take.
func widths(access int, desc string) int {
	l, _, _ := kind.Method(desc)
	n := kind.Wide(l...)
	if access == 0 || access == api.ASync {
		n++
	}
	return n
}

// Arguments of all kinds in every order, and each of them of each other kind.
func TestBeginOfAllOrders(t *testing.T) {
	for _, access := range []int{0, api.AStatic, api.ASync, api.AStatic | api.ASync} {
		var l []written
		for k, desc := range descriptors() {
			l = append(l, written{access, "m", desc, 0, widths(access, desc) + k%3, "return"})
		}
		x := programOf(t, l...)
		for k, m := range x.methods {
			args := right(m)
			if _, e := begin(t, x.Program, inB, k, args...); e != api.OK {
				t.Fatalf("%s: %v", m.Type, e)
			}
			refusesArgs(t, x, k, args)
		}
	}
}

// refusesArgs asks that Begin refuses arguments that are too few, too many, of other kinds, or in another order.
func refusesArgs(t *testing.T, x made, k int, args []api.Value) {
	t.Helper()
	refuse := func(l []api.Value) {
		t.Helper()
		c, e := begin(t, x.Program, inB, k, l...)
		isCall(t, "wrong arguments", c, e, api.Call{}, api.ErrStack)
	}
	for n := range args {
		refuse(args[:n])
		refuse(args[n+1:])
		for kind := -1; kind <= 5; kind++ {
			l := slices.Clone(args)
			l[n].Kind = kind
			if kind != args[n].Kind {
				refuse(l)
			}
		}
		if l := slices.Clone(args); n > 0 && l[n].Kind != l[n-1].Kind {
			l[n], l[n-1] = l[n-1], l[n]
			refuse(l)
		}
	}
	for kind := -1; kind <= 5; kind++ {
		refuse(append(slices.Clone(args), api.Value{Kind: kind}))
		refuse(append([]api.Value{{Kind: kind}}, args...))
	}
	if len(args) > 0 {
		refuse(slices.Concat(args, args))
	}
}

// An argument's number counts for nothing: its kind alone is asked.
func TestBeginWithAnyNumbers(t *testing.T) {
	x := programOf(t, owned("(IJLa;[I)V", 0, 7, "return"))
	for _, n := range []int{0, 1, -1, leastInt, mostInt, leastInt - 1, mostInt + 1, leastLong, mostLong} {
		s := strconv.Itoa(n)
		begins(t, x, 0, strings.Join([]string{s, "i" + s, "l" + s, s, s}, " "), strings.Join([]string{s, "i" + s, "l" + s, "t0", s, s, "t0"}, " "))
	}
}

// As many arguments as there may be, and as many locals.
func TestBeginOfMany(t *testing.T) {
	x := programOf(t,
		static("("+strings.Repeat("J", 16)+")V", 0, 32, "return"),
		written{0, "n", "(" + strings.Repeat("J", 16) + ")V", 0, 33, "return"},
		static("("+strings.Repeat("I", 32)+")V", 0, 32, "return"),
		owned("("+strings.Repeat("[J", 32)+")V", 0, 64, "return"),
		static("("+strings.Repeat("IJ", 10)+"II)I", 1, 64, "iconst_0, ireturn"),
	)
	longs, own := strings.Repeat("l7 ", 16), strings.Repeat("l7 t0 ", 16)
	begins(t, x, 0, longs, own)
	begins(t, x, 1, "5 "+longs, "5 "+own)
	begins(t, x, 2, strings.Repeat("i7 ", 32), strings.Repeat("i7 ", 32))
	begins(t, x, 3, strings.Repeat("7 ", 33), strings.Repeat("7 ", 33)+strings.Repeat("t0 ", 31))
	begins(t, x, 4, strings.Repeat("i1 l2 ", 10)+"i1 i2", strings.Repeat("i1 l2 t0 ", 10)+"i1 i2"+strings.Repeat(" t0", 32))
	for k, m := range x.methods {
		refusesArgs(t, x, k, right(m))
	}
}

// nowIs asks Now where a label of b's method k is.
func nowIs(t *testing.T, x made, k int, label string, op, a, b int, next string, cases ...api.Case) {
	t.Helper()
	c := x.at(k, label, "")
	i, n, e := now(t, x.Program, c)
	if want := (api.Instr{At: c.At, Op: op, A: a, B: b, Cases: cases}); !sameInstr(i, want) || n != x.labels[k][next] || e != api.OK {
		t.Errorf("Now at %s: %v %d %v, want %v %d", label, i, n, e, want, x.labels[k][next])
	}
}

// nowEverywhere asks Now at all places of a method, and beside them.
func nowEverywhere(t *testing.T, x made, k int) {
	t.Helper()
	begins := map[int]bool{}
	for at := -3; at <= len(x.methods[k].Code.Bytes)+3; at++ {
		i, next, e := now(t, x.Program, api.Call{Class: inB, Method: k, At: at})
		switch {
		case e == api.OK:
			begins[at], begins[next] = true, true
		case e != api.ErrCode || begins[at] && at < x.labels[k]["end"]:
			t.Errorf("Now at %d: %v %d %v", at, i, next, e)
		}
	}
	if !begins[0] || !begins[x.labels[k]["end"]] {
		t.Errorf("the instructions begin at %v", begins)
	}
	for _, at := range []int{leastLong, leastInt, mostInt, mostLong, -1, x.labels[k]["end"], 1 << 32} {
		i, next, e := now(t, x.Program, api.Call{Class: inB, Method: k, At: at})
		if e != api.ErrCode || next != 0 || !sameInstr(i, api.Instr{}) {
			t.Errorf("Now at %d: %v %d %v", at, i, next, e)
		}
	}
}

// Short forms and wide ones are told plain, with where the next one begins.
func TestNowTellsPlain(t *testing.T) {
	x := programOf(t, static("()V", 4, 8, `a: iconst_m1, b: pop, iconst_0, pop, iconst_1, pop, iconst_2, pop, iconst_3, pop, iconst_4, pop, c: iconst_5, cc: pop, d: lconst_0, dd: pop2,
		e: lconst_1, ee: pop2, f: bipush -128, g: pop, h: sipush 300, hh: pop, i: ldc {int 7}, ii: pop, j: ldc_w {int 7}, k: pop, l: ldc2_w {long 7}, m: pop2, iconst_0, n: istore 7, o: iload 7,
		p: istore_0, q: iload_0, istore_1, iload_1, istore_2, iload_2, r: istore_3, s: iload_3, pop, lconst_0, u: lstore_0, v: lload_0, lstore_1, lload_1, lstore_2, lload_2, w: lstore_3, ww: lload_3,
		lstore 5, lload 5, pop2, aconst_null, y: astore_0, z: aload_0, astore_1, aload_1, astore_2, aload_2, aa: astore_3, ab: aload_3, abb: astore 6, aload 6, pop, iconst_0, istore 7, ac: iinc 7 -9, ad: return`))
	i := func(s string) int { return put(&api.Class{Pool: slices.Clone(x.All()[inB].Pool)}, s) }
	nowIs(t, x, 0, "a", 17, -1, 0, "b")
	nowIs(t, x, 0, "c", 17, 5, 0, "cc")
	nowIs(t, x, 0, "d", 9, 0, 0, "dd")
	nowIs(t, x, 0, "e", 9, 1, 0, "ee")
	nowIs(t, x, 0, "f", 17, -128, 0, "g")
	nowIs(t, x, 0, "h", 17, 300, 0, "hh")
	nowIs(t, x, 0, "i", 18, i("int 7"), 0, "ii")
	nowIs(t, x, 0, "j", 18, i("int 7"), 0, "k")
	nowIs(t, x, 0, "l", 20, i("long 7"), 0, "m")
	nowIs(t, x, 0, "n", 54, 7, 0, "o")
	nowIs(t, x, 0, "o", 21, 7, 0, "p")
	nowIs(t, x, 0, "p", 54, 0, 0, "q")
	nowIs(t, x, 0, "r", 54, 3, 0, "s")
	nowIs(t, x, 0, "u", 55, 0, 0, "v")
	nowIs(t, x, 0, "w", 55, 3, 0, "ww")
	nowIs(t, x, 0, "y", 58, 0, 0, "z")
	nowIs(t, x, 0, "aa", 58, 3, 0, "ab")
	nowIs(t, x, 0, "ab", 25, 3, 0, "abb")
	nowIs(t, x, 0, "ac", 132, 7, -9, "ad")
	nowIs(t, x, 0, "ad", 177, 0, 0, "end")
	nowEverywhere(t, x, 0)
}

// branching is a method with branches, tables and searches.
const branching = `a: iconst_0, b: ifeq @d, c: nop, d: = |, iconst_0, e: tableswitch @g -1 @d @g @i, g: = |, iconst_0, h: lookupswitch @i -5:@d 7:@g 9:@i,
	i: = |, j: goto @k, k: = |, aconst_null, l: ifnull @a0, a0: = |, m: return`

func TestNowOfBranches(t *testing.T) {
	x := programOf(t, static("()V", 1, 0, branching), static("(I)V", 1, 1, "nop, "+strings.ReplaceAll(branching, "= |", "= I |")))
	for k := range 2 {
		at := func(s string) int { return x.labels[k][s] }
		nowIs(t, x, k, "b", 153, at("d"), 0, "c")
		nowIs(t, x, k, "e", 170, at("g"), -1, "g", api.Case{Key: -1, To: at("d")}, api.Case{To: at("g")}, api.Case{Key: 1, To: at("i")})
		nowIs(t, x, k, "h", 171, at("i"), 0, "i", api.Case{Key: -5, To: at("d")}, api.Case{Key: 7, To: at("g")}, api.Case{Key: 9, To: at("i")})
		nowIs(t, x, k, "j", 167, at("k"), 0, "k")
		nowIs(t, x, k, "l", 198, at("a0"), 0, "m")
		nowEverywhere(t, x, k)
	}
}

// The last instruction: the next one would begin where the bytes end.
func TestNowAtTheLast(t *testing.T) {
	x := programOf(t,
		static("()V", 0, 0, "last: return"), static("(I)V", 0, 1, "nop, last: = I |, goto @last"),
		static("(J)V", 1, 2, "nop, back: = J T |, iconst_0, last: tableswitch @back 5 @back"),
	)
	nowIs(t, x, 0, "last", 177, 0, 0, "end")
	nowIs(t, x, 1, "last", 167, x.labels[1]["last"], 0, "end")
	nowIs(t, x, 2, "last", 170, x.labels[2]["back"], 5, "end", api.Case{Key: 5, To: x.labels[2]["back"]})
	nowEverywhere(t, x, 0)
	nowEverywhere(t, x, 1)
	nowEverywhere(t, x, 2)
}

// A code as long as there may be.
func TestNowInALongCode(t *testing.T) {
	x := programOf(t, static("()V", 0, 0, strings.Repeat("nop, ", 4095)+"last: return"))
	nowIs(t, x, 0, "last", 177, 0, 0, "end")
	is(t, "end", x.labels[0]["end"], 4096)
	for _, at := range []int{0, 1, 2047, 2048, 4094} {
		i, next, e := now(t, x.Program, api.Call{Class: inB, At: at})
		if i.At != at || i.Op != 0 || next != at+1 || e != api.OK {
			t.Errorf("Now at %d: %v %d %v", at, i, next, e)
		}
	}
	for _, at := range []int{4096, 4097, 65536, -1} {
		if _, _, e := now(t, x.Program, api.Call{Class: inB, At: at}); e != api.ErrCode {
			t.Errorf("Now at %d: %v", at, e)
		}
	}
}

// What else a call has counts for nothing.
func TestNowAsksThePlaceAlone(t *testing.T) {
	x := programOf(t, static("(IJ)I", 2, 5, "a: iload_0, b: ireturn"))
	for _, s := range []string{"", "i1 l2 t0 t0 t0 | i1", "1 2 3 4 5 6 7 | 8 9", "n1 t1 | l1"} {
		for _, lock := range []int{0, 7, -7} {
			c := x.at(0, "a", s)
			c.Lock = lock
			if i, next, e := now(t, x.Program, c); i.Op != 21 || next != 1 || e != api.OK {
				t.Errorf("Now of %v: %v %d %v", c, i, next, e)
			}
		}
	}
}

// Programs are many: what is asked of one is not another one's.
func TestManyPrograms(t *testing.T) {
	var l []made
	for k := range 5 {
		l = append(l, programOf(t, static("("+strings.Repeat("I", k)+")V", 1, k, strings.Repeat("nop, ", k)+"return")))
	}
	for range 2 {
		for k, x := range l {
			args := slices.Repeat(valuesOf("i5"), k)
			if c, e := begin(t, x.Program, inB, 0, args...); e != api.OK || !slices.Equal(c.Locals, args) {
				t.Errorf("%d: %v %v", k, c, e)
			}
			if i, next, e := now(t, x.Program, api.Call{Class: inB, At: k}); i.Op != 177 || next != k+1 || e != api.OK {
				t.Errorf("%d: %v %d %v", k, i, next, e)
			}
		}
	}
}

// none are programs that have nothing.
func none() map[string]*link.Program { return map[string]*link.Program{"nil": nil, "plain": {}} }
