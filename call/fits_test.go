package call_test

import (
	"math/rand"
	"slices"
	"strconv"
	"strings"
	"testing"

	"larch/api"
)

// Tests of 17.3: Fits.

// framed is a program whose method 0 has a place, here, with any frame: it comes behind what does not fall, and is never reached.
func framed(t *testing.T, locals, stack string) made {
	t.Helper()
	return programOf(t, static("()V", 64, len(typesOf(locals)), "return, here: = "+locals+" | "+stack+", return"))
}

// fitsHere asks whether a call with values fits here.
func fitsHere(t *testing.T, x made, l []api.Object, values string, want bool) {
	t.Helper()
	if fits(t, x.Program, l, x.at(0, "here", values)) != want {
		t.Errorf("%s: %v", values, !want)
	}
}

// objects are of many types; number 5 and number 20 are free.
const objects = "a b c other - Object [I [La; [Lb; [[I [J [B Bad Worse Throwable nowhere [Lnowhere; [LObject; [[Lb; - Null"

// every are values of each kind, at bounds and beyond them.
func every(l []api.Object) []api.Value {
	var out []api.Value
	for _, n := range []int{0, 1, -1, 2, mostInt, mostInt + 1, leastInt, leastInt - 1, 1 << 32, mostLong, leastLong, len(l), len(l) + 1} {
		for kind := -1; kind <= 5; kind++ {
			out = append(out, api.Value{Kind: kind, N: n})
		}
	}
	for n := range l {
		out = append(out, api.Value{Kind: api.KRef, N: n + 1})
	}
	return out
}

// Each kind of type against each kind of value, as a local and on the stack.
func TestFitsOfEachType(t *testing.T) {
	l := heapOf(objects)
	for _, x := range []struct{ kind, fit string }{
		{"I", "i0 i1 i-1 i2147483647 i-2147483648"},
		{"J", "l0 l1 l-1 l2147483648 l-2147483649 l9223372036854775807 l-9223372036854775808"},
		{"N", "0"},
		{"a", "0 1 2 3"}, {"b", "0 2 3"}, {"c", "0 3"}, {"other", "0 4"}, {"Object", "0 1 2 3 4 6 7 8 9 10 11 12 13 14 15 16 17 18 19 21"},
		{"[I", "0 7"}, {"[La;", "0 8 9"}, {"[Lb;", "0 9"}, {"[Lc;", "0"}, {"[[I", "0 10"}, {"[J", "0 11"}, {"[B", "0 12"}, {"[LObject;", "0 8 9 10 17 18 19"},
		{"[[LObject;", "0 19"}, {"[[La;", "0 19"}, {"[[Lb;", "0 19"}, {"[[Lother;", "0"}, {"Bad", "0 13 14"}, {"Worse", "0 14"}, {"Throwable", "0 13 14 15 21"},
		{"Null", "0 21"}, {"nowhere", "0 16"}, {"[Lnowhere;", "0 17"}, {"sys", "0"}, {"side", "0"}, {"Main", "0"},
	} {
		fit := valuesOf(x.fit)
		local, on := framed(t, x.kind+" T", ""), framed(t, "", x.kind)
		values := append(every(l), fit...)
		for _, v := range values {
			c := local.at(0, "here", "")
			c.Locals = []api.Value{v, {}}
			d := on.at(0, "here", "")
			d.Stack = []api.Value{v}
			want := slices.Contains(fit, v) || x.kind == "J" && v.Kind == api.KLong || x.kind == "I" && v.Kind == api.KInt && v.N >= leastInt && v.N <= mostInt
			if got := fits(t, local.Program, l, c); got != want {
				t.Errorf("%v as a local %s: %v", v, x.kind, got)
			}
			if got := fits(t, on.Program, l, d); got != want {
				t.Errorf("%v on the stack as %s: %v", v, x.kind, got)
			}
		}
	}
}

// Whatever the value, it fits KTop, behind a KLong, too; on a stack there is no KTop.
func TestFitsOfTop(t *testing.T) {
	l := heapOf(objects)
	x := framed(t, "T J T T", "")
	for _, v := range every(l) {
		for _, k := range []int{0, 2, 3} {
			c := x.at(0, "here", "t0 l1 t0 t0")
			c.Locals[k] = v
			if !fits(t, x.Program, l, c) {
				t.Errorf("%v at %d does not fit", v, k)
			}
		}
		c := x.at(0, "here", "t0 t0 t0 t0")
		c.Locals[1] = v
		is(t, "in place of a KLong", fits(t, x.Program, l, c), v.Kind == api.KLong)
	}
}

// As many locals, and as many members of the stack.
func TestFitsOfSizes(t *testing.T) {
	x := framed(t, "I J T T a", "J N I")
	l := heapOf("b a")
	fitsHere(t, x, l, "i1 l2 t0 t0 1 | l4 0 i5", true)
	for _, s := range []string{
		"|", "i1 l2 t0 t0 1 |", "| l4 0 i5", "i1 l2 t0 t0 | l4 0 i5", "l2 t0 t0 1 | l4 0 i5", "i1 l2 t0 1 | l4 0 i5", "i1 l2 1 | l4 0 i5", "i1 l2 t0 t0 1 t0 | l4 0 i5",
		"t0 i1 l2 t0 t0 1 | l4 0 i5", "i1 l2 t0 t0 1 | l4 0", "i1 l2 t0 t0 1 | 0 i5", "i1 l2 t0 t0 1 | l4 i5", "i1 l2 t0 t0 1 | l4 0 i5 t0", "i1 l2 t0 t0 1 | t0 l4 0 i5",
		"i1 l2 t0 t0 1 | l4 t0 0 i5", "l4 0 i5 | i1 l2 t0 t0 1", "i1 l2 t0 t0 1 | i5 0 l4", "1 t0 t0 l2 i1 | l4 0 i5", "i1 l2 t0 t0 1 l4 0 i5 |",
	} {
		fitsHere(t, x, l, s, false)
	}
	for _, s := range []string{"i1 l2 i3 l4 0 | l4 0 i5", "i1 l2 n1 99 2 | l4 0 i5"} {
		fitsHere(t, x, l, s, true)
	}
	// Each value of another kind, alone.
	for k := range 8 {
		for _, v := range valuesOf("i1 l1 1 0 n0 t0") {
			c := x.at(0, "here", "i1 l2 t0 t0 1 | l4 0 i5")
			if k < 5 {
				c.Locals[k] = v
			} else {
				c.Stack[k-5] = v
			}
			fits(t, x.Program, l, c)
		}
	}
	empty := framed(t, "", "")
	fitsHere(t, empty, nil, "|", true)
	fitsHere(t, empty, nil, "t0|", false)
	fitsHere(t, empty, nil, "|0", false)
	great := framed(t, strings.Repeat("I ", 64), strings.Repeat("J ", 32))
	fitsHere(t, great, nil, strings.Repeat("i1 ", 64)+"|"+strings.Repeat("l1 ", 32), true)
	fitsHere(t, great, nil, strings.Repeat("i1 ", 64)+"|"+strings.Repeat("l1 ", 31), false)
	fitsHere(t, great, nil, strings.Repeat("i1 ", 63)+"l1|"+strings.Repeat("l1 ", 32), false)
}

// The numbers of objects: of those that there are, and of the free ones, in heaps of all kinds.
func TestFitsOfNumbers(t *testing.T) {
	x := framed(t, "a", "a")
	for _, text := range []string{"", "a", "- a", "a -", "- -", "a - b - c", "other", "- other a", "a a a a", "b other", "c - -"} { // some of them are not right
		l := heapOf(text)
		for n := -2; n <= len(l)+2; n++ {
			there := n >= 1 && n <= len(l) && strings.Contains("abc", l[n-1].Type) && l[n-1].Type != ""
			s := strconv.Itoa(n)
			fitsHere(t, x, l, s+"|0", n == 0 || there)
			fitsHere(t, x, l, "0|"+s, n == 0 || there)
		}
		for _, n := range []int{leastLong, leastInt, mostInt, mostLong, 1 << 32, 1<<32 + 1} {
			fitsHere(t, x, l, strconv.Itoa(n)+"|0", false)
		}
	}
	l := heapOf(strings.Repeat("a ", 4096) + "b")
	fitsHere(t, x, l[:4096], "4096|1", true)
	fitsHere(t, x, l[:4096], "4097|1", false)
	fitsHere(t, x, l, "4097|1", true)
	fitsHere(t, x, []api.Object{{Words: valuesOf("1 2")}, {Type: "a", Words: valuesOf("l5")}}, "1|0", false)
	fitsHere(t, x, []api.Object{{Words: valuesOf("1 2")}, {Type: "a", Words: valuesOf("l5")}}, "2|0", true)
}

// What else a call has counts for nothing.
func TestFitsAsksNoLock(t *testing.T) {
	x := programOf(t, written{api.ASync, "m", "()V", 0, 1, "return"})
	for _, lock := range []int{0, 1, 2, -1, 99} {
		c := x.at(0, "end", "1|")
		c.At, c.Lock = 0, lock
		is(t, "with a Lock", fits(t, x.Program, heapOf("b"), c), true)
	}
}

// At each place of a method just the frame there counts.
func TestFitsAtEachPlace(t *testing.T) {
	x := programOf(t, static("(IJ)V", 4, 4, `a: iload_0, b: lload_1, c: l2i, d: iadd, e: istore_3, f: aconst_null, g: pop, h: sipush 3, i: ifeq @k, j: = I J T T |, lload_1, k0: pop2, k: = I T T T |,
		l: return, dead: = I J T I | a J, pop2, m: pop, n: goto @k`))
	values := map[string]string{
		"a": "i1 l2 t0 t0 |", "b": "i1 l2 t0 t0 | i3", "c": "i1 l2 t0 t0 | i3 l4", "d": "i1 l2 t0 t0 | i3 i4", "e": "i1 l2 t0 t0 | i7", "f": "i1 l2 t0 i7 |", "g": "i1 l2 t0 i7 | 0",
		"h": "i1 l2 t0 i7 |", "i": "i1 l2 t0 i7 | i3", "j": "i1 l2 t0 9 |", "k0": "i1 l2 t0 9 | l8", "k": "i1 5 5 5 |", "dead": "i1 l2 t0 i3 | 1 l2", "m": "i1 l2 t0 i3 | 1", "n": "i1 l2 t0 i3 |",
	}
	l := heapOf("a")
	for label, s := range values {
		is(t, "the frame at "+label, fits(t, x.Program, l, x.at(0, label, s)), true)
		for other, s := range values {
			fits(t, x.Program, l, x.at(0, label, s))
			c := x.at(0, label, s)
			c.At = x.labels[0][other]
			fits(t, x.Program, l, c)
		}
		for _, at := range []int{-1, 8, 9, 11, 12, x.labels[0]["end"] - 1, x.labels[0]["end"], x.labels[0]["end"] + 1, leastLong, mostLong, 1 << 32} {
			c := x.at(0, label, s)
			c.At = at // within instructions, behind the end
			if fits(t, x.Program, l, c) {
				t.Errorf("%s fits at %d", s, at)
			}
		}
	}
	for at := -2; at <= x.labels[0]["end"]+2; at++ {
		for _, s := range values {
			c := callOf(s)
			c.Class, c.At = inB, at
			fits(t, x.Program, l, c)
		}
	}
}

// A KNull, and one that a map makes a KRef.
func TestFitsOfNull(t *testing.T) {
	x := programOf(t, static("()V", 1, 1, "aconst_null, a: astore_0, b: aload_0, c: pop, = a |, d: aload_0, e: pop, return"))
	l := heapOf("a other")
	for s, want := range map[string]string{"0": "c d e", "1": "d e", "2": "", "i0": "", "n0": "", "t0": "", "3": ""} {
		for _, label := range strings.Fields("c d e") {
			on := map[bool]string{true: " | 0"}[label != "d"]
			is(t, s+" at "+label, fits(t, x.Program, l, x.at(0, label, s+on)), strings.Contains(want, label))
		}
		is(t, s+" at b", fits(t, x.Program, l, x.at(0, "b", s)), s == "0")
		is(t, s+" at a", fits(t, x.Program, l, x.at(0, "a", "t0|"+s)), s == "0")
		is(t, s+" at e", fits(t, x.Program, l, x.at(0, "e", "1|"+s)), s == "0" || s == "1")
	}
}

// A method that is not there, and programs that have nothing.
func TestFitsOfNothing(t *testing.T) {
	x := programOf(t, static("()V", 0, 0, "return"))
	is(t, "itself", fits(t, x.Program, nil, api.Call{Class: inB}), true)
	is(t, "main", fits(t, x.Program, nil, api.Call{Class: 10}), true)
	for _, class := range []int{leastLong, -1, 0, 1, 9, 11, 13, 17, 18, mostLong, inB} {
		for _, k := range []int{leastLong, -1, 0, 1, mostLong} {
			if class == inB && k == 0 {
				continue
			}
			is(t, "not there", fits(t, x.Program, nil, api.Call{Class: class, Method: k}), false)
		}
	}
	for what, p := range none() {
		is(t, what, fits(t, p, nil, api.Call{Class: inB}), false)
		is(t, what, fits(t, p, heapOf("b"), api.Call{}), false)
	}
}

// randomTypes are some types: of locals with KTop, and one behind each KLong.
func randomTypes(r *rand.Rand, n int, locals bool) []string {
	all := strings.Fields("I J N a b c other Object [I [La; [LObject; [[I Throwable Bad")
	var l []string
	for len(l) < n {
		s := all[r.Intn(len(all))]
		if locals && r.Intn(5) == 0 {
			s = "T"
		}
		l = append(l, s)
		if locals && s == "J" {
			l = append(l, "T")
		}
	}
	return l
}

// randomFit is a value of a type, mostly.
func randomFit(r *rand.Rand, all []api.Class, l []api.Object, x api.Type) api.Value {
	values := every(l)
	v := values[r.Intn(len(values))]
	for range 100 {
		if plainValue(all, l, v, x) {
			break
		}
		v = values[r.Intn(len(values))]
	}
	return v
}

// Random frames with random values, most of which fit.
func TestFitsAtRandom(t *testing.T) {
	r := rand.New(rand.NewSource(17))
	l := heapOf(objects)
	told := map[bool]int{}
	for range 150 {
		locals, stack := randomTypes(r, r.Intn(6), true), randomTypes(r, r.Intn(5), false)
		x := framed(t, strings.Join(locals, " "), strings.Join(stack, " "))
		all := x.All()
		for range 20 {
			c := x.at(0, "here", "")
			for _, k := range typesOf(strings.Join(locals, " ")) {
				c.Locals = append(c.Locals, randomFit(r, all, l, k))
			}
			for _, k := range typesOf(strings.Join(stack, " ")) {
				c.Stack = append(c.Stack, randomFit(r, all, l, k))
			}
			if n := len(c.Locals); n > 0 && r.Intn(4) == 0 {
				c.Locals[r.Intn(n)] = every(l)[r.Intn(90)]
			}
			if n := len(c.Stack); n > 0 && r.Intn(4) == 0 {
				c.Stack[r.Intn(n)] = every(l)[r.Intn(90)]
			}
			told[fits(t, x.Program, l, c)]++
		}
	}
	if told[true] < 800 || told[false] < 500 {
		t.Errorf("what was told: %v", told)
	}
}
