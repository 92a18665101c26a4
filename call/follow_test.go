package call_test

import (
	"fmt"
	"math/rand"
	"slices"
	"strings"
	"testing"

	"larch/api"
	"larch/call"
	"larch/kind"
)

// Tests of 17.4 to 17.6: what follows.

// argTypes answers the types of what a method of b takes.
func argTypes(m api.Method) []api.Type {
	l, _, _ := kind.Method(m.Type)
	if len(plainTakes(m)) > len(l) {
		return append([]api.Type{classType("b")}, l...)
	}
	return l
}

// mapText is what a map at the beginning tells of a method's locals: just what is known there, or less.
func mapText(r *rand.Rand, m written) string {
	var l []string
	for _, x := range argTypes(api.Method{Access: m.access, Type: m.kind}) {
		s := map[int]string{api.KInt: "I", api.KLong: "J", api.KRef: x.Name}[x.Kind]
		switch n := r.Intn(4); {
		case n == 0:
			s = "T"
		case n == 1 && x.Kind == api.KRef:
			s = "Object"
		case n == 2 && (s == "b" || s == "c"):
			s = "a"
		}
		l = append(l, s)
		if x.Kind == api.KLong {
			l = append(l, "T")
		}
	}
	for len(l) < m.locals {
		l = append(l, "T")
	}
	return "= " + strings.Join(l, " ") + " |, "
}

// beginnings makes methods with up to five arguments, with maps at their beginning and without.
func beginnings(r *rand.Rand, n int) []written {
	var l []written
	for k := range n {
		desc := ""
		for range r.Intn(6) {
			desc += []string{"I", "J", "La;", "Lb;", "Lc;", "LObject;", "[I", "[La;", "[[J", "LBad;", "Lnowhere;"}[r.Intn(11)]
		}
		m := written{[]int{0, api.AStatic, api.ASync, api.AStatic | api.ASync}[r.Intn(4)], fmt.Sprint("m", k), "(" + desc + ")V", 1, 0, ""}
		m.locals = widths(m.access, m.kind) + r.Intn(4)
		if r.Intn(2) == 0 {
			m.text = mapText(r, m)
		}
		m.text += []string{"return", "nop, return", "iconst_1, pop, return"}[r.Intn(3)]
		l = append(l, m)
	}
	return l
}

// 17.4: what a sound method begins with fits, if its arguments do.
func TestBeginningsFit(t *testing.T) {
	r := rand.New(rand.NewSource(174))
	l := heapOf(objects)
	begun := 0
	for range 18 {
		x := programOf(t, beginnings(r, 25)...)
		all := x.All()
		for k, m := range x.methods {
			for range 6 {
				var args []api.Value
				ok := true
				for _, y := range argTypes(m) {
					v := randomFit(r, all, l, y)
					ok = ok && plainValue(all, l, v, y)
					args = append(args, v)
				}
				c, e := begin(t, x.Program, inB, k, args...)
				if !ok { // no value was found
					continue
				}
				begun++
				if e != api.OK || !fits(t, x.Program, l, c) {
					t.Fatalf("%s with %v: %v %v does not fit", m.Type, args, c, e)
				}
				if i, next, e := now(t, x.Program, c); i.At != 0 || next < 1 || e != api.OK {
					t.Fatalf("%s: it stands at %v %d %v", m.Type, i, next, e)
				}
			}
		}
	}
	if begun < 1500 {
		t.Errorf("just %d were begun", begun)
	}
}

// An argument that does not fit makes a beginning that does not, where no map makes it weaker.
func TestBeginningsOfArgumentsThatDoNotFit(t *testing.T) {
	x := programOf(t, owned("(IJLa;[I)V", 0, 7, "return"))
	l := heapOf("a b other [I [J -")
	right := valuesOf("2 i1 l1 1 4")
	c, _ := begin(t, x.Program, inB, 0, right...)
	is(t, "with right ones", fits(t, x.Program, l, c), true)
	for k, s := range []string{"1 3 4 5 6 7 -1", "i2147483648 i-2147483649", "", "3 4 5 6 7 -1", "1 2 3 5 6 7 -1"} {
		for _, v := range valuesOf(s) {
			args := slices.Clone(right)
			args[k] = v
			c, e := begin(t, x.Program, inB, 0, args...)
			if e != api.OK || fits(t, x.Program, l, c) {
				t.Errorf("%v: %v %v", args, c, e)
			}
		}
	}
}

// randomCall is a call with values of all kinds.
func randomCall(r *rand.Rand) api.Call {
	c := api.Call{Class: r.Int() - 1<<40, Method: r.Intn(9), At: r.Intn(99), Lock: r.Intn(3)}
	values := anyValues()
	for range r.Intn(5) {
		c.Locals = append(c.Locals, values[r.Intn(len(values))])
	}
	for range r.Intn(6) {
		c.Stack = append(c.Stack, values[r.Intn(len(values))])
	}
	return c
}

// 17.5: Push and Pop lead back.
func TestPushAndPopLeadBack(t *testing.T) {
	r := rand.New(rand.NewSource(175))
	values := anyValues()
	for range 3000 {
		c := randomCall(r)
		var l []api.Value
		for range r.Intn(6) {
			l = append(l, values[r.Intn(len(values))])
		}
		d := call.Push(c, l...)
		for k := len(l) - 1; k >= 0; k-- {
			x, v, e := call.Pop(d)
			if v != l[k] || e != api.OK {
				t.Fatalf("%v with %v: popped %v %v", c, l, v, e)
			}
			isCall(t, "pushed again", call.Push(x, v), api.OK, d, api.OK)
			d = x
		}
		isCall(t, "popped down to it", d, api.OK, c, api.OK)
		for len(d.Stack) > 0 {
			x, v, _ := call.Pop(d)
			isCall(t, "pushed again", call.Push(x, v), api.OK, d, api.OK)
			d = x
		}
		x, v, e := call.Pop(d)
		isCall(t, "Pop of an empty stack", x, e, api.Call{}, api.ErrStack)
		is(t, "its top", v, api.Value{})
		isCall(t, "all at once", push(t, d, slices.Concat(c.Stack, l)...), api.OK, call.Push(c, l...), api.OK)
	}
}

// Setting what is there sets nothing else, and of two values set in one place the last one is there.
func TestSetTwice(t *testing.T) {
	r := rand.New(rand.NewSource(1751))
	values := anyValues()
	for range 3000 {
		c := randomCall(r)
		k, v, w := r.Intn(6)-1, values[r.Intn(len(values))], values[r.Intn(len(values))]
		d, e := set(t, c, k, v)
		if e != api.OK {
			continue
		}
		again, e := set(t, d, k, v)
		isCall(t, "once more", again, e, d, api.OK)
		x, e := set(t, d, k, w)
		if e == api.OK && v.Kind != api.KLong {
			y, e := set(t, c, k, w)
			isCall(t, "at once", y, e, x, api.OK)
		}
	}
}

// handling makes a method with handlers over some of its instructions, of classes of all kinds.
func handling(r *rand.Rand, n int) written {
	text, size := "", 1+r.Intn(6)
	for k := range size {
		text += fmt.Sprintf("i%d: %s, ", k, []string{"nop", "sipush 300", "aload_0", "lload_1", "iload_3"}[r.Intn(5)])
	}
	text += fmt.Sprintf("i%d: return", size)
	for k := range r.Intn(6) {
		class := []string{"", "Throwable", "Bad", "Worse", "side", "Null", "Index"}[r.Intn(7)]
		from := r.Intn(size + 1)
		to := fmt.Sprint("i", from+1+r.Intn(size+1-from))
		if to == fmt.Sprint("i", size+1) {
			to = []string{"h0", "end"}[r.Intn(2)]
		}
		caught := class
		if class == "" {
			caught = "Throwable"
		}
		if r.Intn(3) == 0 {
			caught = []string{"Throwable", "Object"}[r.Intn(2)]
		}
		locals := []string{"b J T I", "a J T T", "T T T I", "Object J T I"}[r.Intn(4)]
		text += fmt.Sprintf(", try @i%d @%s @h%d %s, h%d: = %s | %s, pop, return", from, to, k, class, k, locals, caught)
	}
	if !strings.Contains(text, "h0: ") {
		text += ", h0: = T T T T |, return"
	}
	return written{0, fmt.Sprint("m", n), "(JI)V", 64, 4, text}
}

// handlers makes a program whose class b has two methods with handlers, as soon as they are sound.
func handlers(t *testing.T, r *rand.Rand) made {
	t.Helper()
	for range 1000 {
		if x, e := tryProgram(handling(r, 0), handling(r, 1)); e == api.OK {
			return x
		}
	}
	t.Fatal("no handlers fit")
	return made{}
}

// 17.6: Catch leads to where an instruction begins; and what comes there fits.
func TestCatchLeadsToInstructions(t *testing.T) {
	r := rand.New(rand.NewSource(176))
	l := heapOf("b Throwable Bad Worse side Null Index")
	caught := 0
	for range 200 {
		x := handlers(t, r)
		for k := range 2 {
			for at := -1; at <= x.labels[k]["end"]+1; at++ {
				for n, o := range l {
					c := api.Call{Class: inB, Method: k, At: at}
					to, ok := catch(t, x.Program, c, o.Type)
					if !ok || n == 0 {
						continue
					}
					caught++
					d := callOf("1 l5 t0 i6")
					d.Class, d.Method, d.At = inB, k, to
					if i, next, e := now(t, x.Program, d); i.At != to || next <= to || e != api.OK {
						t.Fatalf("%v: %d is where %v is, %d, %v", x.methods[k], to, i, next, e)
					}
					if d.Stack = []api.Value{{Kind: api.KRef, N: n + 1}}; !fits(t, x.Program, l, d) {
						t.Fatalf("%v at %d with %s: %v does not fit", x.methods[k], at, o.Type, d)
					}
				}
			}
		}
	}
	if caught < 3000 {
		t.Errorf("just %d were caught", caught)
	}
}
