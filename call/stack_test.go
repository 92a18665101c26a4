package call_test

import (
	"fmt"
	"slices"
	"strings"
	"testing"

	"larch/api"
	"larch/call"
)

// Tests of 17.2, Push, Pop and Set, and of Copy.

// someCalls are calls with locals and stacks of all sizes; no program is asked for them.
func someCalls() []api.Call {
	var l []api.Call
	for _, s := range []string{
		"|", "i1|", "|i1", "i1 l2 t0 3|", "|1 i2 l3", "i1 l2 t0 3 | l4 i5 6 0", "t0 t0|l1 l1", "l1 t0 l2 t0|1", "n1 t5|n1 t5", "l1 l2 l3|l1 l2 l3",
		strings.Repeat("i1 ", 64) + "|" + strings.Repeat("i2 ", 64), strings.Repeat("l1 t0 ", 200) + "|" + strings.Repeat("l2 ", 1000),
	} {
		c := marked(s)
		l = append(l, c)
		c.Lock, c.At, c.Class = -1, mostLong, leastLong
		l = append(l, c)
	}
	return append(l, api.Call{}, api.Call{Locals: []api.Value{}, Stack: []api.Value{}, Lock: 3})
}

// anyValues are values of all kinds, and of some that there are not.
func anyValues() []api.Value {
	var l []api.Value
	for kind := -1; kind <= 5; kind++ {
		for _, n := range []int{0, 1, -1, mostInt + 1, leastLong, mostLong} {
			l = append(l, api.Value{Kind: kind, N: n})
		}
	}
	return l
}

func TestPush(t *testing.T) {
	isCall(t, "Push", push(t, marked("i1|i2"), valuesOf("i3 l4 5 t0 n0")...), api.OK, marked("i1|i2 i3 l4 5 t0 n0"), api.OK)
	isCall(t, "Push of nothing", push(t, marked("i1|i2")), api.OK, marked("i1|i2"), api.OK)
	isCall(t, "Push of one", push(t, marked("i1|"), valuesOf("l7")...), api.OK, marked("i1|l7"), api.OK)
	for _, c := range someCalls() {
		push(t, c)
		push(t, c, anyValues()...)
		push(t, c, slices.Repeat(anyValues(), 50)...)
		for _, v := range anyValues() {
			push(t, c, v)
			push(t, c, v, v)
		}
	}
}

func TestPop(t *testing.T) {
	c, v, e := pop(t, marked("i1|i2 l3 4"))
	isCall(t, "Pop", c, e, marked("i1|i2 l3"), api.OK)
	is(t, "the top", v, api.Value{Kind: api.KRef, N: 4})
	for _, c := range someCalls() {
		for {
			d, v, e := pop(t, c)
			if e != api.OK {
				isCall(t, "Pop of an empty stack", d, e, api.Call{}, api.ErrStack)
				is(t, "the top", v, api.Value{})
				break
			}
			isCall(t, "pushed back", push(t, d, v), api.OK, c, api.OK)
			c = d
			if len(c.Stack) > 70 {
				c.Stack = c.Stack[:70]
			}
		}
		is(t, "what is left", len(c.Stack), 0)
	}
	for _, v := range anyValues() {
		if c, top, e := pop(t, api.Call{Stack: []api.Value{v}}); top != v || len(c.Stack) != 0 || e != api.OK {
			t.Errorf("Pop of %v: %v %v %v", v, c, top, e)
		}
	}
}

// What was popped can't be met again behind the stack's end, and what is put there changes no other call.
func TestPopEndsWhereItEnds(t *testing.T) {
	first := marked("i1|i2 i3 i4")
	c, _, _ := call.Pop(first)
	d, _, _ := call.Pop(c)
	for _, x := range []api.Call{c, d} {
		for _, v := range x.Stack[len(x.Stack):cap(x.Stack)] {
			if v != (api.Value{}) {
				t.Errorf("behind %v lies %v", x.Stack, v)
			}
		}
		_ = append(x.Stack, valuesOf("7 7 7 7")...)
		_ = append(x.Locals, valuesOf("8 8 8 8")...)
	}
	isCall(t, "the first one", first, api.OK, marked("i1|i2 i3 i4"), api.OK)
	isCall(t, "popped once", c, api.OK, marked("i1|i2 i3"), api.OK)
	isCall(t, "popped twice", d, api.OK, marked("i1|i2"), api.OK)
	// Two that come of one are apart.
	x, y := call.Push(c, valuesOf("l5")...), call.Push(c, valuesOf("l6")...)
	isCall(t, "one", x, api.OK, marked("i1|i2 i3 l5"), api.OK)
	isCall(t, "the other one", y, api.OK, marked("i1|i2 i3 l6"), api.OK)
}

// setIs asks Set for a call of a text.
func setIs(t *testing.T, text string, k int, v, want string) {
	t.Helper()
	c, e := set(t, marked(text+"|i7 7"), k, valuesOf(v)[0])
	if want == "no" {
		isCall(t, text, c, e, api.Call{}, api.ErrStack)
		return
	}
	isCall(t, text, c, e, marked(want+"|i7 7"), api.OK)
}

func TestSet(t *testing.T) {
	for _, x := range []struct {
		text    string
		k       int
		v, want string
	}{
		{"i1 i2 i3", 0, "i9", "i9 i2 i3"}, {"i1 i2 i3", 1, "i9", "i1 i9 i3"}, {"i1 i2 i3", 2, "i9", "i1 i2 i9"},
		{"i1 i2 i3", 0, "5", "5 i2 i3"}, {"i1 i2 i3", 1, "t0", "i1 t0 i3"}, {"i1 i2 i3", 2, "n0", "i1 i2 n0"},
		{"i1 i2 i3", 0, "l9", "l9 t0 i3"}, {"i1 i2 i3", 1, "l9", "i1 l9 t0"}, {"i1 i2 i3", 2, "l9", "no"},
		{"i1 i2 i3", 3, "i9", "no"}, {"i1 i2 i3", 3, "l9", "no"}, {"i1 i2 i3", -1, "i9", "no"}, {"i1 i2 i3", -1, "l9", "no"},
		{"i1 i2 i3", mostLong, "i9", "no"}, {"i1 i2 i3", leastLong, "i9", "no"}, {"i1 i2 i3", mostLong, "l9", "no"}, {"i1 i2 i3", leastLong, "l9", "no"},
		// Over a KLong, into the place behind it, beside it.
		{"i1 l2 t0 i3", 1, "i9", "i1 i9 t0 i3"}, {"i1 l2 t0 i3", 1, "l9", "i1 l9 t0 i3"}, {"i1 l2 t0 i3", 2, "i9", "i1 t0 i9 i3"},
		{"i1 l2 t0 i3", 2, "t0", "i1 t0 t0 i3"}, {"i1 l2 t0 i3", 2, "l9", "i1 t0 l9 t0"}, {"i1 l2 t0 i3", 0, "i9", "i9 l2 t0 i3"},
		{"i1 l2 t0 i3", 0, "l9", "l9 t0 t0 i3"}, {"i1 l2 t0 i3", 3, "i9", "i1 l2 t0 i9"}, {"l1 t0 l2 t0", 1, "l9", "t0 l9 t0 t0"},
		{"l1 t0 l2 t0", 1, "7", "t0 7 l2 t0"}, {"l1 t0 l2 t0", 2, "i9", "l1 t0 i9 t0"}, {"l1 t0 l2 t0", 3, "i9", "l1 t0 t0 i9"}, {"l1 t0 l2 t0", 3, "l9", "no"},
		{"l1 t0 l2 t0", 2, "l9", "l1 t0 l9 t0"}, {"l1 t0 l2 t0", 0, "l9", "l9 t0 l2 t0"}, {"l1 t0", 0, "l9", "l9 t0"}, {"l1 t0", 1, "l9", "no"}, {"l1 t0", 1, "i9", "t0 i9"},
		// Locals that no sound method leaves so.
		{"l1 l2 l3", 1, "i9", "t0 i9 l3"}, {"l1 l2 l3", 1, "l9", "t0 l9 t0"}, {"l1 i2 l3", 0, "i9", "i9 i2 l3"}, {"l1 i2 l3", 0, "l9", "l9 t0 l3"}, {"i1 t5", 0, "l9", "l9 t0"},
		{"l1 l2 l3", 2, "i9", "l1 t0 i9"}, {"l1 l2 l3", 2, "l9", "no"}, {"l1", 0, "i9", "i9"},
		{"i1", 0, "l9", "no"}, {"", 0, "i9", "no"}, {"", 0, "l9", "no"}, {"", -1, "l9", "no"}, {"", 1, "i9", "no"}, {"i1", 0, "t5", "t5"}, {"i1", 0, "l0", "no"},
	} {
		setIs(t, x.text, x.k, x.v, x.want)
	}
}

// Each local of all small lists, to each value.
func TestSetEverywhere(t *testing.T) {
	some := valuesOf("i1 l2 t0 3")
	for size := range 5 {
		for n := range 1 << (2 * size) {
			c := marked("|l1 i2")
			for k := range size {
				c.Locals = append(c.Locals, some[n>>(2*k)&3])
			}
			for k := -2; k <= size+1; k++ {
				for _, v := range valuesOf("i9 l9 t0 9") {
					set(t, c, k, v)
				}
			}
		}
	}
	for _, c := range someCalls() {
		for _, k := range []int{-2, -1, 0, 1, 2, 3, 4, 5, 62, 63, 64, 65, 399, 400, leastLong, leastInt, mostInt, mostLong, 1 << 32} {
			for _, v := range anyValues() {
				set(t, c, k, v)
			}
		}
	}
}

func TestCopy(t *testing.T) {
	for _, c := range someCalls() {
		copied(t, c)
	}
}

// A call whose lists lie in one memory, one behind the other or one in the other, is changed by no call, and the answers' lists are
// apart.
func TestListsInOneMemory(t *testing.T) {
	for n := range 4 {
		all := valuesOf("i1 l2 t0 i3 i4 l5 i6 7")
		was := slices.Clone(all)
		c := marked("")
		c.Locals, c.Stack = all[:4], all[n:n+4]
		want, at := api.Call{}, fmt.Sprintf("at %d", n)
		for what, f := range map[string]func() api.Call{
			"Push of the stack":  func() api.Call { want = withStack(c, was[n:n+4], was[n:n+4]); return call.Push(c, c.Stack...) },
			"Push of the locals": func() api.Call { want = withStack(c, was[n:n+4], was[:4]); return call.Push(c, c.Locals...) },
			"Pop":                func() api.Call { want = withStack(c, was[n:n+3]); d, _, _ := call.Pop(c); return d },
			"Set": func() api.Call {
				want = withStack(c, was[n:n+4])
				want.Locals = valuesOf("i9 l2 t0 i3")
				d, _ := call.Set(c, 0, valuesOf("i9")[0])
				return d
			},
			"Copy": func() api.Call { want = withStack(c, was[n:n+4]); return call.Copy(c) },
		} {
			d := f()
			isCall(t, what+at, d, api.OK, want, api.OK)
			scribble(1, d.Locals, d.Stack)
			if !isScribbled(1, d.Locals, d.Stack) || !slices.Equal(all, was) {
				t.Errorf("%s %s: %v, %v", what, at, d, all)
			}
		}
	}
}

// withStack is a call with its locals, and another stack.
func withStack(c api.Call, l ...[]api.Value) api.Call {
	c.Locals, c.Stack = slices.Clone(c.Locals), slices.Concat(l...)
	return c
}
