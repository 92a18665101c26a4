package call_test

import (
	"fmt"
	"math"
	"slices"
	"strconv"
	"strings"
	"testing"

	"larch/api"
	"larch/call"
	"larch/link"
)

// What the tests share. Each call that they make is held against the chapter's words, and is asked, too, whether it changed what it
// was given, and whether what it answers is memory of its own.

const (
	leastLong = math.MinInt64
	mostLong  = math.MaxInt64
	leastInt  = math.MinInt32
	mostInt   = math.MaxInt32
)

// valuesOf are the values that a text tells: a number is a KRef; i, l, n, t ahead of one make it a KInt, KLong, KNull, KTop.
func valuesOf(text string) []api.Value {
	var l []api.Value
	for _, s := range strings.Fields(text) {
		v := api.Value{Kind: api.KRef}
		if k := strings.IndexByte("tiln", s[0]); k >= 0 {
			v.Kind, s = k, s[1:]
		}
		v.N, _ = strconv.Atoi(s)
		l = append(l, v)
	}
	return l
}

// callOf is a call with the values that a text tells: "locals | stack".
func callOf(text string) api.Call {
	locals, stack, _ := strings.Cut(text, "|")
	return api.Call{Locals: valuesOf(locals), Stack: valuesOf(stack)}
}

// marked is a call whose places and Lock are others than those of all methods, so that it shows where they get lost.
func marked(text string) api.Call {
	c := callOf(text)
	c.Class, c.Method, c.At, c.Lock = 77, 78, 79, 80
	return c
}

// heapOf is the heap whose members have the Types that a text tells, - if they are free.
func heapOf(text string) []api.Object {
	var l []api.Object
	for _, s := range strings.Fields(text) {
		if s == "-" {
			s = ""
		}
		l = append(l, api.Object{Type: s})
	}
	return l
}

// alike holds if two calls are the same; lists without members may be nil or empty.
func alike(c, d api.Call) bool {
	return slices.Equal(c.Locals, d.Locals) && slices.Equal(c.Stack, d.Stack) &&
		c.Class == d.Class && c.Method == d.Method && c.At == d.At && c.Lock == d.Lock
}

func sameInstr(a, b api.Instr) bool {
	return a.At == b.At && a.Op == b.Op && a.A == b.A && a.B == b.B && slices.Equal(a.Cases, b.Cases)
}

// isCall asks for a call, and an error.
func isCall(t *testing.T, what string, c api.Call, e api.Errno, want api.Call, wantE api.Errno) {
	t.Helper()
	if !alike(c, want) || e != wantE {
		t.Fatalf("%s: %v %v, want %v %v", what, c, e, want, wantE)
	}
}

// behind is what lies in the room behind each list that is handed in.
var behind = api.Value{Kind: 9, N: 9}

// roomy is a copy of a list with room behind it, where something lies that is not to be touched.
func roomy(l []api.Value) []api.Value {
	m := append(slices.Clone(l), behind, behind, behind)
	return m[:len(l)]
}

// handed is what a call was given: copies of lists of values, and what they are copies of.
type handed struct{ lists, were [][]api.Value }

// hand answers a copy of a call, with copies of values.
func hand(c api.Call, values []api.Value) (handed, api.Call, []api.Value) {
	h := handed{were: [][]api.Value{c.Locals, c.Stack, values}}
	for _, l := range h.were {
		h.lists = append(h.lists, roomy(l))
	}
	c.Locals, c.Stack = h.lists[0], h.lists[1]
	return h, c, h.lists[2]
}

// isUntouched asks whether all is as it was, with what lies behind it.
func (h handed) isUntouched(t *testing.T, what string) {
	t.Helper()
	for k, l := range h.lists {
		if !slices.Equal(l, h.were[k]) {
			t.Fatalf("%s: changed %v, that was handed in, to %v", what, h.were[k], l)
		}
		if tail := l[len(l) : len(l)+3]; tail[0] != behind || tail[1] != behind || tail[2] != behind {
			t.Fatalf("%s: changed behind %v, that was handed in", what, l)
		}
	}
}

// scribble writes over lists, and over the room behind them, at each place something else.
func scribble(salt int, lists ...[]api.Value) {
	for k, l := range lists {
		for i := range l[:cap(l)] {
			l[:cap(l)][i] = api.Value{Kind: -7 - salt, N: k<<20 + i}
		}
	}
}

// isScribbled holds if all that scribble wrote is there.
func isScribbled(salt int, lists ...[]api.Value) bool {
	for k, l := range lists {
		for i, v := range l[:cap(l)] {
			if v != (api.Value{Kind: -7 - salt, N: k<<20 + i}) {
				return false
			}
		}
	}
	return true
}

// isOwn asks whether an answered call is memory of its own, and each list of it, too: changing what was handed in does not change
// it, nor the other way round; and behind its lists lies nothing.
func (h handed) isOwn(t *testing.T, what string, c api.Call) {
	t.Helper()
	for _, l := range [][]api.Value{c.Locals, c.Stack} {
		for _, v := range l[len(l):cap(l)] {
			if v != (api.Value{}) {
				t.Fatalf("%s: behind %v lies %v", what, l, v)
			}
		}
	}
	_, want, _ := hand(c, nil)
	scribble(1, h.lists...)
	if !alike(c, want) {
		t.Fatalf("%s: what was answered changes with what was handed in", what)
	}
	scribble(2, c.Locals, c.Stack)
	if !isScribbled(2, c.Locals, c.Stack) {
		t.Fatalf("%s: two lists of the answer share memory", what)
	}
	if !isScribbled(1, h.lists...) {
		t.Fatalf("%s: what was handed in changes with what was answered", what)
	}
}

// begin asks Begin.
func begin(t *testing.T, p *link.Program, class, method int, args ...api.Value) (api.Call, api.Errno) {
	t.Helper()
	what := fmt.Sprintf("Begin of %d %d with %v", class, method, args)
	want, wantE := plainBegin(p, class, method, args)
	h, _, own := hand(api.Call{}, args)
	c, e := call.Begin(p, class, method, own...)
	isCall(t, what, c, e, want, wantE)
	h.isUntouched(t, what)
	h.isOwn(t, what, c)
	return want, wantE
}

// now asks Now.
func now(t *testing.T, p *link.Program, c api.Call) (api.Instr, int, api.Errno) {
	t.Helper()
	what := fmt.Sprintf("Now of %v", c)
	want, wantNext, wantE := plainNow(p, c)
	for range 2 { // the second time with the first answer's cases changed
		h, own, _ := hand(c, nil)
		i, next, e := call.Now(p, own)
		if !sameInstr(i, want) || next != wantNext || e != wantE {
			t.Fatalf("%s: %v %d %v, want %v %d %v", what, i, next, e, want, wantNext, wantE)
		}
		h.isUntouched(t, what)
		for k := range i.Cases {
			i.Cases[k] = api.Case{Key: -1, To: -1}
		}
	}
	return want, wantNext, wantE
}

// push asks Push.
func push(t *testing.T, c api.Call, l ...api.Value) api.Call {
	t.Helper()
	what := fmt.Sprintf("Push of %v to %v", l, c)
	want := c
	want.Stack = slices.Concat(c.Stack, l)
	h, own, values := hand(c, l)
	got := call.Push(own, values...)
	isCall(t, what, got, api.OK, want, api.OK)
	h.isUntouched(t, what)
	h.isOwn(t, what, got)
	return want
}

// pop asks Pop.
func pop(t *testing.T, c api.Call) (api.Call, api.Value, api.Errno) {
	t.Helper()
	what := fmt.Sprintf("Pop of %v", c)
	want, top, wantE := api.Call{}, api.Value{}, api.ErrStack
	if n := len(c.Stack); n > 0 {
		want, top, wantE = c, c.Stack[n-1], api.OK
		want.Stack = c.Stack[:n-1]
	}
	h, own, _ := hand(c, nil)
	got, v, e := call.Pop(own)
	isCall(t, what, got, e, want, wantE)
	if v != top {
		t.Fatalf("%s: %v, want %v", what, v, top)
	}
	h.isUntouched(t, what)
	h.isOwn(t, what, got)
	return want, top, wantE
}

// set asks Set.
func set(t *testing.T, c api.Call, k int, v api.Value) (api.Call, api.Errno) {
	t.Helper()
	what := fmt.Sprintf("Set of %d to %v in %v", k, v, c)
	want, wantE := plainSet(c, k, v)
	h, own, _ := hand(c, nil)
	got, e := call.Set(own, k, v)
	isCall(t, what, got, e, want, wantE)
	h.isUntouched(t, what)
	h.isOwn(t, what, got)
	return want, wantE
}

// catch asks Catch.
func catch(t *testing.T, p *link.Program, c api.Call, kind string) (int, bool) {
	t.Helper()
	what := fmt.Sprintf("Catch of %q in %v", kind, c)
	want, wantOK := plainCatch(p, c, kind)
	h, own, _ := hand(c, nil)
	if at, ok := call.Catch(p, own, kind); at != want || ok != wantOK {
		t.Fatalf("%s: %d %v, want %d %v", what, at, ok, want, wantOK)
	}
	h.isUntouched(t, what)
	return want, wantOK
}

// fits asks Fits.
func fits(t *testing.T, p *link.Program, l []api.Object, c api.Call) bool {
	t.Helper()
	what := fmt.Sprintf("Fits of %v", c)
	want := plainFits(p, l, c)
	h, own, words := hand(c, valuesOf("1 i1"))
	objects := append(slices.Clone(l), api.Object{Type: "b", Words: words})[:len(l)]
	for k := range objects {
		if objects[k].Type != "" {
			objects[k].Words = words
		}
	}
	if ok := call.Fits(p, objects, own); ok != want {
		f, _ := plainFrame(p, c)
		t.Fatalf("%s: %v, want %v; the frame is %v", what, ok, want, f)
	}
	h.isUntouched(t, what)
	for k, x := range objects[:len(l)+1] {
		if k < len(l) && x.Type != l[k].Type || k == len(l) && x.Type != "b" {
			t.Fatalf("%s: changed the heap at %d to %v", what, k, x)
		}
	}
	return want
}

// copied asks Copy.
func copied(t *testing.T, c api.Call) {
	t.Helper()
	what := fmt.Sprintf("Copy of %v", c)
	h, own, _ := hand(c, nil)
	got := call.Copy(own)
	isCall(t, what, got, api.OK, c, api.OK)
	h.isUntouched(t, what)
	h.isOwn(t, what, got)
}

// is asks for a value.
func is[T comparable](t *testing.T, what string, got, want T) {
	t.Helper()
	if got != want {
		t.Errorf("%s: %v, want %v", what, got, want)
	}
}
