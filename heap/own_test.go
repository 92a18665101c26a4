package heap_test

import (
	"fmt"
	"math"
	"slices"
	"strconv"
	"strings"
	"testing"

	"larch/api"
	"larch/heap"
)

// What the tests share. Each call that they make of Put, Get, Set and Free is asked, too, whether it changed what it was given,
// whether what it answers is memory of its own, and, where it is refused, whether it answers nothing beside that.

const (
	leastLong = math.MinInt64
	mostLong  = math.MaxInt64
)

// heapOf is the heap that a text tells: of each member its Type and how many words it has ("a:2"; "a" has none), - if it is free.
// No two of its words are the same.
func heapOf(text string) []api.Object {
	var l []api.Object
	for k, s := range strings.Fields(text) {
		kind, size, _ := strings.Cut(s, ":")
		n, _ := strconv.Atoi(size)
		if kind == "-" {
			kind = ""
		}
		l = append(l, object(kind, n, k+1))
	}
	return l
}

// kinds are those that words have, and some that no layer knows.
func kinds() []int {
	return []int{api.KInt, api.KLong, api.KRef, api.KTop, api.KNull, 5, 77, -1, mostLong, leastLong}
}

// object is one with so many words; salt makes them others than those of another object.
func object(kind string, size, salt int) api.Object {
	x := api.Object{Type: kind}
	for k := range size {
		x.Words = append(x.Words, api.Value{Kind: kinds()[k%len(kinds())], N: salt<<20 + k + 1})
	}
	return x
}

// many is a heap of so many objects, with so many words each.
func many(members, size int) []api.Object {
	l := make([]api.Object, members)
	for k := range l {
		l[k] = object("c"+strconv.Itoa(k), size, k+1)
	}
	return l
}

// but is a heap whose members of these numbers are free.
func but(l []api.Object, numbers ...int) []api.Object {
	m := slices.Clone(l)
	for _, n := range numbers {
		m[n-1] = api.Object{}
	}
	return m
}

// with is a list with another member at that number.
func with(l []api.Object, n int, x api.Object) []api.Object {
	m := slices.Clone(l)
	m[n-1] = x
	return m
}

// wrong are heaps that are not right, by what is wrong with them.
func wrong() map[string][]api.Object {
	l := map[string][]api.Object{
		"one too many":              many(4097, 0),
		"one too many, some free":   but(many(4097, 1), 1, 77, 4096),
		"two times as many":         many(8192, 0),
		"the only one is free":      heapOf("-"),
		"all are free":              heapOf("- - -"),
		"the last one is free":      heapOf("a:2 b -"),
		"the last two are free":     heapOf("a:2 - b:1 - -"),
		"full, but the last":        but(many(4096, 1), 4096),
		"the only one, with a word": heapOf("-:1"),
		"the last one, with a word": heapOf("a:1 b -:1"),
		"a word too many":           {object("a", 65537, 1)},
		"a word too many in two":    {object("a", 65536, 1), object("b", 1, 2)},
		"a word too many in many":   append(many(64, 1024), object("b", 1, 65)),
		"a word too many, full":     with(many(4096, 16), 77, object("b", 17, 77)),
		"words of a free one alone": with(heapOf("a b"), 1, object("", 65537, 1)),
		"too many in all":           with(but(many(4097, 17), 9, 4097), 9, object("", 1, 9)),
	}
	for _, k := range []int{1, 2, 3, 4} {
		for _, size := range []int{1, 2, 65536} {
			l[fmt.Sprintf("a free one at %d with %d words", k, size)] = with(heapOf("a b c d e"), k, object("", size, k))
			l[fmt.Sprintf("a free one of many at %d with %d words", k, size)] = with(but(heapOf("a b c d e"), 1, 2, 3, 4), k, object("", size, k))
		}
	}
	return l
}

// alike holds if two lists have the same members; a list without words may be nil or empty.
func alike(l, m []api.Object) bool { return slices.EqualFunc(l, m, alikeObject) }

func alikeObject(x, y api.Object) bool { return x.Type == y.Type && slices.Equal(x.Words, y.Words) }

// told is a heap, short enough to be read.
func told(l []api.Object) string {
	s := fmt.Sprint(l)
	if len(s) > 400 {
		s = s[:400] + fmt.Sprintf(" .. (%d members, %d words)", len(l), heap.Words(l))
	}
	return s
}

// roomy is a copy of a list with room behind it, where something lies that is not to be touched.
func roomy[T any](l []T, x T) []T {
	m := append(slices.Clone(l), x, x, x)
	return m[:len(l)]
}

// roomyObject and roomyHeap are copies whose lists have such room.
func roomyObject(x api.Object) api.Object {
	x.Words = roomy(x.Words, api.Value{Kind: 9, N: 9})
	return x
}

func roomyHeap(l []api.Object) []api.Object {
	m := roomy(l, api.Object{Type: "behind"})
	for k, x := range m {
		m[k] = roomyObject(x)
	}
	return m
}

// isBehind asks for what lies in the room behind a list.
func isBehind[T comparable](t *testing.T, what string, l []T, x T) {
	t.Helper()
	for _, y := range l[len(l) : len(l)+3] {
		if y != x {
			t.Fatalf("%s: changed behind a list that was handed in", what)
		}
	}
}

// isUntouched asks whether a roomy heap is as it was, with what lies behind it.
func isUntouched(t *testing.T, what string, l, was []api.Object) {
	t.Helper()
	if !alike(l, was) {
		t.Fatalf("%s: changed the heap to %s", what, told(l))
	}
	for _, x := range l {
		isBehind(t, what, x.Words, api.Value{Kind: 9, N: 9})
	}
	for _, x := range l[len(l) : len(l)+3] {
		if !alikeObject(x, api.Object{Type: "behind"}) {
			t.Fatalf("%s: changed behind the heap", what)
		}
	}
}

// mark is what scribble writes at a place.
func mark(salt, k, i int) api.Value { return api.Value{Kind: -7 - salt, N: k<<20 + i} }

// scribble writes over all that a heap has, and over the room behind each of its lists, at each place something else.
func scribble(l []api.Object, salt int) {
	l = l[:cap(l)]
	for k, x := range l {
		l[k].Type = "changed " + strconv.Itoa(salt)
		for i := range x.Words[:cap(x.Words)] {
			x.Words[:cap(x.Words)][i] = mark(salt, k, i)
		}
	}
}

// isScribbled holds if all that scribble wrote is there.
func isScribbled(l []api.Object, salt int) bool {
	for k, x := range l[:cap(l)] {
		if x.Type != "changed "+strconv.Itoa(salt) {
			return false
		}
		for i, v := range x.Words[:cap(x.Words)] {
			if v != mark(salt, k, i) {
				return false
			}
		}
	}
	return true
}

// isOwn asks whether what was answered is memory of its own, and each list of it, too: changing what was handed in does not
// change it, nor the other way round.
func isOwn(t *testing.T, what string, answer []api.Object, handed ...[]api.Object) {
	t.Helper()
	want := roomyHeap(answer)
	for n, l := range handed {
		scribble(l, n+1)
	}
	if !alike(answer, want) {
		t.Fatalf("%s: what was answered changes with what was handed in", what)
	}
	scribble(answer, 0)
	if !isScribbled(answer, 0) {
		t.Fatalf("%s: two lists of the answer share memory", what)
	}
	for n, l := range handed {
		if !isScribbled(l, n+1) {
			t.Fatalf("%s: what was handed in changes with what was answered", what)
		}
	}
}

// putIs holds Put against what is wanted.
func putIs(t *testing.T, l []api.Object, x api.Object, want []api.Object, wantN int, wantE api.Errno) {
	t.Helper()
	h, y := roomyHeap(l), roomyObject(x)
	m, n, e := heap.Put(h, y)
	if !alike(m, want) || n != wantN || e != wantE {
		t.Fatalf("Put(%s, %s): %s %d %v, want %s %d %v", told(l), told([]api.Object{x}), told(m), n, e, told(want), wantN, wantE)
	}
	isUntouched(t, "Put", h, l)
	if !alikeObject(x, y) {
		t.Fatalf("Put: changed the object to %s", told([]api.Object{y}))
	}
	isBehind(t, "Put", y.Words, api.Value{Kind: 9, N: 9})
	isRightBehind(t, "Put", m, e)
	isOwn(t, "Put", m, h, []api.Object{y})
}

// getIs holds Get against what is wanted.
func getIs(t *testing.T, l []api.Object, n int, want api.Object, wantE api.Errno) {
	t.Helper()
	h := roomyHeap(l)
	x, e := heap.Get(h, n)
	if !alikeObject(x, want) || e != wantE {
		t.Fatalf("Get(%s, %d): %v %v, want %v %v", told(l), n, x, e, want, wantE)
	}
	isUntouched(t, "Get", h, l)
	isOwn(t, "Get", []api.Object{x}, h)
}

// wordIs holds Word against what is wanted.
func wordIs(t *testing.T, l []api.Object, n, k int, want api.Value, wantE api.Errno) {
	t.Helper()
	h := roomyHeap(l)
	if v, e := heap.Word(h, n, k); v != want || e != wantE {
		t.Fatalf("Word(%s, %d, %d): %v %v, want %v %v", told(l), n, k, v, e, want, wantE)
	}
	isUntouched(t, "Word", h, l)
}

// setIs holds Set against what is wanted.
func setIs(t *testing.T, l []api.Object, n, k int, v api.Value, want []api.Object, wantE api.Errno) {
	t.Helper()
	h := roomyHeap(l)
	m, e := heap.Set(h, n, k, v)
	if !alike(m, want) || e != wantE {
		t.Fatalf("Set(%s, %d, %d, %v): %s %v, want %s %v", told(l), n, k, v, told(m), e, told(want), wantE)
	}
	isUntouched(t, "Set", h, l)
	isRightBehind(t, "Set", m, e)
	isOwn(t, "Set", m, h)
}

// freeIs holds Free against what is wanted.
func freeIs(t *testing.T, l []api.Object, n int, want []api.Object, wantE api.Errno) {
	t.Helper()
	h := roomyHeap(l)
	m, e := heap.Free(h, n)
	if !alike(m, want) || e != wantE {
		t.Fatalf("Free(%s, %d): %s %v, want %s %v", told(l), n, told(m), e, told(want), wantE)
	}
	isUntouched(t, "Free", h, l)
	isRightBehind(t, "Free", m, e)
	isOwn(t, "Free", m, h)
}

// isRightBehind asks whether what comes of a right heap is one (15.7).
func isRightBehind(t *testing.T, what string, l []api.Object, e api.Errno) {
	t.Helper()
	if e == api.OK && (heap.Check(l) != api.OK || !isRight(l)) {
		t.Fatalf("%s: %s is not right", what, told(l))
	}
}

// The same, held against the chapter's words.

func putIsPlain(t *testing.T, l []api.Object, x api.Object) {
	t.Helper()
	m, n, e := plainPut(l, x)
	putIs(t, l, x, m, n, e)
}

func getIsPlain(t *testing.T, l []api.Object, n int) {
	t.Helper()
	x, e := plainGet(l, n)
	getIs(t, l, n, x, e)
}

func wordIsPlain(t *testing.T, l []api.Object, n, k int) {
	t.Helper()
	v, e := plainWord(l, n, k)
	wordIs(t, l, n, k, v, e)
}

func setIsPlain(t *testing.T, l []api.Object, n, k int, v api.Value) {
	t.Helper()
	m, e := plainSet(l, n, k, v)
	setIs(t, l, n, k, v, m, e)
}

func freeIsPlain(t *testing.T, l []api.Object, n int) {
	t.Helper()
	m, e := plainFree(l, n)
	freeIs(t, l, n, m, e)
}

// putAll is the heap of these objects, put one behind the other.
func putAll(t *testing.T, l []api.Object, objects ...api.Object) []api.Object {
	t.Helper()
	for _, x := range objects {
		m, _, e := heap.Put(l, x)
		if e != api.OK {
			t.Fatalf("Put(%s, %v): %v", told(l), x, e)
		}
		l = m
	}
	return l
}
