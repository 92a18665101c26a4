package gc_test

import (
	"fmt"
	"math"
	"math/rand"
	"slices"
	"strconv"
	"strings"
	"testing"

	"larch/api"
	"larch/gc"
	"larch/heap"
)

// What the tests share. Each call that they make is asked, too, whether it changed what it was given, and whether what it answers
// is memory of its own.

const (
	leastLong = math.MinInt64
	mostLong  = math.MaxInt64
)

// valuesOf are the values that a text tells: a number is a KRef; i, l, n, t ahead of one make it a KInt, KLong, KNull, KTop.
func valuesOf(text string) []api.Value {
	var l []api.Value
	for _, s := range strings.FieldsFunc(text, func(r rune) bool { return r == ' ' || r == ',' }) {
		v := api.Value{Kind: api.KRef}
		if k := strings.IndexByte("tiln", s[0]); k >= 0 {
			v.Kind, s = k, s[1:]
		}
		v.N, _ = strconv.Atoi(s)
		l = append(l, v)
	}
	return l
}

// heapOf is the heap that a text tells: of each member its Type and its words ("a:2,i5"; "a" has none), - if it is free.
func heapOf(text string) []api.Object {
	var l []api.Object
	for _, s := range strings.Fields(text) {
		kind, words, _ := strings.Cut(s, ":")
		if kind == "-" {
			kind = ""
		}
		l = append(l, api.Object{Type: kind, Words: valuesOf(words)})
	}
	return l
}

func ref(n int) api.Value { return api.Value{Kind: api.KRef, N: n} }

// sized is an object with so many words that lead nowhere.
func sized(kind string, size int) api.Object {
	return api.Object{Type: kind, Words: slices.Repeat([]api.Value{{Kind: api.KInt, N: 1}}, size)}
}

// many is a heap of so many objects with so many words each, the first of which leads to the next object.
func many(members, size int) []api.Object {
	l := make([]api.Object, members)
	for k := range l {
		l[k] = sized("c"+strconv.Itoa(k), size)
		if size > 0 {
			l[k].Words[0] = ref(k + 2)
		}
	}
	return l
}

// with is a list with another member at that number.
func with(l []api.Object, n int, x api.Object) []api.Object {
	m := slices.Clone(l)
	m[n-1] = x
	return m
}

// wrong are heaps that are not right, by what is wrong with them.
func wrong() map[string][]api.Object {
	l := map[string][]api.Object{
		"one too many":              many(4097, 1),
		"two times as many":         many(8192, 0),
		"the only one is free":      heapOf("-"),
		"all are free":              heapOf("- - -"),
		"the last one is free":      heapOf("a:2 b -"),
		"the last two are free":     heapOf("a:2 - b:1 - -"),
		"full, but the last":        with(many(4096, 1), 4096, api.Object{}),
		"the only one, with a word": heapOf("-:1"),
		"the last one, with a word": heapOf("a:1 b -:1"),
		"the first one with a word": heapOf("-:2 a:1"),
		"a free one with a word":    heapOf("a:3 -:1 b:1"),
		"a free one with words":     heapOf("a:3 - -:1,2,3 b:1"),
		"a word too many":           {sized("a", 65537)},
		"a word too many in two":    {sized("a", 65536), sized("b", 1)},
		"a word too many in many":   append(many(64, 1024), sized("b", 1)),
		"a word too many, full":     with(many(4096, 16), 77, sized("b", 17)),
		"words of a free one alone": with(heapOf("a b"), 1, sized("", 65537)),
		"too many in all":           with(many(4097, 17), 9, sized("", 1)),
	}
	return l
}

// right are heaps that are right, by what they are.
func right() map[string][]api.Object {
	return map[string][]api.Object{
		"none":                         nil,
		"empty":                        {},
		"one object":                   heapOf("a"),
		"one that leads to itself":     heapOf("a:1"),
		"one with other words":         heapOf("a:i1,l1,n1,t1"),
		"two that lead to each other":  heapOf("a:2 b:1"),
		"a ring":                       heapOf("a:2 b:3 c:4 d:5 e:1"),
		"a ring, and more":             heapOf("a:2 b:3,5 c:1 - d:6,6 e:5,1 f:1"),
		"a ring the other way":         heapOf("a:5 b:1 c:2 d:3 e:4"),
		"a tree":                       heapOf("a:2,3 b:4,5 c:6,7 d e f g"),
		"a tree, upside down":          heapOf("a b c d e:1,2 f:3,4 g:5,6"),
		"all lead to all":              heapOf("a:1,2,3,4 b:4,3,2,1 c:2,1,4,3 d:3,4,1,2"),
		"the first one free":           heapOf("- a:2,1,3 b:2"),
		"free ones between":            heapOf("a:2,3,4 - b:6,5 - - c:1"),
		"the example":                  heapOf("a:3 b c"),
		"words to nothing":             heapOf("a:0,2,9,-1,3 - b:1,-3,2,0"),
		"alike, but for their places":  heapOf("a:2,3 b:4 b:4 c"),
		"words empty, not nil":         {{Type: "a", Words: []api.Value{}}, {Words: []api.Value{}}, {Type: " ", Words: valuesOf("1")}},
		"no two kinds alike":           heapOf("a:1,i2,l2,n2,t2,2 b:i1,l1,n1,t1 c:3"),
		"lists longer than their heap": heapOf("a:1,1,1,1,1,1,1,2,1,1,1,1,2 b:1,1,1,1,1,2,2,2"),
	}
}

// great are heaps at the limits.
func great() map[string][]api.Object {
	l := with(many(4096, 1), 4096, heapOf("end:1")[0])
	back := many(4096, 1)
	for k := range back {
		back[k].Words[0] = ref(k)
	}
	wide := many(4096, 0)
	for n := range 61440 {
		wide[0].Words = append(wide[0].Words, ref(61440-n))
	}
	return map[string][]api.Object{
		"a chain": many(4096, 1), "a great ring": l, "a chain back": back, "one that leads to all": wide,
		"as many words as may be": many(4096, 16), "in one": {api.Object{Type: "a", Words: slices.Repeat(valuesOf("1"), 65536)}},
	}
}

// roots are values to begin with.
func roots() [][]api.Value {
	var l [][]api.Value
	for _, text := range []string{
		"", "1", "2", "3", "0", "-1", "1 2", "2 1", "1 1", "3 1 2", "2 2 1", "4", "5 4 3 2 1", "1 2 3 4 5 6 7 8", "7 1", "6 0 -2 1", "i1", "l1", "n1", "t1",
		"i1 l2 n3 t4", "i2 3 l1", "99 1", "0 0 0", "2 i2 2 l2 3 9 3", "4095 4096 4097 1", "9223372036854775807 -9223372036854775808 2",
	} {
		l = append(l, valuesOf(text))
	}
	return l
}

// randomValues are some that lead to objects of a heap of so many, mostly.
func randomValues(r *rand.Rand, members, size int) []api.Value {
	var l []api.Value
	for range r.Intn(size + 1) {
		v := ref(r.Intn(members+3) - 1)
		if r.Intn(4) == 0 {
			v.Kind = r.Intn(6)
		}
		l = append(l, v)
	}
	return l
}

// randomHeap is a right one.
func randomHeap(r *rand.Rand, members, size int) []api.Object {
	var l []api.Object
	n := r.Intn(members + 1)
	for k := range n {
		x := api.Object{}
		if r.Intn(4) > 0 || k == n-1 {
			x = api.Object{Type: "c" + strconv.Itoa(r.Intn(3)), Words: randomValues(r, n, size)}
		}
		l = append(l, x)
	}
	return l
}

// alike holds if two lists have the same members; a list without words may be nil or empty.
func alike(l, m []api.Object) bool {
	return slices.EqualFunc(l, m, func(x, y api.Object) bool { return x.Type == y.Type && slices.Equal(x.Words, y.Words) })
}

// told is a heap with values, short enough to be read.
func told(l []api.Object, values []api.Value) string {
	s := fmt.Sprint(l, values)
	if len(s) > 500 {
		s = s[:500] + fmt.Sprintf(" .. (%d members, %d words, %d values)", len(l), heap.Words(l), len(values))
	}
	return s
}

// behind is what lies in the room behind each list that is handed in.
var behind = api.Value{Kind: 9, N: 9}

// roomy is a copy of a list with room behind it, where something lies that is not to be touched.
func roomy[T any](l []T, x T) []T {
	m := append(slices.Clone(l), x, x, x)
	return m[:len(l)]
}

// handed is what a call was given: copies of a heap and of values, and what they are copies of.
type handed struct {
	l, was     []api.Object
	v, wereToo []api.Value
}

func hand(l []api.Object, values []api.Value) handed {
	h := handed{roomy(l, api.Object{Type: "behind"}), l, roomy(values, behind), values}
	for k, x := range h.l {
		h.l[k].Words = roomy(x.Words, behind)
	}
	return h
}

// isUntouched asks whether all is as it was, with what lies behind it.
func (h handed) isUntouched(t *testing.T, what string) {
	t.Helper()
	lists := [][]api.Value{h.v}
	for _, x := range h.l {
		lists = append(lists, x.Words)
	}
	for _, l := range lists {
		if tail := l[len(l) : len(l)+3]; tail[0] != behind || tail[1] != behind || tail[2] != behind {
			t.Fatalf("%s: changed behind a list that was handed in", what)
		}
	}
	for _, x := range h.l[len(h.l) : len(h.l)+3] {
		if x.Type != "behind" || x.Words != nil {
			t.Fatalf("%s: changed behind the heap", what)
		}
	}
	if !alike(h.l, h.was) || !slices.Equal(h.v, h.wereToo) {
		t.Fatalf("%s of %s: changed it to %s", what, told(h.was, h.wereToo), told(h.l, h.v))
	}
}

// lists are all lists of values that are told.
func lists(l []api.Object, values []api.Value) [][]api.Value {
	all := [][]api.Value{values[:cap(values)]}
	for _, x := range l[:cap(l)] {
		all = append(all, x.Words[:cap(x.Words)])
	}
	return all
}

// scribble writes over all that is told, at each place something else.
func scribble(l []api.Object, values []api.Value, salt int) {
	for k, list := range lists(l, values) {
		for i := range list {
			list[i] = api.Value{Kind: -7 - salt, N: k<<20 + i}
		}
	}
	for k := range l[:cap(l)] {
		l[:cap(l)][k].Type = "changed " + strconv.Itoa(salt)
	}
}

// isScribbled holds if all that scribble wrote is there.
func isScribbled(l []api.Object, values []api.Value, salt int) bool {
	for k, list := range lists(l, values) {
		for i, v := range list {
			if v != (api.Value{Kind: -7 - salt, N: k<<20 + i}) {
				return false
			}
		}
	}
	for _, x := range l[:cap(l)] {
		if x.Type != "changed "+strconv.Itoa(salt) {
			return false
		}
	}
	return true
}

// isOwn asks whether what was answered is memory of its own, and each list of it, too: changing what was handed in does not
// change it, nor the other way round.
func (h handed) isOwn(t *testing.T, what string, l []api.Object, values []api.Value) {
	t.Helper()
	want := hand(l, values)
	scribble(h.l, h.v, 1)
	if !alike(l, want.l) || !slices.Equal(values, want.v) {
		t.Fatalf("%s: what was answered changes with what was handed in", what)
	}
	scribble(l, values, 2)
	if !isScribbled(l, values, 2) {
		t.Fatalf("%s: two lists of the answer share memory", what)
	}
	if !isScribbled(h.l, h.v, 1) {
		t.Fatalf("%s: what was handed in changes with what was answered", what)
	}
}

// reachIs holds Reach against what is wanted.
func reachIs(t *testing.T, l []api.Object, values []api.Value, want []int, wantE api.Errno) {
	t.Helper()
	h := hand(l, values)
	order, e := gc.Reach(h.l, h.v)
	if !slices.Equal(order, want) || e != wantE {
		t.Fatalf("Reach(%s): %v %v, want %v %v", told(l, values), order, e, want, wantE)
	}
	h.isUntouched(t, "Reach")
	for k := range order {
		order[k] = -5
	}
	h.isUntouched(t, "Reach")
	if again, e := gc.Reach(h.l, h.v); !slices.Equal(again, want) || e != wantE {
		t.Fatalf("Reach(%s), once more: %v %v, want %v %v", told(l, values), again, e, want, wantE)
	}
}

// sweepIs holds Sweep against what is wanted.
func sweepIs(t *testing.T, l []api.Object, values []api.Value, want []api.Object, wantN int, wantE api.Errno) {
	t.Helper()
	h := hand(l, values)
	m, n, e := gc.Sweep(h.l, h.v)
	if !alike(m, want) || n != wantN || e != wantE {
		t.Fatalf("Sweep(%s): %s %d %v, want %s %d %v", told(l, values), told(m, nil), n, e, told(want, nil), wantN, wantE)
	}
	if heap.Check(m) != api.OK || !isRight(m) {
		t.Fatalf("Sweep(%s): %s is not right", told(l, values), told(m, nil))
	}
	h.isUntouched(t, "Sweep")
	h.isOwn(t, "Sweep", m, nil)
}

// canonIs holds Canon against what is wanted.
func canonIs(t *testing.T, l []api.Object, values []api.Value, want []api.Object, wantV []api.Value, wantE api.Errno) {
	t.Helper()
	h := hand(l, values)
	m, v, e := gc.Canon(h.l, h.v)
	if !alike(m, want) || !slices.Equal(v, wantV) || e != wantE {
		t.Fatalf("Canon(%s): %s %v, want %s %v", told(l, values), told(m, v), e, told(want, wantV), wantE)
	}
	if heap.Check(m) != api.OK || !isRight(m) {
		t.Fatalf("Canon(%s): %s is not right", told(l, values), told(m, v))
	}
	h.isUntouched(t, "Canon")
	h.isOwn(t, "Canon", m, v)
}

// sameIs holds Same against what is wanted, both ways round.
func sameIs(t *testing.T, l []api.Object, a []api.Value, m []api.Object, b []api.Value, want bool, wantE api.Errno) {
	t.Helper()
	for range 2 {
		g, h := hand(l, a), hand(m, b)
		is, e := gc.Same(g.l, g.v, h.l, h.v)
		if is != want || e != wantE {
			t.Fatalf("Same(%s, %s): %v %v, want %v %v", told(l, a), told(m, b), is, e, want, wantE)
		}
		g.isUntouched(t, "Same")
		h.isUntouched(t, "Same")
		l, a, m, b = m, b, l, a
	}
}

// asPlain holds Reach, Sweep and Canon against the chapter's words.
func asPlain(t *testing.T, l []api.Object, values []api.Value) {
	t.Helper()
	order, e := plainReach(l, values)
	reachIs(t, l, values, order, e)
	m, n, e := plainSweep(l, values)
	sweepIs(t, l, values, m, n, e)
	m, v, e := plainCanon(l, values)
	canonIs(t, l, values, m, v, e)
}

func sameAsPlain(t *testing.T, l []api.Object, a []api.Value, m []api.Object, b []api.Value) bool {
	t.Helper()
	want, e := plainSame(l, a, m, b)
	sameIs(t, l, a, m, b, want, e)
	return want
}
