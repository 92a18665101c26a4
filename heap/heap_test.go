package heap_test

import (
	"fmt"
	"math/rand"
	"slices"
	"testing"

	"larch/api"
	"larch/heap"
)

// Tests of 15.1 to 15.3: ordinary heaps, and those at the edges.

func TestExample(t *testing.T) {
	a, b, c := object("a", 2, 1), object("b", 0, 2), object("c", 1, 3)
	putIs(t, nil, a, []api.Object{a}, 1, api.OK)
	putIs(t, []api.Object{a}, b, []api.Object{a, b}, 2, api.OK)
	freeIs(t, []api.Object{a, b}, 1, []api.Object{{}, b}, api.OK)
	putIs(t, []api.Object{{}, b}, c, []api.Object{c, b}, 1, api.OK)
}

// right are heaps that are right, by what they are.
func right() map[string][]api.Object {
	return map[string][]api.Object{
		"none":                            nil,
		"empty":                           {},
		"one object":                      heapOf("a:2"),
		"one object without words":        heapOf("a"),
		"an array":                        heapOf("[[I:3"),
		"many":                            heapOf("a:2 b c:1 [I:12 La;"),
		"the first one free":              heapOf("- b:2"),
		"free ones between":               heapOf("a:2 - b - - c:3"),
		"all free but the last":           but(many(4096, 3), numbers(1, 4095)...),
		"as many as may be":               many(4096, 0),
		"as many as may be, some free":    but(many(4096, 1), 1, 77, 4095),
		"one fewer":                       many(4095, 2),
		"as many words as may be":         {object("a", 65536, 1)},
		"one word fewer":                  {object("a", 65535, 1)},
		"as many words as may be, in two": {object("a", 65535, 1), {}, object("b", 1, 3)},
		"as many words as may be, in all": many(4096, 16),
		"as many words in many":           many(64, 1024),
		"as many in the last":             with(but(many(4096, 0), 2, 3), 4096, object("a", 65536, 4096)),
		"words of one empty and of one":   {{Type: "a", Words: []api.Value{}}, {Words: []api.Value{}}, {Type: " "}},
	}
}

// numbers are those from the first to the last.
func numbers(first, last int) []int {
	var l []int
	for n := first; n <= last; n++ {
		l = append(l, n)
	}
	return l
}

func TestCheck(t *testing.T) {
	for what, l := range right() {
		h := roomyHeap(l)
		if e := heap.Check(h); e != api.OK || !isRight(l) {
			t.Errorf("%s: %v", what, e)
		}
		isUntouched(t, "Check", h, l)
	}
	for what, l := range wrong() {
		h := roomyHeap(l)
		if e := heap.Check(h); e != api.ErrHeap || isRight(l) {
			t.Errorf("%s: %v", what, e)
		}
		isUntouched(t, "Check", h, l)
	}
}

// A free member has a word, at each place of a heap.
func TestCheckOfWordsAtEachPlace(t *testing.T) {
	for _, members := range []int{1, 2, 3, 40} {
		for n := range members {
			l := many(members, 2)
			l[n].Type = ""
			if e := heap.Check(l); e != api.ErrHeap {
				t.Errorf("%d of %d: %v", n+1, members, e)
			}
			l[n].Words = l[n].Words[:1]
			if e := heap.Check(l); e != api.ErrHeap {
				t.Errorf("%d of %d, with one word: %v", n+1, members, e)
			}
			l[n].Words = l[n].Words[:0]
			if e := heap.Check(l); e == api.OK != (n < members-1) {
				t.Errorf("%d of %d, without words: %v", n+1, members, e)
			}
		}
	}
	for _, n := range []int{1, 2, 77, 2048, 4095, 4096} {
		if e := heap.Check(with(many(4096, 0), n, object("", 1, 1))); e != api.ErrHeap {
			t.Errorf("%d of 4096: %v", n, e)
		}
	}
}

func TestWordsAndLive(t *testing.T) {
	for _, x := range []struct {
		text  string
		words int
		live  []int
	}{
		{"", 0, nil}, {"a", 0, []int{1}}, {"a:5", 5, []int{1}}, {"a:2 b:3", 5, []int{1, 2}}, {"- b:3", 3, []int{2}},
		{"a:2 - - b c:7", 9, []int{1, 4, 5}}, {"-", 0, nil}, {"- - -", 0, nil}, {"a:1 -", 1, []int{1}}, {"-:4", 4, nil},
		{"a:1 -:2 b:3 -:4", 10, []int{1, 3}}, {"- - - - a", 0, []int{5}},
	} {
		l := heapOf(x.text)
		if n := heap.Words(l); n != x.words {
			t.Errorf("Words(%s): %d, want %d", x.text, n, x.words)
		}
		if live := heap.Live(l); !slices.Equal(live, x.live) {
			t.Errorf("Live(%s): %v, want %v", x.text, live, x.live)
		}
	}
}

// countIs holds Words and Live against a plain count.
func countIs(t *testing.T, what string, l []api.Object) {
	t.Helper()
	h := roomyHeap(l)
	words, live := 0, []int(nil)
	for k, x := range l {
		words += len(x.Words)
		if x.Type != "" {
			live = append(live, k+1)
		}
	}
	if n := heap.Words(h); n != words {
		t.Errorf("%s: Words %d, want %d", what, n, words)
	}
	told := heap.Live(h)
	if !slices.Equal(told, live) {
		t.Errorf("%s: Live %v, want %v", what, told, live)
	}
	isUntouched(t, what, h, l)
	for k := range told {
		told[k] = -1
	}
	if again := heap.Live(h); !slices.Equal(again, live) {
		t.Errorf("%s: Live again %v, want %v", what, again, live)
	}
}

func TestWordsAndLiveOfAll(t *testing.T) {
	for what, l := range right() {
		countIs(t, what, l)
	}
	for what, l := range wrong() {
		countIs(t, what, l)
	}
	countIs(t, "twice as many words", many(2, 65536))
	countIs(t, "many more", many(9000, 30))
	countIs(t, "all free, with words", slices.Repeat([]api.Object{object("", 3, 1)}, 5000))
}

func TestPut(t *testing.T) {
	for _, x := range []struct {
		text string
		n    int
	}{
		{"", 1}, {"a", 2}, {"a:3 b:2", 3}, {"- b", 1}, {"a - b", 2}, {"- - - b:1", 1}, {"a - - b:1", 2}, {"a:1 - b - c - d", 2}, {"a b - c", 3}, {"a b c d e", 6},
	} {
		for size := range 4 {
			l, o := heapOf(x.text), object("o", size, 99)
			want := with(append(slices.Clone(l), api.Object{})[:max(len(l), x.n)], x.n, o)
			putIs(t, l, o, want, x.n, api.OK)
			putIsPlain(t, l, o)
		}
	}
}

func TestPutOfManyMembers(t *testing.T) {
	full, o := many(4096, 1), object("o", 2, 99)
	putIs(t, full[:4095], o, append(slices.Clone(full[:4095]), o), 4096, api.OK)
	putIs(t, full[:4094], o, append(slices.Clone(full[:4094]), o), 4095, api.OK)
	putIs(t, full, o, nil, 0, api.ErrFull)
	putIs(t, full, object("o", 0, 1), nil, 0, api.ErrFull)
	for _, n := range []int{1, 2, 77, 4094, 4095} {
		putIs(t, but(full, n), o, with(full, n, o), n, api.OK)
		putIs(t, but(full, n, 4095), o, with(but(full, 4095), n, o), n, api.OK)
	}
	putIs(t, but(full, numbers(1, 4095)...), o, with(but(full, numbers(1, 4095)...), 1, o), 1, api.OK)
}

// Just as many words as there is room for, and one more; with free numbers, behind all, and in a heap that is full.
func TestPutOfManyWords(t *testing.T) {
	for what, l := range map[string][]api.Object{
		"none": nil, "one": heapOf("a:7"), "many": heapOf("a:7 b c:1000"), "free ones": heapOf("a:7 - b:9 - c"), "the first one free": heapOf("- a:65535"), "as many as may be": but(many(4096, 15), 4000),
		"all but one": {object("a", 65535, 1)}, "all": {object("a", 65536, 1)}, "all, with a free one": {object("a", 30000, 1), {}, object("b", 35536, 3)}, "all, in many": but(with(many(4096, 16), 9, object("a", 32, 9)), 3),
	} {
		room := 65536 - plainOf(l).words()
		for _, size := range []int{0, 1, room - 1, room, room + 1, room + 2, 65535, 65536, 65537, 70000} {
			if size < 0 {
				continue
			}
			o := object("o", size, 99)
			_, n, e := heap.Put(l, o)
			if ok := e == api.OK; ok != (size <= room) || ok != (n > 0) || !ok && e != api.ErrFull {
				t.Errorf("%s, with %d words where there is room for %d: %d %v", what, size, room, n, e)
			}
			putIsPlain(t, l, o)
		}
	}
	full := but(with(many(4096, 16), 9, object("a", 32, 9)), 3)
	putIs(t, full, object("o", 0, 99), with(full, 3, object("o", 0, 99)), 3, api.OK)
	putIs(t, full, object("o", 1, 99), nil, 0, api.ErrFull)
}

func TestGetAndWord(t *testing.T) {
	l := heapOf("a:3 - b c:2 [I:65000 - d:1")
	for k, x := range l {
		e := api.OK
		if x.Type == "" {
			e = api.ErrHeap
		}
		getIs(t, l, k+1, x, e)
		for i, v := range x.Words {
			wordIs(t, l, k+1, i, v, api.OK)
			if i > 30 {
				break
			}
		}
	}
	wordIs(t, l, 5, 64999, l[4].Words[64999], api.OK)
	wordIs(t, l, 5, 65000, api.Value{}, api.ErrHeap)
	l = many(4096, 16)
	for _, n := range []int{1, 2, 77, 4095, 4096} {
		getIs(t, l, n, l[n-1], api.OK)
		wordIs(t, l, n, 0, l[n-1].Words[0], api.OK)
		wordIs(t, l, n, 15, l[n-1].Words[15], api.OK)
		wordIs(t, l, n, 16, api.Value{}, api.ErrHeap)
	}
}

// Each word of a kind can be set to each number of that kind, and to no value of another kind.
func TestSet(t *testing.T) {
	l := []api.Object{object("a", 1, 1), {}, object("b", 2*len(kinds()), 2), object("c", 0, 3)}
	for k, was := range l[2].Words {
		for _, kind := range kinds() {
			for _, n := range []int{0, 1, -1, was.N, was.N + 1, mostLong, leastLong} {
				v := api.Value{Kind: kind, N: n}
				if kind != was.Kind {
					setIs(t, l, 3, k, v, nil, api.ErrHeap)
					continue
				}
				words := slices.Clone(l[2].Words)
				words[k] = v
				setIs(t, l, 3, k, v, with(l, 3, api.Object{Type: "b", Words: words}), api.OK)
			}
		}
		for _, kind := range []int{was.Kind + 1, was.Kind - 1, was.Kind ^ 1<<32, was.Kind ^ leastLong, ^was.Kind} {
			setIs(t, l, 3, k, api.Value{Kind: kind, N: was.N}, nil, api.ErrHeap)
		}
	}
}

func TestSetOfMany(t *testing.T) {
	l := many(4096, 16)
	for _, n := range []int{1, 2, 2048, 4095, 4096} {
		for _, k := range []int{0, 7, 15} {
			v := api.Value{Kind: l[n-1].Words[k].Kind, N: 5}
			setIsPlain(t, l, n, k, v)
			m, _ := heap.Set(l, n, k, v)
			wordIs(t, m, n, k, v, api.OK)
		}
	}
	l = []api.Object{object("a", 65536, 1)}
	for _, k := range []int{0, 1, 65534, 65535} {
		setIsPlain(t, l, 1, k, api.Value{Kind: l[0].Words[k].Kind, N: 5})
	}
	setIs(t, l, 1, 65536, l[0].Words[0], nil, api.ErrHeap)
}

// Rows: a heap, a number, and the heap without its object.
func TestFree(t *testing.T) {
	for _, x := range []struct {
		text string
		n    int
		want int // members that are there behind it
	}{
		{"a:2 b:1 c", 2, 3}, {"a:2 b:1 c", 1, 3}, {"a:2 b:1 c", 3, 2}, {"a:2 b:1 - c:1", 4, 2}, {"a:2 - - - b", 5, 1}, {"a:2", 1, 0}, {"a", 1, 0}, {"- - a:3", 3, 0}, {"- a", 2, 0},
		{"a - b - c", 1, 5}, {"a - b - c", 3, 5}, {"a - b - c", 5, 3}, {"- a - - b:1 - c", 5, 7}, {"- a - - b:1 - c", 7, 5},
	} {
		l := heapOf(x.text)
		freeIs(t, l, x.n, but(l, x.n)[:x.want], api.OK)
		freeIsPlain(t, l, x.n)
	}
}

func TestFreeOfMany(t *testing.T) {
	l := many(4096, 16)
	for _, n := range []int{1, 2, 2048, 4095} {
		freeIs(t, l, n, but(l, n), api.OK)
	}
	freeIs(t, l, 4096, l[:4095], api.OK)
	freeIs(t, but(l, 4095), 4096, l[:4094], api.OK)
	freeIs(t, but(l, numbers(2, 4095)...), 4096, l[:1], api.OK)
	freeIs(t, but(l, numbers(1, 4095)...), 4096, nil, api.OK)
	freeIs(t, []api.Object{object("a", 65536, 1)}, 1, nil, api.OK)
}

// arrayIs holds Array against the chapter's words.
func arrayIs(t *testing.T, kind string, size int) {
	t.Helper()
	want, wantE := plainArray(kind, size)
	x, e := heap.Array(kind, size)
	if !alikeObject(x, want) || e != wantE {
		t.Errorf("Array(%q, %d): %s %v, want %s %v", kind, size, told([]api.Object{x}), e, told([]api.Object{want}), wantE)
	}
}

func TestArray(t *testing.T) {
	for _, kind := range []string{
		"[I", "[B", "[J", "[[I", "[[B", "[[J", "[La;", "a", "java/lang/Object", "Throwable", "[", "I", "B", "J", "[i", "[j", "[II", "[JJ", " [I", "[I ", "[C", "[S", "[Z", "\x00", "\xff[J", "",
	} {
		for _, size := range []int{0, 1, 2, 3, 255, 65535, 65536, 65537, 65538, 1 << 17, 1 << 31, 1 << 32, 1<<32 + 1, 1 << 62, mostLong, -1, -2, -65536, -1 << 31, -1 << 32, -1<<32 + 1, leastLong} {
			arrayIs(t, kind, size)
		}
	}
}

// Rows: a Type, and the kind of its words.
func TestArrayByHand(t *testing.T) {
	for kind, want := range map[string]int{"[I": api.KInt, "[B": api.KInt, "[J": api.KLong, "[[I": api.KRef, "[[J": api.KRef, "[La;": api.KRef, "a": api.KRef, "J": api.KRef} {
		x, e := heap.Array(kind, 3)
		if v := (api.Value{Kind: want}); e != api.OK || !alikeObject(x, api.Object{Type: kind, Words: []api.Value{v, v, v}}) {
			t.Errorf("Array(%q, 3): %v %v", kind, x, e)
		}
		scribble([]api.Object{x}, 1)
		if y, e := heap.Array(kind, 3); e != api.OK || y.Words[2] != (api.Value{Kind: want}) {
			t.Errorf("Array(%q, 3), again: %v %v", kind, y, e)
		}
		putIs(t, nil, api.Object{Type: kind, Words: make([]api.Value, 3)}, []api.Object{{Type: kind, Words: make([]api.Value, 3)}}, 1, api.OK)
	}
}

// small hands out all heaps, right and wrong, of up to so many members of five kinds.
func small(members int, yield func([]api.Object)) {
	var grow func([]api.Object)
	grow = func(l []api.Object) {
		yield(l)
		if len(l) == members {
			return
		}
		for _, x := range []api.Object{{}, object("", 1, len(l)), object("a", 0, len(l)), object("b", 1, len(l)), object("c", 3, len(l))} {
			grow(append(slices.Clone(l), x))
		}
	}
	grow(nil)
}

func TestAllSmallHeapsAgainstPlain(t *testing.T) {
	small(4, func(l []api.Object) {
		if e := heap.Check(l); e != plainCheck(l) {
			t.Fatalf("Check(%s): %v", told(l), e)
		}
		countIs(t, told(l), l)
		for _, x := range []api.Object{{}, object("", 2, 9), object("x", 0, 9), object("y", 2, 9)} {
			putIsPlain(t, l, x)
		}
		for n := -2; n < 7; n++ {
			getIsPlain(t, l, n)
			freeIsPlain(t, l, n)
			for k := -2; k < 5; k++ {
				wordIsPlain(t, l, n, k)
				for _, kind := range kinds()[:4] {
					setIsPlain(t, l, n, k, api.Value{Kind: kind, N: 99})
				}
			}
		}
	})
}

// randomHeap has any of its numbers free, and its last member may be.
func randomHeap(r *rand.Rand, members, size int) []api.Object {
	l := make([]api.Object, r.Intn(members+1))
	for k := range l {
		if r.Intn(3) > 0 {
			l[k] = object(fmt.Sprint("c", k), r.Intn(size+1), k)
		}
	}
	return l
}

func TestRandomHeapsAgainstPlain(t *testing.T) {
	r := rand.New(rand.NewSource(151))
	for range 4000 {
		l := randomHeap(r, 30, 20)
		if e := heap.Check(l); e != plainCheck(l) {
			t.Fatalf("Check(%s): %v", told(l), e)
		}
		putIsPlain(t, l, object("x", r.Intn(9), 99))
		for range 5 {
			n, k := r.Intn(34)-1, r.Intn(24)-1
			getIsPlain(t, l, n)
			freeIsPlain(t, l, n)
			wordIsPlain(t, l, n, k)
			v, _ := plainWord(l, n, k)
			setIsPlain(t, l, n, k, api.Value{Kind: v.Kind, N: r.Int()})
			setIsPlain(t, l, n, k, api.Value{Kind: r.Intn(6), N: r.Int()})
		}
	}
}
