package gc_test

import (
	"slices"
	"testing"

	"larch/api"
	"larch/gc"
)

// Tests of what is refused, and of lists that share memory when they are handed in.

// All calls refuse a heap that is not right, whatever the values are, and tell nothing beside that.
func TestWrongHeaps(t *testing.T) {
	for what, l := range wrong() {
		if isRight(l) {
			t.Fatalf("%s: is right", what)
		}
		for _, text := range []string{"", "1", "2 1", "0", "-1", "i1 4097", "1 1 1 4096"} {
			values := valuesOf(text)
			reachIs(t, l, values, nil, api.ErrHeap)
			sweepIs(t, l, values, nil, 0, api.ErrHeap)
			canonIs(t, l, values, nil, nil, api.ErrHeap)
			sameIs(t, l, values, l, values, false, api.ErrHeap)
			for _, m := range [][]api.Object{nil, {}, heapOf("a"), heapOf("a:2 - b:1"), wrong()["all are free"], wrong()["a free one with a word"]} {
				sameIs(t, l, values, m, values, false, api.ErrHeap)
				sameIs(t, l, nil, m, values, false, api.ErrHeap)
			}
		}
	}
}

// A free member has words, or the heap ends with one, at each place: also where nothing leads there.
func TestWrongAtEachPlace(t *testing.T) {
	for n := 1; n <= 6; n++ {
		l := with(many(6, 1), n, api.Object{Words: valuesOf("i1")})
		for _, values := range [][]api.Value{nil, valuesOf("1"), {ref(n)}, {ref(n - 1)}, valuesOf("6 5 4 3 2 1")} {
			reachIs(t, l, values, nil, api.ErrHeap)
			sweepIs(t, l, values, nil, 0, api.ErrHeap)
			canonIs(t, l, values, nil, nil, api.ErrHeap)
			sameIs(t, l, values, many(6, 1), values, false, api.ErrHeap)
			asPlain(t, with(l, n, api.Object{Type: "a"}), values)
		}
	}
}

// What is refused changes nothing, and the same lists are as good as before.
func TestRefusedChangesNothing(t *testing.T) {
	h := hand(heapOf("a:2 -:1 b:1"), valuesOf("1 3"))
	gc.Reach(h.l, h.v)
	gc.Sweep(h.l, h.v)
	gc.Canon(h.l, h.v)
	gc.Same(h.l, h.v, h.l, h.v)
	gc.Same(h.l, h.v, nil, nil)
	gc.Same(nil, nil, h.l, h.v)
	h.isUntouched(t, "what is refused")
	reachIs(t, heapOf("a:2 - b:1"), h.v, []int{1, 3}, api.OK)
}

// Members and values that share memory with one another when they are handed in do not share it in what is answered.
func TestHandedInTogether(t *testing.T) {
	words := valuesOf("2 3 1 i9")
	l := []api.Object{{Type: "a", Words: words}, {Type: "b", Words: words}, {Type: "c", Words: words[1:3]}, {Type: "d", Words: words}}
	asPlain(t, l, words)
	for range 2 {
		m, n, e := gc.Sweep(l, words)
		if want, wantN, wantE := plainSweep(l, words); !alike(m, want) || n != wantN || e != wantE || wantN != 1 {
			t.Fatalf("Sweep(%s): %s %d %v", told(l, words), told(m, nil), n, e)
		}
		handed{}.isOwn(t, "Sweep", m, nil)
		m, v, e := gc.Canon(l, words)
		if want, wantV, wantE := plainCanon(l, words); !alike(m, want) || !slices.Equal(v, wantV) || e != wantE {
			t.Fatalf("Canon(%s): %s %v", told(l, words), told(m, v), e)
		}
		handed{}.isOwn(t, "Canon", m, v)
		if is, e := gc.Same(l, words, l, words); !is || e != api.OK {
			t.Fatalf("Same(%s): %v %v", told(l, words), is, e)
		}
	}
	if !slices.Equal(words, valuesOf("2 3 1 i9")) {
		t.Errorf("the words: %v", words)
	}
}

// What was answered once stays as it was, whatever is asked behind it.
func TestAnswersStay(t *testing.T) {
	l, a := heapOf("a:2,3 b:3 c d:1"), valuesOf("1 9")
	order, _ := gc.Reach(l, a)
	swept, _, _ := gc.Sweep(l, a)
	canon, values, _ := gc.Canon(l, a)
	for _, text := range []string{"4", "3 2 1", "", "2 0"} {
		asPlain(t, l, valuesOf(text))
		asPlain(t, heapOf("x:2 y:1 z"), valuesOf(text))
	}
	if !slices.Equal(order, []int{1, 2, 3}) || !alike(swept, heapOf("a:2,3 b:3 c")) || !alike(canon, heapOf("a:2,3 b:3 c")) || !slices.Equal(values, valuesOf("1 0")) {
		t.Errorf("%v %v %v %v", order, swept, canon, values)
	}
}
