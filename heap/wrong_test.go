package heap_test

import (
	"slices"
	"testing"

	"larch/api"
	"larch/heap"
)

// Tests of what is refused: that nothing is told beside it, and which error comes first.

// strange are numbers that no heap of fewer than 4096 members has.
func strange() []int {
	return []int{0, -1, -2, -3, -4096, -65536, -1 << 31, -1 << 32, -1<<32 + 1, leastLong, leastLong + 1, 4096, 4097, 65536, 1<<31 - 1, 1 << 31, 1 << 32, 1<<32 + 1, 1<<32 + 2, 1 << 62, mostLong - 1, mostLong}
}

// All calls refuse a heap that is not right, whatever else they are handed.
func TestWrongHeaps(t *testing.T) {
	for _, l := range wrong() {
		for _, x := range []api.Object{object("o", 2, 1), object("o", 0, 1), {}, object("", 2, 1), object("o", 65537, 1)} {
			putIs(t, l, x, nil, 0, api.ErrHeap)
		}
		for _, n := range []int{1, 2, 4, len(l), len(l) + 1, 0, -1, leastLong, mostLong} {
			getIs(t, l, n, api.Object{}, api.ErrHeap)
			freeIs(t, l, n, nil, api.ErrHeap)
			for _, k := range []int{0, 1, -1} {
				wordIs(t, l, n, k, api.Value{}, api.ErrHeap)
				setIs(t, l, n, k, api.Value{Kind: api.KInt}, nil, api.ErrHeap)
			}
		}
	}
}

// Each number and place of a heap that is not right, with a value of the kind that is there.
func TestWrongHeapsAtEachPlace(t *testing.T) {
	for _, text := range []string{"a:2 b:1 -", "a:2 -:1 b:3", "-:2 a:2", "a:1 -:1", "-:1", "a:3 - - b:1 -"} {
		l := heapOf(text)
		for k, x := range l {
			getIs(t, l, k+1, api.Object{}, api.ErrHeap)
			freeIs(t, l, k+1, nil, api.ErrHeap)
			for i, v := range x.Words {
				wordIs(t, l, k+1, i, api.Value{}, api.ErrHeap)
				setIs(t, l, k+1, i, v, nil, api.ErrHeap)
			}
		}
	}
}

// An object without a Type is refused ahead of a heap that is full.
func TestPutWithoutType(t *testing.T) {
	full := many(4096, 16)
	for _, l := range [][]api.Object{nil, {}, heapOf("a:2"), heapOf("a - b"), many(4095, 1), full, but(full, 7), {object("a", 65536, 1)}, {object("a", 65535, 1)}} {
		for _, size := range []int{0, 1, 2, 65536, 65537} {
			putIs(t, l, object("", size, 9), nil, 0, api.ErrArg)
		}
	}
	putIs(t, heapOf("-"), api.Object{}, nil, 0, api.ErrHeap)
}

// A heap that is full is told in the same way, whether it lacks room for the object, its words, or both.
func TestPutIntoFull(t *testing.T) {
	full := many(4096, 16)
	for _, size := range []int{0, 1, 16, 65536, 65537} {
		putIs(t, full, object("o", size, 9), nil, 0, api.ErrFull)
		putIs(t, many(4096, 0), object("o", size, 9), nil, 0, api.ErrFull)
	}
	putIs(t, nil, object("o", 65537, 9), nil, 0, api.ErrFull)
	putIs(t, nil, object("o", 65536, 9), []api.Object{object("o", 65536, 9)}, 1, api.OK)
}

func TestNumbersThatThereAreNot(t *testing.T) {
	for _, l := range [][]api.Object{nil, {}, heapOf("a:2"), heapOf("a:2 - b:3"), heapOf("- a:1"), many(4095, 1)} {
		for _, n := range append(strange(), len(l)+1, len(l)+2) {
			noObject(t, l, n)
		}
	}
	full := many(4096, 2)
	for _, n := range strange() {
		if n != 4096 {
			noObject(t, full, n)
		}
	}
	getIs(t, full, 4096, full[4095], api.OK)
}

// noObject asks for what is told of a number of which there is no object.
func noObject(t *testing.T, l []api.Object, n int) {
	t.Helper()
	getIs(t, l, n, api.Object{}, api.ErrHeap)
	freeIs(t, l, n, nil, api.ErrHeap)
	for _, k := range []int{0, 1, -1, leastLong, mostLong} {
		wordIs(t, l, n, k, api.Value{}, api.ErrHeap)
		for _, kind := range kinds()[:4] {
			setIs(t, l, n, k, api.Value{Kind: kind, N: 1}, nil, api.ErrHeap)
		}
	}
}

func TestFreeNumbers(t *testing.T) {
	for _, text := range []string{"- a:1", "a:2 - b:3", "a - - - b", "- - - - a:1"} {
		l := heapOf(text)
		for k, x := range l {
			if x.Type == "" {
				noObject(t, l, k+1)
			}
		}
	}
	full := but(many(4096, 1), 1, 77, 4095)
	for _, n := range []int{1, 77, 4095} {
		noObject(t, full, n)
	}
}

func TestPlacesThatThereAreNot(t *testing.T) {
	for _, size := range []int{0, 1, 2, 5, 65535, 65536} {
		l := []api.Object{object("a", size, 1)}
		for _, k := range append(strange(), size, size+1) {
			if 0 <= k && k < size {
				continue
			}
			wordIs(t, l, 1, k, api.Value{}, api.ErrHeap)
			for _, kind := range kinds()[:4] {
				setIs(t, l, 1, k, api.Value{Kind: kind}, nil, api.ErrHeap)
			}
		}
		if size > 0 {
			last := l[0].Words[size-1]
			wordIs(t, l, 1, 0, l[0].Words[0], api.OK)
			wordIs(t, l, 1, size-1, last, api.OK)
			setIs(t, l, 1, size-1, last, l, api.OK)
		}
	}
}

// A place that one object has not is not one of the next object's.
func TestPlacesOfOneObjectAlone(t *testing.T) {
	l := heapOf("a:2 b:3 c - d:1")
	for n, x := range l {
		for k := -3; k < 7; k++ {
			if k < 0 || k >= len(x.Words) {
				wordIs(t, l, n+1, k, api.Value{}, api.ErrHeap)
				setIs(t, l, n+1, k, api.Value{Kind: api.KInt}, nil, api.ErrHeap)
			}
		}
	}
}

// What is refused changes nothing: the heap is as good as before, for all that comes behind.
func TestRefusedChangesNothing(t *testing.T) {
	l := roomyHeap(heapOf("a:2 - b:3"))
	was := roomyHeap(l)
	heap.Put(l, api.Object{})
	heap.Put(l, object("o", 65537, 1))
	heap.Get(l, 2)
	heap.Word(l, 1, 2)
	heap.Set(l, 3, 0, api.Value{Kind: api.KRef})
	heap.Set(l, 2, 0, api.Value{})
	heap.Free(l, 2)
	heap.Free(l, 4)
	isUntouched(t, "what is refused", l, was)
	putIsPlain(t, l, object("o", 1, 7))
	freeIsPlain(t, l, 3)
}

// Members that share words with one another when they are handed in do not share them in what is answered.
func TestHandedInTogether(t *testing.T) {
	words := []api.Value{{Kind: api.KInt, N: 1}, {Kind: api.KInt, N: 2}}
	l := []api.Object{{Type: "a", Words: words}, {Type: "b", Words: words}, {Type: "c", Words: words[1:]}}
	v := api.Value{Kind: api.KInt, N: 9}
	m, e := heap.Set(l, 1, 1, v)
	want := []api.Object{{Type: "a", Words: []api.Value{words[0], v}}, {Type: "b", Words: words}, {Type: "c", Words: words[1:]}}
	if e != api.OK || !alike(m, want) {
		t.Errorf("Set: %s %v", told(m), e)
	}
	isOwn(t, "Set", m)
	m, n, e := heap.Put(l, l[0])
	if e != api.OK || n != 4 || !alike(m, append(slices.Clone(l), l[0])) {
		t.Errorf("Put: %s %d %v", told(m), n, e)
	}
	isOwn(t, "Put", m)
	m, e = heap.Free(l, 1)
	if e != api.OK || !alike(m, but(l, 1)) {
		t.Errorf("Free: %s %v", told(m), e)
	}
	isOwn(t, "Free", m)
	if !slices.Equal(words, []api.Value{{Kind: api.KInt, N: 1}, {Kind: api.KInt, N: 2}}) {
		t.Errorf("the words: %v", words)
	}
}
