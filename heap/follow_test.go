package heap_test

import (
	"math/rand"
	"slices"
	"strconv"
	"testing"

	"larch/api"
	"larch/heap"
)

// Tests of 15.4 to 15.7: what follows.

// heaps hands out right heaps: those of right, small ones, and random ones.
func heaps(yield func([]api.Object) bool) {
	for _, l := range right() {
		if !yield(l) {
			return
		}
	}
	r := rand.New(rand.NewSource(154))
	for range 600 {
		l := append(randomHeap(r, 12, 6), object("end", r.Intn(3), 12))
		if !yield(l) {
			return
		}
	}
}

// some are numbers of a heap: all, or, of a great one, a few.
func some(l []api.Object) []int {
	if len(l) < 40 {
		return numbers(1, len(l))
	}
	return []int{1, 2, 3, len(l) / 2, len(l) - 1, len(l)}
}

// others asks whether all members but n are the same in two heaps, and free where one of them ends.
func others(t *testing.T, what string, l, m []api.Object, n int) {
	t.Helper()
	p, q := plainOf(l), plainOf(m)
	for i := 1; i <= max(len(l), len(m)); i++ {
		if i != n && !alikeObject(p[i], q[i]) {
			t.Fatalf("%s: object %d of %s is another one in %s", what, i, told(l), told(m))
		}
	}
}

// 15.4: what was put is got, and all else stays.
func TestPutIsGot(t *testing.T) {
	for l := range heaps {
		for _, size := range []int{0, 1, 5} {
			x := object("put", size, 500)
			m, n, e := heap.Put(l, x)
			if e == api.ErrFull {
				continue
			}
			if e != api.OK {
				t.Fatalf("Put(%s): %v", told(l), e)
			}
			getIs(t, m, n, x, api.OK)
			for k, v := range x.Words {
				wordIs(t, m, n, k, v, api.OK)
			}
			wordIs(t, m, n, size, api.Value{}, api.ErrHeap)
			getIs(t, l, n, api.Object{}, api.ErrHeap)
			others(t, "Put", l, m, n)
			if heap.Words(m) != heap.Words(l)+size || len(heap.Live(m)) != len(heap.Live(l))+1 || !slices.Contains(heap.Live(m), n) {
				t.Fatalf("Put(%s): %d words, %v live", told(l), heap.Words(m), heap.Live(m))
			}
			freed, e := heap.Free(m, n)
			if e != api.OK || !alike(freed, l) {
				t.Fatalf("Put(%s) and Free: %s %v", told(l), told(freed), e)
			}
		}
	}
}

// 15.5: what was freed is not there, and its number is given again where it is the least that is free.
func TestFreedIsGivenAgain(t *testing.T) {
	for l := range heaps {
		for _, n := range some(l) {
			x, e := heap.Get(l, n)
			if e != api.OK {
				continue
			}
			m, e := heap.Free(l, n)
			if e != api.OK {
				t.Fatalf("Free(%s, %d): %v", told(l), n, e)
			}
			noObject(t, m, n)
			others(t, "Free", l, m, n)
			if heap.Words(m) != heap.Words(l)-len(x.Words) || slices.Contains(heap.Live(m), n) || len(heap.Live(m)) != len(heap.Live(l))-1 {
				t.Fatalf("Free(%s, %d): %d words, %v live", told(l), n, heap.Words(m), heap.Live(m))
			}
			again, i, e := heap.Put(m, x)
			if least := plainOf(m).least(); e != api.OK || i != least || (i == n) != (n <= least) {
				t.Fatalf("Put behind Free(%s, %d): %d %v", told(l), n, i, e)
			}
			if i == n && !alike(again, l) {
				t.Fatalf("Put behind Free(%s, %d): %s", told(l), n, told(again))
			}
		}
	}
}

// Numbers are given from the least on, whatever the order in which they were freed.
func TestNumbersComeAgain(t *testing.T) {
	r := rand.New(rand.NewSource(155))
	for range 300 {
		l := many(20, 1)
		freed := r.Perm(19)[:r.Intn(20)]
		for _, k := range freed {
			m, e := heap.Free(l, k+1)
			if e != api.OK {
				t.Fatalf("Free(%s, %d): %v", told(l), k+1, e)
			}
			l = m
		}
		slices.Sort(freed)
		for _, k := range freed {
			m, n, e := heap.Put(l, object("again", 2, k))
			if e != api.OK || n != k+1 {
				t.Fatalf("Put(%s): %d %v, want %d", told(l), n, e, k+1)
			}
			l = m
		}
		if _, n, e := heap.Put(l, object("behind", 0, 0)); n != 21 || e != api.OK {
			t.Fatalf("Put(%s): %d %v", told(l), n, e)
		}
	}
}

// 15.6: what was set is there, and nothing else changed.
func TestSetIsThere(t *testing.T) {
	for l := range heaps {
		for _, n := range some(l) {
			for k, was := range l[n-1].Words[:min(len(l[n-1].Words), 5)] {
				v := api.Value{Kind: was.Kind, N: ^was.N}
				m, e := heap.Set(l, n, k, v)
				if e != api.OK {
					t.Fatalf("Set(%s, %d, %d): %v", told(l), n, k, e)
				}
				wordIs(t, m, n, k, v, api.OK)
				others(t, "Set", l, m, n)
				onlyWord(t, l[n-1], m[n-1], k)
				if len(m) != len(l) || heap.Words(m) != heap.Words(l) || !slices.Equal(heap.Live(m), heap.Live(l)) {
					t.Fatalf("Set(%s, %d, %d): %s", told(l), n, k, told(m))
				}
				if back, e := heap.Set(m, n, k, was); e != api.OK || !alike(back, l) {
					t.Fatalf("Set(%s, %d, %d) and back: %s %v", told(l), n, k, told(back), e)
				}
			}
		}
	}
}

// onlyWord asks whether two objects differ in the word k alone.
func onlyWord(t *testing.T, x, y api.Object, k int) {
	t.Helper()
	if x.Type != y.Type || len(x.Words) != len(y.Words) {
		t.Fatalf("%v became %v", x, y)
	}
	for i := range x.Words {
		if i != k && x.Words[i] != y.Words[i] {
			t.Fatalf("word %d of %v changed, not %d alone", i, x, k)
		}
	}
}

// An array that was put has all its words, and each can be set.
func TestArrayIsPut(t *testing.T) {
	for _, kind := range []string{"[I", "[B", "[J", "[[I", "[La;", "a"} {
		for _, size := range []int{0, 1, 7} {
			x, _ := heap.Array(kind, size)
			l := putAll(t, heapOf("a - b:2"), x)
			getIs(t, l, 2, x, api.OK)
			for k, v := range x.Words {
				wordIs(t, l, 2, k, v, api.OK)
				setIsPlain(t, l, 2, k, api.Value{Kind: v.Kind, N: 5})
				setIs(t, l, 2, k, api.Value{Kind: v.Kind + 1, N: 5}, nil, api.ErrHeap)
			}
		}
		x, e := heap.Array(kind, 65536)
		if e != api.OK {
			t.Fatalf("Array(%s, 65536): %v", kind, e)
		}
		putIs(t, nil, x, []api.Object{x}, 1, api.OK)
		putIs(t, heapOf("a"), x, []api.Object{object("a", 0, 1), x}, 2, api.OK)
		putIs(t, heapOf("a:1"), x, nil, 0, api.ErrFull)
	}
}

// one does one random thing to a heap, and to the plain one; both answer the same.
func one(t *testing.T, r *rand.Rand, l []api.Object, size int) []api.Object {
	t.Helper()
	n := r.Intn(len(l)+1) + 1
	m, want, e, f := l, l, api.OK, api.OK
	switch r.Intn(5) {
	case 0, 1:
		x := object("c"+strconv.Itoa(r.Intn(9)), r.Intn(size), r.Intn(1000))
		var i, j int
		m, i, e = heap.Put(l, x)
		want, j, f = plainPut(l, x)
		if i != j {
			t.Fatalf("Put(%s, %v): %d, want %d", told(l), x, i, j)
		}
	case 2, 3:
		x, _ := plainGet(l, n)
		k := r.Intn(len(x.Words) + 1)
		v, _ := plainWord(l, n, k)
		v.N = r.Int()
		m, e = heap.Set(l, n, k, v)
		want, f = plainSet(l, n, k, v)
	default:
		m, e = heap.Free(l, n)
		want, f = plainFree(l, n)
	}
	if e != f || !alike(m, want) {
		t.Fatalf("of %s: %s %v, want %s %v", told(l), told(m), e, told(want), f)
	}
	if e != api.OK {
		return l
	}
	return m
}

// 15.7: heaps that come of right ones are right, however long it goes on.
func TestRightStaysRight(t *testing.T) {
	r := rand.New(rand.NewSource(157))
	for range 60 {
		var l []api.Object
		for range 200 {
			l = one(t, r, l, 8)
			isRightBehind(t, "what was done", l, api.OK)
		}
	}
	for _, l := range [][]api.Object{many(4094, 15), but(many(4096, 15), 5, 4000), {object("a", 60000, 1), object("b", 5000, 2)}} {
		for range 60 {
			l = one(t, r, l, 2000)
			isRightBehind(t, "what was done", l, api.OK)
		}
	}
}

// A heap goes on being what it was, while others come of it.
func TestOldHeapsStay(t *testing.T) {
	r := rand.New(rand.NewSource(158))
	var l []api.Object
	var all, were [][]api.Object
	for range 400 {
		all, were = append(all, l), append(were, roomyHeap(l))
		l = one(t, r, l, 6)
	}
	for k := range all {
		if !alike(all[k], were[k]) {
			t.Fatalf("heap %d is %s, was %s", k, told(all[k]), told(were[k]))
		}
	}
}
