package gc_test

import (
	"math/rand"
	"slices"
	"testing"

	"larch/api"
	"larch/gc"
	"larch/heap"
)

// Tests of 16.3 to 16.6: what follows.

// heaps hands out right heaps with values: those of right with all roots, great ones, all small ones, and random ones.
func heaps(yield func([]api.Object, []api.Value) bool) {
	for _, l := range right() {
		for _, values := range roots() {
			if !yield(l, values) {
				return
			}
		}
	}
	for _, l := range great() {
		for _, text := range []string{"", "1", "2", "4096 1", "77 5", "1 1 0"} {
			if !yield(l, valuesOf(text)) {
				return
			}
		}
	}
	for l := range small {
		for _, text := range []string{"1", "2", "2 1"} {
			if !yield(l, valuesOf(text)) {
				return
			}
		}
	}
	r := rand.New(rand.NewSource(164))
	for range 1500 {
		l := randomHeap(r, 14, 4)
		if !yield(l, randomValues(r, len(l), 3)) {
			return
		}
	}
}

// reached is what Reach answers of a right heap, as a set.
func reached(t *testing.T, l []api.Object, values []api.Value) map[int]bool {
	t.Helper()
	order, e := gc.Reach(l, values)
	if e != api.OK {
		t.Fatalf("Reach(%s): %v", told(l, values), e)
	}
	set := map[int]bool{}
	for _, n := range order {
		if set[n] || n < 1 || n > len(l) || l[n-1].Type == "" {
			t.Fatalf("Reach(%s): %v has %d", told(l, values), order, n)
		}
		set[n] = true
	}
	return set
}

// leads holds if a value leads to an object.
func leads(l []api.Object, v api.Value) bool {
	return v.Kind == api.KRef && v.N >= 1 && v.N <= len(l) && l[v.N-1].Type != ""
}

// 16.3: a reached object leads only to reached ones.
func TestReachedLeadsToReached(t *testing.T) {
	for l, values := range heaps {
		set := reached(t, l, values)
		all := slices.Clone(values)
		for n := range set {
			all = append(all, l[n-1].Words...)
		}
		for _, v := range all {
			if leads(l, v) && !set[v.N] {
				t.Fatalf("of %s %d is not reached", told(l, values), v.N)
			}
		}
		more, e := gc.Reach(l, all)
		if e != api.OK || len(more) != len(set) {
			t.Fatalf("of %s all words lead to %v %v", told(l, values), more, e)
		}
	}
}

// Nothing is reached to which there is no way.
func TestReachedByAWay(t *testing.T) {
	r := rand.New(rand.NewSource(165))
	for range 600 {
		l := randomHeap(r, 6, 2)
		values := randomValues(r, len(l), 2)
		set := reached(t, l, values)
		for n := 1; n <= len(l); n++ {
			if plainReached(l, values, n, len(l)) != set[n] {
				t.Fatalf("of %s %d is reached: %v", told(l, values), n, set[n])
			}
		}
	}
}

// 16.3: sweeping keeps just the reached ones, as they were.
func TestSweepKeeps(t *testing.T) {
	for l, values := range heaps {
		set := reached(t, l, values)
		m, gone, e := gc.Sweep(l, values)
		if e != api.OK || heap.Check(m) != api.OK {
			t.Fatalf("Sweep(%s): %s %v", told(l, values), told(m, nil), e)
		}
		kept := heap.Live(m)
		if len(kept) != len(set) || gone != len(heap.Live(l))-len(set) {
			t.Fatalf("Sweep(%s): kept %v, %d are gone", told(l, values), kept, gone)
		}
		for _, n := range kept {
			if !set[n] || !alike(m[n-1:n], l[n-1:n]) {
				t.Fatalf("Sweep(%s): kept %v at %d", told(l, values), m[n-1], n)
			}
		}
	}
}

// 16.4: sweeping twice is sweeping once; what is reached, and the canon, stay.
func TestSweepTwice(t *testing.T) {
	for l, values := range heaps {
		m, _, _ := gc.Sweep(l, values)
		again, gone, e := gc.Sweep(m, values)
		if e != api.OK || gone != 0 || !alike(again, m) {
			t.Fatalf("Sweep(Sweep(%s)): %s %d %v", told(l, values), told(again, nil), gone, e)
		}
		first, _ := gc.Reach(l, values)
		then, e := gc.Reach(m, values)
		if e != api.OK || !slices.Equal(first, then) {
			t.Fatalf("Reach(%s): %v, swept %v %v", told(l, values), first, then, e)
		}
		isOneCanon(t, l, values, m, values)
	}
}

// isOneCanon asks whether the canons of two heaps are one.
func isOneCanon(t *testing.T, l []api.Object, a []api.Value, m []api.Object, b []api.Value) {
	t.Helper()
	x, v, e := gc.Canon(l, a)
	y, w, f := gc.Canon(m, b)
	if e != api.OK || f != api.OK || !alike(x, y) || !slices.Equal(v, w) {
		t.Fatalf("the canons of %s and %s: %s %v, %s %v", told(l, a), told(m, b), told(x, v), e, told(y, w), f)
	}
	if is, e := gc.Same(l, a, m, b); !is || e != api.OK {
		t.Fatalf("Same(%s, %s): %v %v", told(l, a), told(m, b), is, e)
	}
}

// 16.5: the canon of a canon is it.
func TestCanonOfCanon(t *testing.T) {
	for l, values := range heaps {
		x, v, e := gc.Canon(l, values)
		y, w, f := gc.Canon(x, v)
		if e != api.OK || f != api.OK || !alike(x, y) || !slices.Equal(v, w) {
			t.Fatalf("of the canon of %s: %s %v, %s %v", told(l, values), told(x, v), e, told(y, w), f)
		}
		order, e := gc.Reach(x, v)
		if e != api.OK || len(order) != len(x) || !slices.IsSorted(order) {
			t.Fatalf("of the canon of %s: %v are reached", told(l, values), order)
		}
		isOneCanon(t, l, values, x, v)
	}
}

// renamed is a heap, and values, in which each number n that leads to an object is as[n]; other members are free.
func renamed(l []api.Object, values []api.Value, as map[int]int) ([]api.Object, []api.Value) {
	last := 0
	for _, n := range as {
		last = max(last, n)
	}
	m := make([]api.Object, last)
	names := func(values []api.Value) []api.Value {
		w := slices.Clone(values)
		for k, v := range w {
			if leads(l, v) {
				w[k].N = as[v.N]
			} else if v.Kind == api.KRef {
				w[k].N = []int{0, -1, last + 1, leastLong, mostLong}[k%5] // to no object, in another way
			}
		}
		return w
	}
	for n, i := range as {
		m[i-1] = api.Object{Type: l[n-1].Type, Words: names(l[n-1].Words)}
	}
	return m, names(values)
}

// renaming gives each object that is not free a number of its own, up to one a bit greater than there are.
func renaming(r *rand.Rand, l []api.Object) map[int]int {
	live := heap.Live(l)
	as, places := map[int]int{}, r.Perm(min(len(live)+r.Intn(5), 4096))
	for k, n := range live {
		as[n] = places[k] + 1
	}
	return as
}

// 16.6: a heap whose numbers are changed, one for one, has the same canon.
func TestRenaming(t *testing.T) {
	r := rand.New(rand.NewSource(166))
	for l, values := range heaps {
		for range 2 {
			m, v := renamed(l, values, renaming(r, l))
			if heap.Check(m) != api.OK {
				t.Fatalf("%s is not right", told(m, v))
			}
			isOneCanon(t, l, values, m, v)
			again, w := renamed(m, v, renaming(r, m))
			isOneCanon(t, l, values, again, w)
		}
	}
}

// All renamings of a few heaps.
func TestAllRenamings(t *testing.T) {
	for _, x := range [][2]string{{"a:2,3 b:1 b:4,4 c:i1,2", "1"}, {"a:2 a:3 a:4 a:1", "3 1"}, {"a a:1 a:1,2 a:3,2,1", "4 2 0"}, {"a:2 - b:4,9 c:1,2", "4 2"}} {
		l, values := heapOf(x[0]), valuesOf(x[1])
		live := heap.Live(l)
		for code := range 625 {
			as, used := map[int]int{}, map[int]bool{}
			for _, n := range live {
				as[n] = code%5 + 1
				used[as[n]] = true
				code /= 5
			}
			if len(used) == len(live) {
				m, v := renamed(l, values, as)
				isOneCanon(t, l, values, m, v)
				asPlain(t, m, v)
			}
		}
	}
}

// Two heaps whose canons are not one are no renaming of one another: the same numbers, but for one pair, tell.
func TestNoRenaming(t *testing.T) {
	for _, x := range [][4]string{
		{"a:2 b:1", "1", "a:2 b:2", "1"}, {"a:2 b:1", "1", "a:1 b:1", "1"}, {"a:2 b:1", "1", "a:2 b:1", "2"}, {"a:2,2 b", "1", "a:2,1 b", "1"},
		{"a:2,3 b b", "1", "a:2,2 b b", "1"}, {"a:2 b:3 b:2", "1", "a:2 b:3 b:3", "1"}, {"a:2 b:3 b:2", "1", "a:2 b:3 b:1", "1"},
	} {
		sameIs(t, heapOf(x[0]), valuesOf(x[1]), heapOf(x[2]), valuesOf(x[3]), false, api.OK)
	}
}
