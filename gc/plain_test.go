package gc_test

import (
	"slices"

	"larch/api"
)

// The chapter's words, taken one by one, with no queue and no new numbers kept.

// isRight is what chapter 15 calls right.
func isRight(l []api.Object) bool {
	words := 0
	for k, x := range l {
		if x.Type == "" && (len(x.Words) != 0 || k == len(l)-1) {
			return false
		}
		words += len(x.Words)
	}
	return len(l) <= 4096 && words <= 65536
}

// plainLeads is the number of the object to which a value leads, 0 if it leads to none.
func plainLeads(l []api.Object, v api.Value) int {
	for k, x := range l {
		if v.Kind == api.KRef && v.N == k+1 && x.Type != "" {
			return k + 1
		}
	}
	return 0
}

// plainNext is the first object, from the left, to which values lead, or words of the reached objects, that was not reached.
func plainNext(l []api.Object, roots []api.Value, order []int) int {
	all := slices.Clone(roots)
	for _, n := range order {
		all = append(all, l[n-1].Words...)
	}
	for _, v := range all {
		if n := plainLeads(l, v); n != 0 && !slices.Contains(order, n) {
			return n
		}
	}
	return 0
}

func plainReach(l []api.Object, roots []api.Value) ([]int, api.Errno) {
	if !isRight(l) {
		return nil, api.ErrHeap
	}
	var order []int
	for n := plainNext(l, roots, order); n != 0; n = plainNext(l, roots, order) {
		order = append(order, n)
	}
	return order, api.OK
}

// plainReached asks for one object: is there a way to it, of so many values at most?
func plainReached(l []api.Object, from []api.Value, n, far int) bool {
	for _, v := range from {
		i := plainLeads(l, v)
		if i == n || i != 0 && far > 1 && plainReached(l, l[i-1].Words, n, far-1) {
			return true
		}
	}
	return false
}

func plainSweep(l []api.Object, roots []api.Value) ([]api.Object, int, api.Errno) {
	order, e := plainReach(l, roots)
	if e != api.OK {
		return nil, 0, e
	}
	m, gone := slices.Clone(l), 0
	for k, x := range l {
		if x.Type != "" && !slices.Contains(order, k+1) {
			m[k] = api.Object{}
			gone++
		}
	}
	for len(m) > 0 && m[len(m)-1].Type == "" {
		m = m[:len(m)-1]
	}
	return m, gone, api.OK
}

// plainNamed is what becomes of values in the canon with that order.
func plainNamed(l []api.Object, order []int, values []api.Value) []api.Value {
	var named []api.Value
	for _, v := range values {
		if v.Kind == api.KRef {
			v.N = slices.Index(order, plainLeads(l, v)) + 1
		}
		named = append(named, v)
	}
	return named
}

func plainCanon(l []api.Object, roots []api.Value) ([]api.Object, []api.Value, api.Errno) {
	order, e := plainReach(l, roots)
	if e != api.OK {
		return nil, nil, e
	}
	var m []api.Object
	for _, n := range order {
		m = append(m, api.Object{Type: l[n-1].Type, Words: plainNamed(l, order, l[n-1].Words)})
	}
	return m, plainNamed(l, order, roots), api.OK
}

// pairs are objects of two heaps that stand for one another.
type pairs struct {
	l, m []api.Object
	of   map[int]int
	back map[int]int
}

// plainSame goes through both heaps at once: what stands at one place of one stands at the same place of the other, and one
// object stands for one alone.
func plainSame(l []api.Object, a []api.Value, m []api.Object, b []api.Value) (bool, api.Errno) {
	if !isRight(l) || !isRight(m) {
		return false, api.ErrHeap
	}
	p := pairs{l, m, map[int]int{}, map[int]int{}}
	return p.values(a, b), api.OK
}

func (p pairs) values(a, b []api.Value) bool {
	if len(a) != len(b) {
		return false
	}
	for k := range a {
		if !p.value(a[k], b[k]) {
			return false
		}
	}
	return true
}

func (p pairs) value(v, w api.Value) bool {
	if v.Kind != api.KRef || w.Kind != api.KRef {
		return v == w
	}
	i, j := plainLeads(p.l, v), plainLeads(p.m, w)
	if i == 0 || j == 0 {
		return i == j
	}
	if p.of[i] != 0 || p.back[j] != 0 {
		return p.of[i] == j && p.back[j] == i
	}
	p.of[i], p.back[j] = j, i
	x, y := p.l[i-1], p.m[j-1]
	return x.Type == y.Type && p.values(x.Words, y.Words)
}
