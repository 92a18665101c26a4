package gc

import (
	"slices"

	"larch/api"
	"larch/heap"
)

// walk goes from values to all objects that are reached.
type walk struct {
	heap  []api.Object
	queue []int       // the objects that were reached, in their order; the iterator is somewhere in it, and what is behind waits
	fresh map[int]int // their new numbers, from 1 on
}

// from answers the walk from the values, once all is reached.
func from(l []api.Object, roots []api.Value) (*walk, api.Errno) {
	if e := heap.Check(l); e != api.OK {
		return nil, e
	}
	w := &walk{heap: l, fresh: map[int]int{}}
	w.meet(roots)
	for _, x := range w.members {
		w.meet(x.Words)
	}
	return w, api.OK
}

// meet lets the objects wait to which values lead, and that were not reached.
func (w *walk) meet(values []api.Value) {
	for _, v := range values {
		if w.leads(v) && w.fresh[v.N] == 0 {
			w.queue = append(w.queue, v.N)
			w.fresh[v.N] = len(w.queue)
		}
	}
}

// leads holds if a value leads to an object.
func (w *walk) leads(v api.Value) bool {
	return v.Kind == api.KRef && v.N > 0 && v.N <= len(w.heap) && w.heap[v.N-1].Type != ""
}

// members hands out the numbers of the reached objects, and these, in the order of reaching; the queue may grow meanwhile.
func (w *walk) members(yield func(int, api.Object) bool) {
	for k := 0; k < len(w.queue); k++ {
		n := w.queue[k]
		if !yield(n, w.heap[n-1]) {
			return
		}
	}
}

// greatest answers the greatest number of the reached objects, 0 if there are none.
func (w *walk) greatest() int {
	if len(w.queue) == 0 {
		return 0
	}
	return slices.Max(w.queue)
}

// renamed answers values with the new numbers of the objects to which they lead, with 0 where a reference leads to none.
func (w *walk) renamed(values []api.Value) []api.Value {
	l := slices.Clone(values)
	for k, v := range l {
		if v.Kind == api.KRef {
			l[k].N = w.fresh[v.N]
		}
	}
	return l
}
