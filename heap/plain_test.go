package heap_test

import (
	"larch/api"
)

// The chapter's words, taken one by one: a heap as a map from numbers to the objects that are not free.

type plain map[int]api.Object

// isRight is the chapter's 'right'.
func isRight(l []api.Object) bool {
	words := 0
	for k, x := range l {
		if x.Type == "" && (len(x.Words) != 0 || k == len(l)-1) {
			return false
		}
		words += len(x.Words)
	}
	return len(l) <= 4096 && words <= 65536
}

// plainOf is what a list tells.
func plainOf(l []api.Object) plain {
	p := plain{}
	for k, x := range l {
		if x.Type != "" {
			p[k+1] = x
		}
	}
	return p
}

// list is the heap, which ends with the object of the greatest number.
func (p plain) list() []api.Object {
	greatest := 0
	for n := range p {
		greatest = max(greatest, n)
	}
	l := make([]api.Object, greatest)
	for n, x := range p {
		l[n-1] = x
	}
	return l
}

func (p plain) words() int {
	words := 0
	for _, x := range p {
		words += len(x.Words)
	}
	return words
}

// least is the least number that is free.
func (p plain) least() int {
	n := 1
	for p[n].Type != "" {
		n++
	}
	return n
}

// without is the heap with no object n.
func (p plain) without(n int) plain {
	q := plain{}
	for i, x := range p {
		if i != n {
			q[i] = x
		}
	}
	return q
}

func (p plain) with(n int, x api.Object) plain {
	q := p.without(n)
	q[n] = x
	return q
}

func plainCheck(l []api.Object) api.Errno {
	if !isRight(l) {
		return api.ErrHeap
	}
	return api.OK
}

func plainPut(l []api.Object, x api.Object) ([]api.Object, int, api.Errno) {
	if !isRight(l) {
		return nil, 0, api.ErrHeap
	}
	if x.Type == "" {
		return nil, 0, api.ErrArg
	}
	p := plainOf(l)
	n := p.least()
	if n > 4096 || p.words()+len(x.Words) > 65536 {
		return nil, 0, api.ErrFull
	}
	return p.with(n, x).list(), n, api.OK
}

func plainGet(l []api.Object, n int) (api.Object, api.Errno) {
	x, ok := plainOf(l)[n]
	if !ok || !isRight(l) {
		return api.Object{}, api.ErrHeap
	}
	return x, api.OK
}

func plainWord(l []api.Object, n, k int) (api.Value, api.Errno) {
	x, _ := plainGet(l, n)
	for i, v := range x.Words {
		if i == k {
			return v, api.OK
		}
	}
	return api.Value{}, api.ErrHeap
}

func plainSet(l []api.Object, n, k int, v api.Value) ([]api.Object, api.Errno) {
	w, e := plainWord(l, n, k)
	if e != api.OK || w.Kind != v.Kind {
		return nil, api.ErrHeap
	}
	p := plainOf(l)
	x := api.Object{Type: p[n].Type}
	for i, w := range p[n].Words {
		if i == k {
			w = v
		}
		x.Words = append(x.Words, w)
	}
	return p.with(n, x).list(), api.OK
}

func plainFree(l []api.Object, n int) ([]api.Object, api.Errno) {
	if _, e := plainGet(l, n); e != api.OK {
		return nil, e
	}
	return plainOf(l).without(n).list(), api.OK
}

func plainArray(kind string, size int) (api.Object, api.Errno) {
	switch {
	case kind == "", size < 0:
		return api.Object{}, api.ErrArg
	case size > 65536:
		return api.Object{}, api.ErrFull
	}
	word := map[string]api.Value{"[I": {Kind: api.KInt}, "[B": {Kind: api.KInt}, "[J": {Kind: api.KLong}}
	x := api.Object{Type: kind}
	for range size {
		v, ok := word[kind]
		if !ok {
			v = api.Value{Kind: api.KRef}
		}
		x.Words = append(x.Words, v)
	}
	return x, api.OK
}
