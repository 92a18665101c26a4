package heap

import "larch/api"

// find answers the object n of a right heap, as it lies there.
func find(l []api.Object, n int) (api.Object, api.Errno) {
	if e := Check(l); e != api.OK {
		return api.Object{}, e
	}
	x, e := member(l, n-1) // the least number goes round to the greatest, which is no place either
	if e != api.OK || isFree(x) {
		return api.Object{}, api.ErrHeap
	}
	return x, api.OK
}

// member answers what is at a place of a list.
func member[T any](l []T, k int) (T, api.Errno) {
	if k < 0 || k >= len(l) {
		var none T
		return none, api.ErrHeap
	}
	return l[k], api.OK
}

// first answers the place of the first member for which holds does, how many there are if there is none.
func first[T any](l []T, holds func(T) bool) int {
	for k, x := range l {
		if holds(x) {
			return k
		}
	}
	return len(l)
}

// own answers a list of size members in memory of its own, which begins with those of l.
func own[T any](l []T, size int) []T {
	m := make([]T, size)
	copy(m, l)
	return m
}

// ownObject answers an object whose words are in memory of its own.
func ownObject(x api.Object) api.Object {
	x.Words = own(x.Words, len(x.Words))
	return x
}

// ownHeap answers a heap of size members in memory of its own, which begins with those of l.
func ownHeap(l []api.Object, size int) []api.Object {
	m := own(l, size)
	for k, x := range m {
		m[k] = ownObject(x)
	}
	return m
}

func isFree(x api.Object) bool { return x.Type == "" }

// endsFree holds if the last member is free.
func endsFree(l []api.Object) bool {
	x, e := member(l, len(l)-1)
	return e == api.OK && isFree(x)
}

func isFreeWithWords(x api.Object) bool { return isFree(x) && len(x.Words) > 0 }

// zero answers what the words of a new array of that Type are.
func zero(kind string) api.Value {
	switch kind {
	case "[I", "[B":
		return api.Value{Kind: api.KInt}
	case "[J":
		return api.Value{Kind: api.KLong}
	}
	return api.Value{Kind: api.KRef}
}
