package lock

import (
	"cmp"
	"slices"

	"larch/api"
)

// search answers the place of the first member that is not below what is sought, how many there are if all are, and whether it
// is what is sought. The comparison tells a member below it by a number below 0, and one that is it by 0.
func search[T any](l []T, compare func(T) int) (int, bool) {
	for k, x := range l {
		if c := compare(x); c >= 0 {
			return k, c == 0
		}
	}
	return len(l), false
}

// rising compares with an object the members of a list that rises by it.
func rising(object int) func(api.Monitor) int {
	return func(m api.Monitor) int { return cmp.Compare(m.Object, object) }
}

// same seeks an object in any list: all others are as below it.
func same(object int) func(api.Monitor) int {
	return func(m api.Monitor) int {
		if m.Object == object {
			return 0
		}
		return -1
	}
}

// wrong seeks the first member that is no monitor, or not above the one ahead of it.
func wrong() func(api.Monitor) int {
	last := 0
	return func(m api.Monitor) int {
		if !isOne(m) || m.Object <= last {
			return 0
		}
		last = m.Object
		return -1
	}
}

// isOne holds if a list may have that monitor.
func isOne(m api.Monitor) bool { return m.Object >= 1 && m.Owner >= 0 && m.Count >= 1 }

// find answers the place of an object's monitor that the owner has.
func find(l []api.Monitor, object, owner int) (int, api.Errno) {
	if Check(l) != api.OK || object < 1 || owner < 0 {
		return 0, api.ErrArg
	}
	k, isHeld := search(l, rising(object))
	if !isHeld || l[k].Owner != owner {
		return 0, api.ErrNone
	}
	return k, api.OK
}

// with is l in memory of its own, with m at place k, and all from there on behind it.
func with(l []api.Monitor, k int, m api.Monitor) []api.Monitor {
	return slices.Insert(slices.Clone(l), k, m)
}

// counted is l in memory of its own, with the member k had so many times; at 0 it is not there.
func counted(l []api.Monitor, k, count int) []api.Monitor {
	l = slices.Clone(l)
	if count == 0 {
		return slices.Delete(l, k, k+1)
	}
	l[k].Count = count
	return l
}
