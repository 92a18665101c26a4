package lock_test

import (
	"slices"

	"larch/api"
)

// The chapter's words, taken one by one: a monitor is one of a heap of members, whose order is told at the end.

// isMonitor holds if a list may have m.
func isMonitor(m api.Monitor) bool { return m.Object >= 1 && m.Owner >= 0 && m.Count >= 1 }

// isRight is what the chapter calls the monitors: rising by Object, so each once.
func isRight(l []api.Monitor) bool {
	for k, m := range l {
		if !isMonitor(m) {
			return false
		}
		for _, n := range l[:k] {
			if n.Object >= m.Object {
				return false
			}
		}
	}
	return true
}

// plainOf is the monitor of that object, and whether it is held.
func plainOf(l []api.Monitor, object int) (api.Monitor, bool) {
	for k := len(l) - 1; k >= 0; k-- {
		if l[k].Object == object && !slices.ContainsFunc(l[:k], func(m api.Monitor) bool { return m.Object == object }) {
			return l[k], true
		}
	}
	return api.Monitor{}, false
}

// plainWith is a list in which m is as told, and all others are as they were; with a Count of 0 it is free.
func plainWith(l []api.Monitor, m api.Monitor) []api.Monitor {
	var list []api.Monitor
	if m.Count != 0 {
		list = append(list, m)
	}
	for k := len(l) - 1; k >= 0; k-- {
		if l[k].Object != m.Object {
			list = append(list, l[k])
		}
	}
	slices.SortFunc(list, func(x, y api.Monitor) int {
		if x.Object < y.Object {
			return -1
		}
		return 1
	})
	return list
}

func plainCheck(l []api.Monitor) api.Errno {
	if isRight(l) {
		return api.OK
	}
	return api.ErrArg
}

func plainEnter(l []api.Monitor, object, owner, count int) ([]api.Monitor, api.Errno) {
	if !isRight(l) || object < 1 || owner < 0 || count < 1 {
		return nil, api.ErrArg
	}
	m, isHeld := plainOf(l, object)
	if isHeld && m.Owner != owner {
		return nil, api.ErrBusy
	}
	return plainWith(l, api.Monitor{Object: object, Owner: owner, Count: m.Count + count}), api.OK
}

func plainExit(l []api.Monitor, object, owner int) ([]api.Monitor, api.Errno) {
	if !isRight(l) || object < 1 || owner < 0 {
		return nil, api.ErrArg
	}
	m, isHeld := plainOf(l, object)
	if !isHeld || m.Owner != owner {
		return nil, api.ErrNone
	}
	m.Count--
	return plainWith(l, m), api.OK
}

func plainLeave(l []api.Monitor, object, owner int) ([]api.Monitor, int, api.Errno) {
	if !isRight(l) || object < 1 || owner < 0 {
		return nil, 0, api.ErrArg
	}
	m, isHeld := plainOf(l, object)
	if !isHeld || m.Owner != owner {
		return nil, 0, api.ErrNone
	}
	return plainWith(l, api.Monitor{Object: object}), m.Count, api.OK
}

func plainOwner(l []api.Monitor, object int) int {
	if m, isHeld := plainOf(l, object); isHeld {
		return m.Owner
	}
	return -1
}

func plainHeld(l []api.Monitor, owner int) []int {
	var objects []int
	for k := range l {
		if l[k].Owner == owner {
			objects = append(objects, l[k].Object)
		}
	}
	return objects
}
