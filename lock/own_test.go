package lock_test

import (
	"math/rand"
	"slices"
	"strconv"
	"strings"
	"testing"

	"larch/api"
	"larch/lock"
)

// What the tests share. Each call that they make is held against the plain one, and asked whether it changed what it was given,
// and whether what it answers is memory of its own; each is made twice.

const (
	least = -1 << 63
	most  = 1<<63 - 1
)

// listOf are the monitors that a text tells: of each its Object, its Owner and its Count ("5:0x2").
func listOf(text string) []api.Monitor {
	var l []api.Monitor
	for _, s := range strings.Fields(text) {
		object, rest, _ := strings.Cut(s, ":")
		owner, count, _ := strings.Cut(rest, "x")
		l = append(l, api.Monitor{Object: number(object), Owner: number(owner), Count: number(count)})
	}
	return l
}

func number(s string) int {
	n, e := strconv.Atoi(s)
	if e != nil {
		panic("no number: " + s)
	}
	return n
}

// many are so many monitors, of each second object, had by owners by turns.
func many(size, owners int) []api.Monitor {
	l := make([]api.Monitor, size)
	for k := range l {
		l[k] = api.Monitor{Object: 2*k + 2, Owner: k % owners, Count: k%5 + 1}
	}
	return l
}

// with is a list with another member at that place.
func with(l []api.Monitor, k int, m api.Monitor) []api.Monitor {
	l = slices.Clone(l)
	l[k] = m
	return l
}

// right are lists that are right.
func right() [][]api.Monitor {
	l := [][]api.Monitor{nil, {}, many(1, 1), many(2, 1), many(3, 2), many(16, 16), many(100, 7), many(1000, 3)}
	for _, text := range []string{
		"1:0x1", "5:0x1", "5:0x2", "5:7x3", "1:0x1 2:0x1", "1:1x1 2:0x1", "2:1x1 5:0x3", "5:0x1 9:0x4", "1:3x2 4:3x1 6:3x9", "1:0x1 2:1x1 3:2x1",
		"3:2x7 4:1x1 5:2x2", "2:0x2 4:1x2 6:2x2 8:3x2", "1:0x1 2:1x2 3:0x3 4:1x4 5:0x5", "4096:15x64 4097:16x65", "1000000:0x1000000",
		"9223372036854775807:9223372036854775807x1", "1:0x1 9223372036854775806:1x5 9223372036854775807:0x2",
	} {
		l = append(l, listOf(text))
	}
	return l
}

// faults are members that no list may have.
func faults() []api.Monitor {
	return []api.Monitor{
		{}, {Object: 0, Owner: 1, Count: 1}, {Object: -1, Owner: 0, Count: 1}, {Object: -5, Owner: 3, Count: 2}, {Object: least, Count: 1},
		{Object: 5, Owner: -1, Count: 1}, {Object: 5, Owner: -7, Count: 1}, {Object: 5, Owner: least, Count: 1},
		{Object: 5, Owner: 0, Count: 0}, {Object: 5, Owner: 2, Count: -1}, {Object: 5, Owner: 0, Count: least},
		{Object: 0, Owner: -1, Count: 0}, {Object: 5, Owner: -1, Count: 0}, {Object: -1, Owner: -1, Count: 1},
	}
}

// wrong are lists that are not right.
func wrong() [][]api.Monitor {
	var l [][]api.Monitor
	for _, text := range []string{
		"5:0x1 5:0x1", "5:0x1 5:0x2", "5:0x1 5:1x1", "5:0x1 4:0x1", "2:0x1 1:1x1", "5:0x1 5:0x1 6:0x1", "4:0x1 5:0x1 5:1x1", "4:0x1 3:0x1 5:0x1",
		"4:0x1 6:0x1 5:0x1", "4:0x1 6:0x1 3:0x1", "3:0x1 2:0x1 1:0x1", "1:0x1 2:0x1 1:0x1", "0:0x1 1:0x1", "0:0x1 0:0x1", "1:0x1 2:0x1 4:0x1 4:0x1",
		"1:0x1 3:0x1 2:0x1 4:0x1", "4:0x1 3:0x1 2:0x1 1:0x1", "4:1x1 5:2x1 6:3x1 5:2x1",
	} {
		l = append(l, listOf(text))
	}
	for _, m := range faults() {
		l = append(l, []api.Monitor{m}, append([]api.Monitor{m}, listOf("7:0x1 8:1x1")...))
		for k := range 3 {
			l = append(l, with(listOf("4:0x1 5:1x2 6:0x3"), k, m))
		}
		for _, k := range []int{0, 1, 49, 98, 99} {
			l = append(l, with(many(100, 3), k, m))
		}
	}
	long := many(100, 3)
	for _, k := range []int{1, 50, 99} {
		l = append(l, with(long, k, long[k-1]), with(long, k, long[0]))
	}
	return l
}

// objects, owners and counts are those that calls are asked with.
func objects() []int {
	return []int{least, -2, -1, 0, 1, 2, 3, 4, 5, 6, 7, 9, 100, 199, 200, 201, most}
}
func owners() []int { return []int{least, -2, -1, 0, 1, 2, 3, 15, most} }
func counts() []int { return []int{least, -2, -1, 0, 1, 2, 1000000} }

// randomList is a right one of so many members at most.
func randomList(r *rand.Rand, size int) []api.Monitor {
	var l []api.Monitor
	object := 0
	for range r.Intn(size + 1) {
		object += r.Intn(3) + 1
		l = append(l, api.Monitor{Object: object, Owner: r.Intn(4), Count: r.Intn(4) + 1})
	}
	return l
}

// small hands out all lists of two members at most whose fields are small, right and wrong ones.
func small(yield func([]api.Monitor) bool) {
	var members []api.Monitor
	for object := -1; object < 4; object++ {
		for owner := -1; owner < 2; owner++ {
			for count := -1; count < 3; count++ {
				members = append(members, api.Monitor{Object: object, Owner: owner, Count: count})
			}
		}
	}
	for _, m := range members {
		if !yield([]api.Monitor{m}) {
			return
		}
		for _, n := range members {
			if !yield([]api.Monitor{m, n}) {
				return
			}
		}
	}
}

// behind is what lies in the room behind each list that is handed in.
var behind = api.Monitor{Object: -9, Owner: -9, Count: -9}

// handed is what a call was given: a copy with room behind it, and what it is a copy of.
type handed struct{ l, was []api.Monitor }

func hand(l []api.Monitor) handed {
	m := append(slices.Clone(l), behind, behind, behind)
	return handed{m[:len(l)], l}
}

// isUntouched asks whether the list is as it was, with what lies behind it.
func (h handed) isUntouched(t *testing.T, what string) {
	t.Helper()
	if !slices.Equal(h.l, h.was) {
		t.Fatalf("%s of %v: changed it to %v", what, h.was, h.l)
	}
	for _, m := range h.l[len(h.l) : len(h.l)+3] {
		if m != behind {
			t.Fatalf("%s of %v: changed behind it", what, h.was)
		}
	}
}

// isOwn asks whether what was answered stays when what was handed in is changed, and the other way round.
func (h handed) isOwn(t *testing.T, what string, l []api.Monitor) {
	t.Helper()
	want := slices.Clone(l)
	all := h.l[:cap(h.l)]
	for k := range all {
		all[k] = api.Monitor{Object: -3, Owner: k}
	}
	if !slices.Equal(l, want) {
		t.Fatalf("%s of %v: what was answered changes with what was handed in", what, h.was)
	}
	l = l[:cap(l)]
	for k := range l {
		l[k] = api.Monitor{Object: -4}
	}
	for k, m := range all {
		if m != (api.Monitor{Object: -3, Owner: k}) {
			t.Fatalf("%s of %v: what was handed in changes with what was answered", what, h.was)
		}
	}
}

// same holds what a call answered against what is wanted; what is behind the call's own list is asked, too.
func same(t *testing.T, what string, l []api.Monitor, do, plain func([]api.Monitor) ([]api.Monitor, int, api.Errno)) {
	t.Helper()
	want, wantN, wantE := plain(l)
	h := hand(l)
	for range 2 {
		got, n, e := do(h.l)
		if !slices.Equal(got, want) || n != wantN || e != wantE {
			t.Fatalf("%s of %v: %v %d %v, want %v %d %v", what, l, got, n, e, want, wantN, wantE)
		}
		h.isUntouched(t, what)
	}
	got, _, _ := do(h.l)
	h.isOwn(t, what, got)
}

// check makes a call of Check.
func check(t *testing.T, l []api.Monitor) api.Errno {
	t.Helper()
	same(t, "Check", l, func(l []api.Monitor) ([]api.Monitor, int, api.Errno) { return nil, 0, lock.Check(l) },
		func(l []api.Monitor) ([]api.Monitor, int, api.Errno) { return nil, 0, plainCheck(l) })
	return lock.Check(l)
}

// told is a call with its numbers.
func told(what string, numbers ...int) string {
	for _, n := range numbers {
		what += " " + strconv.Itoa(n)
	}
	return what
}

// enter makes a call of Enter.
func enter(t *testing.T, l []api.Monitor, object, owner, count int) ([]api.Monitor, api.Errno) {
	t.Helper()
	same(t, told("Enter", object, owner, count), l,
		func(l []api.Monitor) ([]api.Monitor, int, api.Errno) {
			m, e := lock.Enter(l, object, owner, count)
			return m, 0, e
		},
		func(l []api.Monitor) ([]api.Monitor, int, api.Errno) {
			m, e := plainEnter(l, object, owner, count)
			return m, 0, e
		})
	return lock.Enter(l, object, owner, count)
}

// exit makes a call of Exit.
func exit(t *testing.T, l []api.Monitor, object, owner int) ([]api.Monitor, api.Errno) {
	t.Helper()
	same(t, told("Exit", object, owner), l,
		func(l []api.Monitor) ([]api.Monitor, int, api.Errno) {
			m, e := lock.Exit(l, object, owner)
			return m, 0, e
		},
		func(l []api.Monitor) ([]api.Monitor, int, api.Errno) {
			m, e := plainExit(l, object, owner)
			return m, 0, e
		})
	return lock.Exit(l, object, owner)
}

// leave makes a call of Leave.
func leave(t *testing.T, l []api.Monitor, object, owner int) ([]api.Monitor, int, api.Errno) {
	t.Helper()
	same(t, told("Leave", object, owner), l,
		func(l []api.Monitor) ([]api.Monitor, int, api.Errno) { return lock.Leave(l, object, owner) },
		func(l []api.Monitor) ([]api.Monitor, int, api.Errno) { return plainLeave(l, object, owner) })
	return lock.Leave(l, object, owner)
}

// owner makes a call of Owner.
func owner(t *testing.T, l []api.Monitor, object int) int {
	t.Helper()
	same(t, told("Owner", object), l,
		func(l []api.Monitor) ([]api.Monitor, int, api.Errno) { return nil, lock.Owner(l, object), api.OK },
		func(l []api.Monitor) ([]api.Monitor, int, api.Errno) { return nil, plainOwner(l, object), api.OK })
	return lock.Owner(l, object)
}

// held makes a call of Held; what it answers is of another kind, so that it is written over apart.
func held(t *testing.T, l []api.Monitor, owner int) []int {
	t.Helper()
	want := plainHeld(l, owner)
	h := hand(l)
	for range 2 {
		got := lock.Held(h.l, owner)
		if !slices.Equal(got, want) {
			t.Fatalf("Held %d of %v: %v, want %v", owner, l, got, want)
		}
		for k := range got {
			got[k] = -5
		}
		h.isUntouched(t, "Held")
	}
	return lock.Held(l, owner)
}
