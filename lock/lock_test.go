package lock_test

import (
	"math/rand"
	"slices"
	"testing"

	"larch/api"
	"larch/lock"
)

// Tests of 19.1 and 19.2 at right lists; of Owner and Held at any list.

// is holds a list and an error against what is wanted.
func is(t *testing.T, what string, l []api.Monitor, e api.Errno, want string, wantE api.Errno) {
	t.Helper()
	if !slices.Equal(l, listOf(want)) || e != wantE {
		t.Fatalf("%s: %v %v, want %s %v", what, l, e, want, wantE)
	}
}

func TestExample(t *testing.T) {
	l, e := enter(t, nil, 5, 0, 1)
	is(t, "once", l, e, "5:0x1", api.OK)
	l, e = enter(t, l, 5, 0, 1)
	is(t, "twice", l, e, "5:0x2", api.OK)
	m, e := enter(t, l, 5, 1, 1)
	is(t, "another one", m, e, "", api.ErrBusy)
}

func TestCheckOfRight(t *testing.T) {
	for _, l := range right() {
		if e := check(t, l); e != api.OK {
			t.Fatalf("Check of %v: %v", l, e)
		}
	}
}

func TestEnter(t *testing.T) {
	for _, x := range []struct {
		l                    string
		object, owner, count int
		want                 string
		e                    api.Errno
	}{
		{"", 1, 0, 1, "1:0x1", api.OK},
		{"", 5, 3, 4, "5:3x4", api.OK},
		{"", most, most, 9, "9223372036854775807:9223372036854775807x9", api.OK},
		{"5:0x1", 4, 0, 1, "4:0x1 5:0x1", api.OK},
		{"5:0x1", 4, 1, 2, "4:1x2 5:0x1", api.OK},
		{"5:0x1", 6, 0, 1, "5:0x1 6:0x1", api.OK},
		{"5:0x1", 5, 0, 1, "5:0x2", api.OK},
		{"5:0x2", 5, 0, 3, "5:0x5", api.OK},
		{"5:0x2", 5, 1, 1, "", api.ErrBusy},
		{"5:1x2", 5, 0, 7, "", api.ErrBusy},
		{"3:0x1 5:1x1 8:0x2", 1, 2, 1, "1:2x1 3:0x1 5:1x1 8:0x2", api.OK},
		{"3:0x1 5:1x1 8:0x2", 4, 0, 1, "3:0x1 4:0x1 5:1x1 8:0x2", api.OK},
		{"3:0x1 5:1x1 8:0x2", 6, 1, 3, "3:0x1 5:1x1 6:1x3 8:0x2", api.OK},
		{"3:0x1 5:1x1 8:0x2", 9, 1, 1, "3:0x1 5:1x1 8:0x2 9:1x1", api.OK},
		{"3:0x1 5:1x1 8:0x2", 3, 0, 1, "3:0x2 5:1x1 8:0x2", api.OK},
		{"3:0x1 5:1x1 8:0x2", 5, 1, 2, "3:0x1 5:1x3 8:0x2", api.OK},
		{"3:0x1 5:1x1 8:0x2", 8, 0, 5, "3:0x1 5:1x1 8:0x7", api.OK},
		{"3:0x1 5:1x1 8:0x2", 3, 1, 1, "", api.ErrBusy},
		{"3:0x1 5:1x1 8:0x2", 5, 0, 1, "", api.ErrBusy},
		{"3:0x1 5:1x1 8:0x2", 8, 1, 1, "", api.ErrBusy},
		{"3:0x1 5:1x1 8:0x2", 8, 2, 1, "", api.ErrBusy},
	} {
		l, e := enter(t, listOf(x.l), x.object, x.owner, x.count)
		is(t, told("Enter", x.object, x.owner, x.count)+" of "+x.l, l, e, x.want, x.e)
	}
}

func TestExitAndLeave(t *testing.T) {
	for _, x := range []struct {
		l             string
		object, owner int
		exited, left  string
		count         int
		e             api.Errno
	}{
		{"", 5, 0, "", "", 0, api.ErrNone},
		{"5:0x1", 4, 0, "", "", 0, api.ErrNone},
		{"5:0x1", 6, 0, "", "", 0, api.ErrNone},
		{"5:0x1", 5, 1, "", "", 0, api.ErrNone},
		{"5:1x4", 5, 0, "", "", 0, api.ErrNone},
		{"5:0x1", 5, 0, "", "", 1, api.OK},
		{"5:0x2", 5, 0, "5:0x1", "", 2, api.OK},
		{"5:3x9", 5, 3, "5:3x8", "", 9, api.OK},
		{"3:0x1 5:1x2 8:0x9", 3, 0, "5:1x2 8:0x9", "5:1x2 8:0x9", 1, api.OK},
		{"3:0x1 5:1x2 8:0x9", 5, 1, "3:0x1 5:1x1 8:0x9", "3:0x1 8:0x9", 2, api.OK},
		{"3:0x1 5:1x2 8:0x9", 8, 0, "3:0x1 5:1x2 8:0x8", "3:0x1 5:1x2", 9, api.OK},
		{"3:0x9 5:1x1 8:0x2", 3, 0, "3:0x8 5:1x1 8:0x2", "5:1x1 8:0x2", 9, api.OK},
		{"3:0x9 5:1x1 8:0x2", 5, 1, "3:0x9 8:0x2", "3:0x9 8:0x2", 1, api.OK},
		{"3:0x9 5:1x9 8:0x1", 5, 1, "3:0x9 5:1x8 8:0x1", "3:0x9 8:0x1", 9, api.OK},
		{"3:0x9 5:1x9 8:0x1", 8, 0, "3:0x9 5:1x9", "3:0x9 5:1x9", 1, api.OK},
		{"3:0x1 5:1x2 8:0x9", 3, 1, "", "", 0, api.ErrNone},
		{"3:0x1 5:1x2 8:0x9", 5, 0, "", "", 0, api.ErrNone},
		{"3:0x1 5:1x2 8:0x9", 8, 1, "", "", 0, api.ErrNone},
		{"3:0x1 5:1x2 8:0x9", 4, 0, "", "", 0, api.ErrNone},
		{"3:0x1 5:1x2 8:0x9", 9, 0, "", "", 0, api.ErrNone},
		{"5:0x9223372036854775807", 5, 0, "5:0x9223372036854775806", "", most, api.OK},
	} {
		what := told("", x.object, x.owner) + " of " + x.l
		l, e := exit(t, listOf(x.l), x.object, x.owner)
		is(t, "Exit"+what, l, e, x.exited, x.e)
		l, n, e := leave(t, listOf(x.l), x.object, x.owner)
		is(t, "Leave"+what, l, e, x.left, x.e)
		if n != x.count {
			t.Fatalf("Leave%s: %d times, want %d", what, n, x.count)
		}
	}
}

func TestOwnerAndHeld(t *testing.T) {
	l := listOf("3:0x1 5:1x2 8:0x9")
	for object, want := range map[int]int{3: 0, 5: 1, 8: 0, 1: -1, 4: -1, 6: -1, 9: -1, 0: -1, -3: -1, least: -1, most: -1} {
		if got := owner(t, l, object); got != want {
			t.Fatalf("Owner %d: %d, want %d", object, got, want)
		}
	}
	for owner, want := range map[int][]int{0: {3, 8}, 1: {5}, 2: nil, -1: nil, least: nil, most: nil} {
		if got := held(t, l, owner); !slices.Equal(got, want) {
			t.Fatalf("Held %d: %v, want %v", owner, got, want)
		}
	}
	if got := held(t, listOf("2:4x1 3:4x2 9:4x3"), 4); !slices.Equal(got, []int{2, 3, 9}) {
		t.Fatalf("Held of one that has all: %v", got)
	}
	if owner(t, nil, 1) != -1 || len(held(t, nil, 0)) != 0 {
		t.Fatal("no list tells an owner, or one that has something")
	}
}

func TestOwnerAndHeldOfAnyList(t *testing.T) {
	for _, x := range []struct {
		l             string
		object, owner int
	}{
		{"5:0x1 5:1x1", 5, 0}, {"5:1x1 5:0x1", 5, 1}, {"5:1x1 5:0x1 5:2x1", 5, 1}, {"7:2x1 5:1x1 4:3x1", 4, 3}, {"7:2x1 5:1x1 4:3x1", 5, 1},
		{"7:2x1 5:1x1 4:3x1", 7, 2}, {"0:4x1", 0, 4}, {"-3:4x1 -3:5x1", -3, 4}, {"5:-2x1", 5, -2}, {"5:0x0", 5, 0}, {"5:0x-1 5:3x1", 5, 0},
		{"9:1x1 0:2x0 -9223372036854775808:3x1", least, 3}, {"9:1x1 0:2x0 3:4x1", 1, -1}, {"9:1x1 5:7x0 3:4x1", 6, -1},
	} {
		if got := owner(t, listOf(x.l), x.object); got != x.owner {
			t.Fatalf("Owner %d of %s: %d, want %d", x.object, x.l, got, x.owner)
		}
	}
	for _, x := range []struct {
		l     string
		owner int
		want  []int
	}{
		{"9:1x1 3:1x1 5:2x1", 1, []int{9, 3}}, {"5:0x1 4:1x1 3:0x0", 0, []int{5, 3}}, {"0:2x1 -4:2x1", 2, []int{0, -4}}, {"5:-1x1 6:-1x1", -1, []int{5, 6}},
		{"5:-1x1 6:-2x1", -2, []int{6}}, {"5:0x1 5:0x1", 1, nil},
	} {
		if got := held(t, listOf(x.l), x.owner); !slices.Equal(got, x.want) {
			t.Fatalf("Held %d of %s: %v, want %v", x.owner, x.l, got, x.want)
		}
	}
}

// all makes each call with a list, with these numbers.
func all(t *testing.T, l []api.Monitor, object, who, count int) {
	t.Helper()
	enter(t, l, object, who, count)
	exit(t, l, object, who)
	leave(t, l, object, who)
}

// every makes each call with a list, with all numbers.
func every(t *testing.T, l []api.Monitor, objects, owners, counts []int) {
	t.Helper()
	check(t, l)
	for _, object := range objects {
		owner(t, l, object)
		for _, who := range owners {
			exit(t, l, object, who)
			leave(t, l, object, who)
			for _, count := range counts {
				enter(t, l, object, who, count)
			}
		}
	}
	for _, who := range owners {
		held(t, l, who)
	}
}

func TestEachCallOfEachList(t *testing.T) {
	for _, l := range right() {
		every(t, l, objects(), owners(), counts())
	}
}

func TestAllSmallLists(t *testing.T) {
	for l := range small {
		every(t, l, []int{0, 1, 2, 3, 4}, []int{-1, 0, 1, 2}, []int{0, 1, 2})
	}
}

func TestRandomLists(t *testing.T) {
	r := rand.New(rand.NewSource(191))
	for range 20000 {
		l := randomList(r, 12)
		all(t, l, r.Intn(26), r.Intn(6)-1, r.Intn(5))
		owner(t, l, r.Intn(26))
		held(t, l, r.Intn(6)-1)
		for range r.Intn(3) { // as it may be, it is not right any more
			l = append(l, randomList(r, 2)...)
			r.Shuffle(len(l)/2, func(i, j int) { l[i], l[j] = l[j], l[i] })
		}
		check(t, l)
		all(t, l, r.Intn(26), r.Intn(6)-1, r.Intn(5))
		owner(t, l, r.Intn(26))
		held(t, l, r.Intn(6)-1)
	}
}

// No list tells a Count above the greatest number: whatever is answered there, it is a right list that tells no less, or none.
func TestCountsAtTheirEnd(t *testing.T) {
	for _, was := range []int{1, 2, most - 1, most} {
		for _, more := range []int{1, 2, most - 2, most - 1, most} {
			l := []api.Monitor{{Object: 3, Owner: 1, Count: 1}, {Object: 5, Owner: 0, Count: was}}
			h := hand(l)
			m, e := lock.Enter(h.l, 5, 0, more)
			h.isUntouched(t, "Enter")
			if was <= most-more && (e != api.OK || m[1].Count != was+more) {
				t.Fatalf("%d times, and %d times more: %v %v", was, more, m, e)
			}
			if e != api.OK && len(m) != 0 || e == api.OK && (lock.Check(m) != api.OK || m[1].Count < was) {
				t.Fatalf("%d times, and %d times more: %v %v", was, more, m, e)
			}
		}
	}
}
