package lock_test

import (
	"math/rand"
	"slices"
	"testing"

	"larch/api"
	"larch/lock"
)

// Tests of 19.3 to 19.5: what follows.

// lists hands out right lists: those of right, and random ones.
func lists(yield func([]api.Monitor) bool) {
	for _, l := range right() {
		if !yield(l) {
			return
		}
	}
	r := rand.New(rand.NewSource(193))
	for range 2000 {
		if !yield(randomList(r, 9)) {
			return
		}
	}
}

// free are objects of which nobody has a monitor: ahead of all, between, and behind all, as far as there are.
func free(l []api.Monitor) []int {
	var objects []int
	for _, object := range []int{1, 2, 3, 4, 5, 6, 7, 11, 27, 2001, 5000, most - 7} {
		if lock.Owner(l, object) == -1 {
			objects = append(objects, object)
		}
	}
	return objects
}

// entered is a list in which an object was entered so often, once at a time.
func entered(t *testing.T, l []api.Monitor, object, owner, times int) []api.Monitor {
	t.Helper()
	for range times {
		var e api.Errno
		if l, e = lock.Enter(l, object, owner, 1); e != api.OK {
			t.Fatalf("Enter of %d by %d: %v", object, owner, e)
		}
	}
	return l
}

// isAlone asks that just that owner has the object, and no other one enters, exits or leaves it.
func isAlone(t *testing.T, l []api.Monitor, object, owner int) {
	t.Helper()
	if got := lock.Owner(l, object); got != owner {
		t.Fatalf("Owner of %d: %d, want %d", object, got, owner)
	}
	for _, other := range []int{0, 1, 2, 3, 4, 5, 99, most} {
		if other == owner {
			continue
		}
		for _, count := range []int{1, 2, 100} {
			if m, e := lock.Enter(l, object, other, count); e != api.ErrBusy || len(m) != 0 {
				t.Fatalf("Enter of %d, which %d has, by %d: %v %v", object, owner, other, m, e)
			}
		}
		if m, e := lock.Exit(l, object, other); e != api.ErrNone || len(m) != 0 {
			t.Fatalf("Exit of %d, which %d has, by %d: %v %v", object, owner, other, m, e)
		}
		if m, n, e := lock.Leave(l, object, other); e != api.ErrNone || n != 0 || len(m) != 0 {
			t.Fatalf("Leave of %d, which %d has, by %d: %v %d %v", object, owner, other, m, n, e)
		}
	}
}

// isFree asks that nobody has the object, and each one may enter it.
func isFree(t *testing.T, l []api.Monitor, object int) {
	t.Helper()
	for _, one := range []int{0, 1, 2, 99, most} {
		if m, e := lock.Enter(l, object, one, 1); e != api.OK || lock.Owner(m, object) != one {
			t.Fatalf("Enter of %d, which is free, by %d: %v %v", object, one, m, e)
		}
		if _, e := lock.Exit(l, object, one); e != api.ErrNone {
			t.Fatalf("Exit of %d, which is free, by %d: %v", object, one, e)
		}
	}
}

// 19.3.
func TestOneAlone(t *testing.T) {
	for l := range lists {
		for _, object := range free(l) {
			for _, times := range []int{1, 2, 5} {
				atOnce, e := lock.Enter(l, object, 2, times)
				single := entered(t, l, object, 2, times)
				if e != api.OK || !slices.Equal(atOnce, single) {
					t.Fatalf("%d entered %d times at once: %v %v, once at a time: %v", object, times, atOnce, e, single)
				}
				for range times {
					isAlone(t, single, object, 2)
					if single, e = lock.Exit(single, object, 2); e != api.OK {
						t.Fatalf("Exit of %d: %v", object, e)
					}
				}
				isFree(t, single, object)
			}
		}
		for _, m := range l[:min(len(l), 20)] {
			isAlone(t, l, m.Object, m.Owner)
		}
	}
}

// 19.3: with calls of many owners between.
func TestOneAloneAmongMany(t *testing.T) {
	r := rand.New(rand.NewSource(1931))
	for range 200 {
		var l []api.Monitor
		times := map[int]int{} // of object and owner, as one number
		for range 200 {
			object, owner := r.Intn(5)+1, r.Intn(4)
			m, e := lock.Enter(l, object, owner, 1)
			if r.Intn(2) == 0 {
				m, e = lock.Exit(l, object, owner)
				isAs(t, e, times[object<<8+owner] > 0, api.ErrNone)
				if e == api.OK {
					times[object<<8+owner]--
				}
			} else {
				others := 0
				for other := range 4 {
					if other != owner {
						others += times[object<<8+other]
					}
				}
				isAs(t, e, others == 0, api.ErrBusy)
				if e == api.OK {
					times[object<<8+owner]++
				}
			}
			if e == api.OK {
				l = m
			}
			isCounted(t, l, times)
		}
	}
}

// isAs asks whether a call was done just where it could be.
func isAs(t *testing.T, e api.Errno, could bool, refusal api.Errno) {
	t.Helper()
	if could && e != api.OK || !could && e != refusal {
		t.Fatalf("%v, where it could be done is %v", e, could)
	}
}

// isCounted asks whether a list tells just what was counted.
func isCounted(t *testing.T, l []api.Monitor, times map[int]int) {
	t.Helper()
	held := 0
	for _, n := range times {
		if n > 0 {
			held++
		}
	}
	if lock.Check(l) != api.OK || len(l) != held {
		t.Fatalf("%v: %v, want %d members", l, lock.Check(l), held)
	}
	for _, m := range l {
		if times[m.Object<<8+m.Owner] != m.Count {
			t.Fatalf("%v: entered %v", l, times)
		}
	}
}

// others are the members of all objects but that one.
func others(l []api.Monitor, object int) []api.Monitor {
	return slices.DeleteFunc(slices.Clone(l), func(m api.Monitor) bool { return m.Object == object })
}

// isRightBut asks whether a list is right, and has all others' members as they were.
func isRightBut(t *testing.T, what string, l, was []api.Monitor, object int) {
	t.Helper()
	if lock.Check(l) != api.OK || !isRight(l) {
		t.Fatalf("%s %d of %v: %v is not right", what, object, was, l)
	}
	if !slices.Equal(others(l, object), others(was, object)) {
		t.Fatalf("%s %d of %v: %v, not that one alone", what, object, was, l)
	}
}

// 19.4.
func TestRightComesOfRight(t *testing.T) {
	for l := range lists {
		for _, object := range objects() {
			for _, who := range []int{0, 1, 2, most} {
				for _, count := range []int{1, 3, 1000} {
					if m, e := lock.Enter(l, object, who, count); e == api.OK {
						isRightBut(t, "Enter", m, l, object)
					}
				}
				if m, e := lock.Exit(l, object, who); e == api.OK {
					isRightBut(t, "Exit", m, l, object)
				}
				if m, n, e := lock.Leave(l, object, who); e == api.OK {
					isRightBut(t, "Leave", m, l, object)
					if n < 1 || lock.Owner(m, object) != -1 {
						t.Fatalf("Leave %d of %v: %v, %d times", object, l, m, n)
					}
				}
			}
		}
	}
}

// 19.5: of an object that is free, and of one that the owner has already.
func TestEnteringAndExitingAsOften(t *testing.T) {
	for l := range lists {
		for _, object := range append(free(l), plainHeld(l, 1)...) {
			for _, times := range []int{1, 2, 7} {
				m, e := lock.Enter(l, object, 1, times)
				for range times {
					if e == api.OK {
						m, e = lock.Exit(m, object, 1)
					}
				}
				if e != api.OK || !slices.Equal(m, l) {
					t.Fatalf("%d entered and exited %d times: %v %v, was %v", object, times, m, e, l)
				}
			}
		}
	}
}

// 19.5: of each member, of all together, and of all the other way round.
func TestLeavingAndEntering(t *testing.T) {
	for l := range lists {
		counts, m := make([]int, len(l)), l
		for k, x := range l {
			one, n, e := lock.Leave(l, x.Object, x.Owner)
			if e != api.OK || n != x.Count {
				t.Fatalf("Leave %d of %v: %d %v", x.Object, l, n, e)
			}
			if one, e = lock.Enter(one, x.Object, x.Owner, n); e != api.OK || !slices.Equal(one, l) {
				t.Fatalf("%d left, and entered: %v %v, was %v", x.Object, one, e, l)
			}
			m, counts[k], _ = lock.Leave(m, x.Object, x.Owner)
		}
		if len(m) != 0 {
			t.Fatalf("all left: %v", m)
		}
		for k := len(l) - 1; k >= 0; k-- {
			m, _ = lock.Enter(m, l[k].Object, l[k].Owner, counts[k])
		}
		if !slices.Equal(m, l) {
			t.Fatalf("all left, and entered: %v, was %v", m, l)
		}
	}
}

// 19.2: Owner and Held tell the same.
func TestOwnerAndHeldAgree(t *testing.T) {
	for l := range lists {
		members := 0
		for who := range 20 {
			for _, object := range lock.Held(l, who) {
				members++
				if got := lock.Owner(l, object); got != who {
					t.Fatalf("%v: Owner %d is %d, Held by %d", l, object, got, who)
				}
			}
		}
		for _, m := range l {
			if m.Owner >= 20 {
				members += len(lock.Held(l, m.Owner))
			}
		}
		if members != len(l) {
			t.Fatalf("%v: %d are held", l, members)
		}
	}
}
