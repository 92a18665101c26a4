package lock_test

import (
	"testing"

	"larch/api"
)

// Tests of what is refused, and that nothing is told beside it.

// refused asks that each call is refused with that error.
func refused(t *testing.T, l []api.Monitor, object, who, count int) {
	t.Helper()
	what := told("", object, who)
	m, e := enter(t, l, object, who, count)
	is(t, told("Enter", object, who, count), m, e, "", api.ErrArg)
	if count < 1 { // the others have no count
		return
	}
	m, e = exit(t, l, object, who)
	is(t, "Exit"+what, m, e, "", api.ErrArg)
	m, n, e := leave(t, l, object, who)
	is(t, "Leave"+what, m, e, "", api.ErrArg)
	if n != 0 {
		t.Fatalf("Leave%s: %d times, beside an error", what, n)
	}
}

func TestWrongLists(t *testing.T) {
	for _, l := range wrong() {
		if e := check(t, l); e != api.ErrArg {
			t.Fatalf("Check of %v: %v", l, e)
		}
		for _, object := range objects() {
			for _, who := range owners() { // of one that another one has, of a free one, and of one that it has
				refused(t, l, object, who, 1)
			}
		}
		for _, who := range owners() {
			held(t, l, who)
		}
		for _, object := range objects() {
			owner(t, l, object)
		}
	}
}

func TestWrongNumbers(t *testing.T) {
	for _, l := range right() {
		for _, object := range []int{0, -1, -2, -5, least} {
			refused(t, l, object, 0, 1)
			refused(t, l, object, -1, 1)
			refused(t, l, object, 1, 0)
		}
		for _, who := range []int{-1, -2, -7, least} {
			for _, object := range []int{1, 2, 5, 6, most} {
				refused(t, l, object, who, 1)
				refused(t, l, object, who, 0)
			}
		}
		for _, count := range []int{0, -1, -2, least} { // of one that it has, and of one that another one has, too
			for _, object := range []int{1, 2, 4, 5, most} {
				refused(t, l, object, 0, count)
				refused(t, l, object, 1, count)
			}
		}
	}
}

func TestFirstErrorIsTold(t *testing.T) {
	l := listOf("3:0x1 5:1x2 8:0x9")
	refused(t, l, 5, 0, 0)                     // another one has it, and the count is none
	refused(t, l, 5, -1, 1)                    // another one has it, and the owner is none
	refused(t, append(l, l[0]), 5, 0, 1)       // another one has it, and the list is not right
	refused(t, append(l, l[2]), 4, 0, 1)       // nobody has it, and the list is not right
	refused(t, listOf("3:0x1 5:1x0"), 5, 1, 1) // it has it, and not once
	for _, object := range []int{3, 8} {
		if m, e := enter(t, l, object, 2, 1); e != api.ErrBusy || len(m) != 0 {
			t.Fatalf("Enter of %d, another one's: %v %v", object, m, e)
		}
	}
}
