package arith_test

import (
	"testing"

	"larch/api"
)

// Tests of what is refused, and that nothing is told beside it.

func TestStrangersOfInts(t *testing.T) {
	for _, op := range intOps() {
		for _, x := range strangers() {
			for _, y := range ints() { // 0 among them: a division by 0 is told behind
				intIs(t, op, x, y, 0, api.ErrArg)
				intIs(t, op, y, x, 0, api.ErrArg)
			}
			for _, y := range strangers() {
				intIs(t, op, x, y, 0, api.ErrArg)
			}
		}
	}
}

func TestDivisionByNoughtOfStrangers(t *testing.T) {
	for _, op := range []int{108, 112} {
		for _, x := range strangers() {
			intIs(t, op, x, 0, 0, api.ErrArg)
			intIs(t, op, 0, x, 0, api.ErrArg)
		}
		for _, x := range ints() {
			intIs(t, op, x, 0, 0, api.ErrNone)
			intIs(t, op, x, 1<<32, 0, api.ErrArg) // it would be 0, gone round
		}
	}
	longIs(t, 109, 1, 1<<32, 0, api.OK)
	longIs(t, 113, 1, 1<<32, 1, api.OK)
}

func TestStrangersOfOne(t *testing.T) {
	for _, x := range strangers() {
		for _, op := range []int{116, 133, 145, 146, 147} {
			oneIs(t, op, x, 0, api.ErrArg)
		}
	}
}

func TestStrangersOfIf(t *testing.T) {
	for _, op := range ifOps() { // of 153 to 158, too: b counts for nothing, but must be an int
		for _, x := range strangers() {
			for _, y := range ints() {
				ifIs(t, op, x, y, false, api.ErrArg)
				ifIs(t, op, y, x, false, api.ErrArg)
			}
			for _, y := range strangers() {
				ifIs(t, op, x, y, false, api.ErrArg)
			}
		}
	}
}

// Longs are no strangers.
func TestLongsTakeAll(t *testing.T) {
	for _, x := range strangers() {
		for _, y := range longs() {
			if y == 0 {
				continue
			}
			for _, op := range longOps() {
				longOf(t, op, x, y)
				longOf(t, op, y, x)
			}
		}
		n, e := plainOne(117, x)
		oneIs(t, 117, x, n, e)
		n, e = plainOne(136, x)
		oneIs(t, 136, x, n, e)
	}
}

// numbers are pairs with which a call might take the wrong way: ints, strangers, and a b that is 0.
func numbers() [][2]int {
	return [][2]int{{6, 3}, {-1, -1}, {0, 0}, {1, 0}, {most, least}, {most + 1, 0}, {1, least - 1}, {1 << 32, 1 << 32}, {leastOf8, -1}, {mostOf8, 0}}
}

func TestAbsentOps(t *testing.T) {
	for _, x := range numbers() {
		for _, op := range absent(intOps()) {
			intIs(t, op, x[0], x[1], 0, api.ErrArg)
		}
		for _, op := range absent(longOps()) {
			longIs(t, op, x[0], x[1], 0, api.ErrArg)
		}
		for _, op := range absent(oneOps()) {
			oneIs(t, op, x[0], 0, api.ErrArg)
		}
		for _, op := range absent(ifOps()) {
			ifIs(t, op, x[0], x[1], false, api.ErrArg)
		}
	}
}

// The other calls' operations are none of this one's, and 0 and numbers below it are nobody's.
func TestOpsOfOthers(t *testing.T) {
	for _, op := range []int{0, -1, -96, least, leastOf8, 95, 98, 132, 165} {
		intIs(t, op, 1, 1, 0, api.ErrArg)
		longIs(t, op, 1, 1, 0, api.ErrArg)
		oneIs(t, op, 1, 0, api.ErrArg)
		ifIs(t, op, 1, 1, false, api.ErrArg)
	}
	for _, op := range intOps() {
		longIs(t, op, 1, 1, 0, api.ErrArg)
		oneIs(t, op, 1, 0, api.ErrArg)
		ifIs(t, op, 1, 1, false, api.ErrArg)
	}
	for _, op := range longOps() {
		intIs(t, op, 1, 1, 0, api.ErrArg)
		oneIs(t, op, 1, 0, api.ErrArg)
		ifIs(t, op, 1, 1, false, api.ErrArg)
	}
	for _, op := range oneOps() {
		intIs(t, op, 1, 1, 0, api.ErrArg)
		longIs(t, op, 1, 1, 0, api.ErrArg)
		ifIs(t, op, 1, 1, false, api.ErrArg)
	}
	for _, op := range ifOps() {
		intIs(t, op, 1, 1, 0, api.ErrArg)
		longIs(t, op, 1, 1, 0, api.ErrArg)
		oneIs(t, op, 1, 0, api.ErrArg)
	}
}

// A division by 0 that there is not is an operation that there is not.
func TestAbsentDivisions(t *testing.T) {
	for _, op := range []int{109, 113} {
		intIs(t, op, 1, 0, 0, api.ErrArg)
	}
	for _, op := range []int{108, 112} {
		longIs(t, op, 1, 0, 0, api.ErrArg)
	}
}

// What was refused leaves nothing behind: the next call answers as ever.
func TestBehindARefusal(t *testing.T) {
	for range 2 {
		intIs(t, 108, 7, 0, 0, api.ErrNone)
		intIs(t, 108, 7, 2, 3, api.OK)
		intIs(t, 96, 1<<31, 1, 0, api.ErrArg)
		intIs(t, 96, 1, 1, 2, api.OK)
		longIs(t, 109, 7, 0, 0, api.ErrNone)
		longIs(t, 109, 7, 2, 3, api.OK)
		oneIs(t, 116, 1<<31, 0, api.ErrArg)
		oneIs(t, 116, 5, -5, api.OK)
		ifIs(t, 153, 0, 1<<31, false, api.ErrArg)
		ifIs(t, 153, 0, 1, true, api.OK)
	}
}
