package arith_test

import (
	"math/rand"
	"testing"

	"larch/api"
	"larch/arith"
)

// Tests of 14.4 to 14.7: what follows.

// pairs hands out all pairs of a list, and many others.
func pairs(l []int, seed int64, other func(*rand.Rand) int) func(func(int, int) bool) {
	return func(yield func(int, int) bool) {
		for _, a := range l {
			for _, b := range l {
				if !yield(a, b) {
					return
				}
			}
		}
		r := rand.New(rand.NewSource(seed))
		for range 20000 {
			if !yield(other(r), other(r)) {
				return
			}
		}
	}
}

func TestWhatComesOfIntsIsAnInt(t *testing.T) {
	for a, b := range pairs(ints(), 144, randomInt) {
		for _, op := range intOps() {
			if b == 0 && (op == 108 || op == 112) {
				continue
			}
			if n := intOf(t, op, a, b); !plainInt(n) {
				t.Fatalf("Int(%d, %d, %d): %d", op, a, b, n)
			}
		}
		for _, op := range []int{116, 133, 145, 146, 147} {
			if n, e := arith.One(op, a); e != api.OK || !plainInt(n) {
				t.Fatalf("One(%d, %d): %d %v", op, a, n, e)
			}
		}
	}
	for a := range pairs(longs(), 244, randomLong) {
		if n, e := arith.One(136, a); e != api.OK || !plainInt(n) {
			t.Fatalf("One(136, %d): %d %v", a, n, e)
		}
		if n := arith.Round(a); !plainInt(n) {
			t.Fatalf("Round(%d): %d", a, n)
		}
	}
}

func TestByAndLeftOfInts(t *testing.T) {
	for a, b := range pairs(ints(), 145, randomInt) {
		if b == 0 {
			continue
		}
		by, left := intOf(t, 108, a, b), intOf(t, 112, a, b)
		if n := intOf(t, 96, intOf(t, 104, by, b), left); n != a {
			t.Fatalf("%d by %d: %d times it and %d are %d", a, b, by, left, n)
		}
		if left != 0 && (left < 0) != (a < 0) || max(left, -left) >= max(b, -b) {
			t.Fatalf("%d by %d: %d is left", a, b, left)
		}
	}
}

func TestByAndLeftOfLongs(t *testing.T) {
	for a, b := range pairs(longs(), 245, randomLong) {
		if b == 0 {
			continue
		}
		by, left := longOf(t, 109, a, b), longOf(t, 113, a, b)
		if n := longOf(t, 97, longOf(t, 105, by, b), left); n != a {
			t.Fatalf("%d by %d: %d times it and %d are %d", a, b, by, left, n)
		}
		// What is below 0 has all numbers' sizes, what is above 0 has not that of the least.
		if left != 0 && (left < 0) != (a < 0) || min(left, -left) <= min(b, -b) {
			t.Fatalf("%d by %d: %d is left", a, b, left)
		}
	}
}

// holdsOrder asks an addition and a multiplication of three numbers: they hang on no order, and one goes over the other.
func holdsOrder(t *testing.T, plus, times func(a, b int) int, a, b, c int) {
	t.Helper()
	for what, do := range map[string]func(a, b int) int{"addition": plus, "multiplication": times} {
		if x, y := do(a, b), do(b, a); x != y {
			t.Fatalf("%s of %d and %d: %d and %d", what, a, b, x, y)
		}
		if x, y := do(do(a, b), c), do(a, do(b, c)); x != y {
			t.Fatalf("%s of %d, %d and %d: %d and %d", what, a, b, c, x, y)
		}
	}
	if x, y := times(a, plus(b, c)), plus(times(a, b), times(a, c)); x != y {
		t.Fatalf("%d times the sum of %d and %d: %d and %d", a, b, c, x, y)
	}
}

func TestOrderOfInts(t *testing.T) {
	plus := func(a, b int) int { return intOf(t, 96, a, b) }
	times := func(a, b int) int { return intOf(t, 104, a, b) }
	r := rand.New(rand.NewSource(146))
	for a, b := range pairs(ints(), 147, randomInt) {
		for _, c := range []int{0, 1, -1, most, least, randomInt(r)} {
			holdsOrder(t, plus, times, a, b, c)
		}
	}
}

func TestOrderOfLongs(t *testing.T) {
	plus := func(a, b int) int { return longOf(t, 97, a, b) }
	times := func(a, b int) int { return longOf(t, 105, a, b) }
	r := rand.New(rand.NewSource(246))
	for a, b := range pairs(longs(), 247, randomLong) {
		for _, c := range []int{0, 1, -1, most, leastOf8, mostOf8, randomLong(r)} {
			holdsOrder(t, plus, times, a, b, c)
		}
	}
}

func TestEachConditionIsNotTheNext(t *testing.T) {
	for a, b := range pairs(ints(), 148, randomInt) {
		for op := 153; op < 164; op += 2 {
			x, e := arith.If(op, a, b)
			y, f := arith.If(op+1, a, b)
			if e != api.OK || f != api.OK || x == y {
				t.Fatalf("If(%d, %d, %d): %v %v, the next one %v %v", op, a, b, x, e, y, f)
			}
		}
	}
}
