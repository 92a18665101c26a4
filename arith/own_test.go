package arith_test

import (
	"math"
	"math/rand"
	"slices"
	"testing"

	"larch/api"
	"larch/arith"
)

// What the tests share.

const (
	least    = math.MinInt32
	most     = math.MaxInt32
	leastOf8 = math.MinInt64
	mostOf8  = math.MaxInt64
)

// The operations that there are.

func intOps() []int  { return []int{96, 100, 104, 108, 112, 120, 122, 124, 126, 128, 130} }
func longOps() []int { return []int{97, 101, 105, 109, 113, 121, 123, 125, 127, 129, 131, 148} }
func oneOps() []int  { return []int{116, 117, 133, 136, 145, 146, 147} }
func ifOps() []int   { return []int{153, 154, 155, 156, 157, 158, 159, 160, 161, 162, 163, 164} }

// ints are ints at the edges, and some between.
func ints() []int {
	return []int{
		0, 1, -1, 2, -2, 3, -3, 5, 7, -7, 8, -8, 10, 31, -31, 32, -32, 33, -33, 63, 64, 65, -64, 100, -100, 127, -127, 128, -128, -129, 255, 256, -255, -256,
		32767, 32768, -32767, -32768, -32769, 46340, 46341, -46341, 65535, 65536, 65537, -65535, -65536, -65537, 1000003, -1000003,
		0x55555555, -0x55555556, 0x12345678, -0x12345678, 1 << 30, -1 << 30, 1<<30 + 1, most / 2, least / 2, most - 2, most - 1, most, least + 2, least + 1, least,
	}
}

// strangers are numbers that are no ints.
func strangers() []int {
	return []int{
		most + 1, least - 1, most + 2, least - 2, 1<<32 - 1, 1 << 32, 1<<32 + 1, -1<<32 - 1, -1 << 32, -1<<32 + 1, 1 << 33, -1 << 33, 3<<32 + 5, -3<<32 - 5,
		0x123456789abcdef, -0x123456789abcdef, 0x5555555555555555, -0x5555555555555556, 3037000499, 3037000500, -3037000500, 1 << 62, -1 << 62,
		mostOf8 - 1, mostOf8, leastOf8 + 1, leastOf8,
	}
}

// longs are longs at the edges, and some between; ints, too.
func longs() []int { return append(ints(), strangers()...) }

// absent are numbers that no operation of a list has: those of the other calls, all near them, and some far off with the same
// lowest bits.
func absent(ops []int) []int {
	var l []int
	for n := -300; n <= 300; n++ {
		l = append(l, n)
	}
	for _, n := range ops {
		l = append(l, n+256, n-256, n+1<<16, n+1<<31, n+1<<32, n-1<<32, n+1<<62, -n, ^n)
	}
	l = append(l, most, most+1, least, least-1, mostOf8, mostOf8-1, leastOf8, leastOf8+1)
	return slices.DeleteFunc(l, func(n int) bool { return slices.Contains(ops, n) })
}

// randomLong has any number of bits, so that small ones come, too.
func randomLong(r *rand.Rand) int { return int(r.Uint64()) >> r.Intn(64) }

func randomInt(r *rand.Rand) int { return int(int32(r.Uint32())) >> r.Intn(32) }

// intIs holds Int against what is wanted.
func intIs(t *testing.T, op, a, b, want int, wantE api.Errno) {
	t.Helper()
	if n, e := arith.Int(op, a, b); n != want || e != wantE {
		t.Fatalf("Int(%d, %d, %d): %d %v, want %d %v", op, a, b, n, e, want, wantE)
	}
}

// longIs holds Long against what is wanted.
func longIs(t *testing.T, op, a, b, want int, wantE api.Errno) {
	t.Helper()
	if n, e := arith.Long(op, a, b); n != want || e != wantE {
		t.Fatalf("Long(%d, %d, %d): %d %v, want %d %v", op, a, b, n, e, want, wantE)
	}
}

// oneIs holds One against what is wanted.
func oneIs(t *testing.T, op, a, want int, wantE api.Errno) {
	t.Helper()
	if n, e := arith.One(op, a); n != want || e != wantE {
		t.Fatalf("One(%d, %d): %d %v, want %d %v", op, a, n, e, want, wantE)
	}
}

// ifIs holds If against what is wanted.
func ifIs(t *testing.T, op, a, b int, want bool, wantE api.Errno) {
	t.Helper()
	if ok, e := arith.If(op, a, b); ok != want || e != wantE {
		t.Fatalf("If(%d, %d, %d): %v %v, want %v %v", op, a, b, ok, e, want, wantE)
	}
}

// intOf is what Int answers where it must answer a number.
func intOf(t *testing.T, op, a, b int) int {
	t.Helper()
	n, e := arith.Int(op, a, b)
	if e != api.OK {
		t.Fatalf("Int(%d, %d, %d): %v", op, a, b, e)
	}
	return n
}

// longOf is what Long answers where it must answer a number.
func longOf(t *testing.T, op, a, b int) int {
	t.Helper()
	n, e := arith.Long(op, a, b)
	if e != api.OK {
		t.Fatalf("Long(%d, %d, %d): %v", op, a, b, e)
	}
	return n
}
