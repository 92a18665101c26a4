package arith_test

import (
	"math/rand"
	"testing"

	"larch/api"
	"larch/arith"
)

// Tests of 14.1 to 14.3: numbers that are worked out by hand, and all others against the plain reading.

func TestExamples(t *testing.T) {
	intIs(t, 96, 2147483647, 1, -2147483648, api.OK)
	intIs(t, 124, -1, 28, 15, api.OK)
	intIs(t, 108, -7, 2, -3, api.OK)
}

func TestRound(t *testing.T) {
	for _, x := range [][2]int{
		{0, 0}, {1, 1}, {-1, -1}, {most, most}, {most - 1, most - 1}, {most + 1, least}, {most + 2, least + 1}, {least, least}, {least + 1, least + 1}, {least - 1, most}, {least - 2, most - 1},
		{1 << 32, 0}, {1<<32 - 1, -1}, {1<<32 + 1, 1}, {-1 << 32, 0}, {-1<<32 - 1, -1}, {-1<<32 + 1, 1}, {1 << 33, 0}, {5<<32 - 1, -1}, {5<<32 + 1, 1}, {-7<<32 - 1, -1}, {-7<<32 + 1, 1},
		{3<<32 + most, most}, {3<<32 + most + 1, least}, {-3<<32 + least, least}, {-3<<32 + least - 1, most}, {1 << 62, 0},
		{mostOf8, -1}, {mostOf8 - 1, -2}, {leastOf8, 0}, {leastOf8 + 1, 1}, {0x123456789abcdef0, -0x65432110},
	} {
		if n := arith.Round(x[0]); n != x[1] {
			t.Errorf("Round(%d): %d, want %d", x[0], n, x[1])
		}
	}
}

func TestRoundOfMany(t *testing.T) {
	l := longs()
	r := rand.New(rand.NewSource(141))
	for range 20000 {
		l = append(l, randomLong(r), randomLong(r)&^0xffffffff+r.Intn(3)-1)
	}
	for _, a := range l {
		n := arith.Round(a)
		if want := plainRound(whole(a), 32); n != want {
			t.Fatalf("Round(%d): %d, want %d", a, n, want)
		}
		if arith.Round(n) != n {
			t.Fatalf("Round(%d): %d", n, arith.Round(n))
		}
	}
}

func TestIntsGoRound(t *testing.T) {
	for _, x := range [][4]int{
		{96, most, most, -2}, {96, least, -1, most}, {96, least, least, 0}, {96, 2, 3, 5}, {96, -2, -3, -5}, {96, most, least, -1},
		{100, least, 1, most}, {100, most, -1, least}, {100, 0, least, least}, {100, 2, 3, -1}, {100, -1, least, most}, {100, least, least, 0}, {100, least, most, 1},
		{104, most, most, 1}, {104, least, -1, least}, {104, least, least, 0}, {104, 65536, 65536, 0}, {104, 65536, 32768, least}, {104, 46341, 46341, -2147479015}, {104, -3, 7, -21}, {104, most, 2, -2},
		{104, most, least, least},
	} {
		intIs(t, x[0], x[1], x[2], x[3], api.OK)
	}
}

func TestLongsGoRound(t *testing.T) {
	for _, x := range [][4]int{
		{97, mostOf8, 1, leastOf8}, {97, mostOf8, mostOf8, -2}, {97, leastOf8, -1, mostOf8}, {97, leastOf8, leastOf8, 0}, {97, most, 1, most + 1}, {97, -2, -3, -5},
		{101, leastOf8, 1, mostOf8}, {101, mostOf8, -1, leastOf8}, {101, 0, leastOf8, leastOf8}, {101, least, 1, least - 1}, {101, -1, leastOf8, mostOf8},
		{105, mostOf8, mostOf8, 1}, {105, leastOf8, -1, leastOf8}, {105, leastOf8, leastOf8, 0}, {105, 65536, 65536, 1 << 32}, {105, 1 << 32, 1 << 32, 0}, {105, 1 << 32, 1 << 31, leastOf8},
		{105, 3037000500, 3037000500, -9223372036709301616}, {105, mostOf8, 2, -2},
	} {
		longIs(t, x[0], x[1], x[2], x[3], api.OK)
	}
}

// Rows: a, b, a by b, what is left of it; of ints and of longs.
func TestDivision(t *testing.T) {
	for _, x := range [][4]int{
		{7, 2, 3, 1}, {-7, 2, -3, -1}, {7, -2, -3, 1}, {-7, -2, 3, -1}, {6, 3, 2, 0}, {-6, 3, -2, 0}, {6, -3, -2, 0}, {-6, -3, 2, 0},
		{1, 2, 0, 1}, {-1, 2, 0, -1}, {1, -2, 0, 1}, {-1, -2, 0, -1}, {0, 5, 0, 0}, {0, -5, 0, 0}, {0, 1, 0, 0}, {0, -1, 0, 0},
		{5, 1, 5, 0}, {-5, 1, -5, 0}, {5, -1, -5, 0}, {-5, -1, 5, 0}, {most, 1, most, 0}, {most, -1, -most, 0}, {least, 1, least, 0}, {least + 1, -1, most, 0},
		{most, most, 1, 0}, {least, least, 1, 0}, {most, least, 0, most}, {least, most, -1, -1}, {least, 2, least / 2, 0}, {most, 2, 1<<30 - 1, 1}, {least, 3, -715827882, -2}, {most, -10, -214748364, 7},
	} {
		intIs(t, 108, x[0], x[1], x[2], api.OK)
		intIs(t, 112, x[0], x[1], x[3], api.OK)
		longIs(t, 109, x[0], x[1], x[2], api.OK)
		longIs(t, 113, x[0], x[1], x[3], api.OK)
	}
	for _, x := range [][4]int{
		{least, -1, -least, 0}, {mostOf8, 1, mostOf8, 0}, {mostOf8, -1, -mostOf8, 0}, {leastOf8, 1, leastOf8, 0}, {leastOf8, -1, leastOf8, 0}, {leastOf8 + 1, -1, mostOf8, 0},
		{leastOf8, leastOf8, 1, 0}, {mostOf8, leastOf8, 0, mostOf8}, {leastOf8, mostOf8, -1, -1}, {leastOf8, 10, -922337203685477580, -8}, {mostOf8, -10, -922337203685477580, 7},
		{1 << 40, 1 << 20, 1 << 20, 0}, {-1<<40 - 1, 1 << 20, -1 << 20, -1},
	} {
		longIs(t, 109, x[0], x[1], x[2], api.OK)
		longIs(t, 113, x[0], x[1], x[3], api.OK)
	}
	intIs(t, 108, least, -1, least, api.OK)
	intIs(t, 112, least, -1, 0, api.OK)
}

func TestDivisionByNought(t *testing.T) {
	for _, a := range longs() {
		for _, op := range []int{109, 113} {
			longIs(t, op, a, 0, 0, api.ErrNone)
		}
	}
	for _, a := range ints() {
		for _, op := range []int{108, 112} {
			intIs(t, op, a, 0, 0, api.ErrNone)
		}
	}
	for _, op := range intOps() { // no other operation minds it
		if op != 108 && op != 112 {
			want := map[int]int{104: 0, 126: 0}
			n, ok := want[op]
			if !ok {
				n = 77
			}
			intIs(t, op, 77, 0, n, api.OK)
			longIs(t, op+1, 77, 0, n, api.OK)
		}
	}
	longIs(t, 148, 77, 0, 1, api.OK)
}

// Rows: a, b, and what comes of it upwards, downwards, downwards without a sign.
func TestShiftsOfInts(t *testing.T) {
	for _, x := range [][5]int{
		{1, 0, 1, 1, 1}, {1, 1, 2, 0, 0}, {1, 31, least, 0, 0}, {1, 32, 1, 1, 1}, {1, 33, 2, 0, 0}, {1, 63, least, 0, 0}, {1, 64, 1, 1, 1}, {1, 65, 2, 0, 0},
		{1, -1, least, 0, 0}, {1, -31, 2, 0, 0}, {1, -32, 1, 1, 1}, {1, -33, least, 0, 0}, {1, least, 1, 1, 1}, {1, least + 1, 2, 0, 0}, {1, most, least, 0, 0}, {1, most - 1, 1 << 30, 0, 0},
		{-1, 0, -1, -1, -1}, {-1, 1, -2, -1, most}, {-1, 31, least, -1, 1}, {-1, 32, -1, -1, -1}, {-1, 33, -2, -1, most}, {-1, 28, -1 << 28, -1, 15}, {-1, -1, least, -1, 1}, {-1, least, -1, -1, -1}, {-1, most, least, -1, 1},
		{-7, 1, -14, -4, 2147483644}, {-8, 1, -16, -4, 2147483644}, {-8, 3, -64, -1, 0x1fffffff}, {7, 1, 14, 3, 3}, {8, 65, 16, 4, 4},
		{least, 0, least, least, least}, {least, 1, 0, -1 << 30, 1 << 30}, {least, 31, 0, -1, 1}, {least, 32, least, least, least}, {most, 1, -2, 1<<30 - 1, 1<<30 - 1}, {most, 31, least, 0, 0}, {0, 31, 0, 0, 0}, {0, -1, 0, 0, 0},
	} {
		for k, op := range []int{120, 122, 124} {
			intIs(t, op, x[0], x[1], x[2+k], api.OK)
		}
	}
}

func TestShiftsOfLongs(t *testing.T) {
	for _, x := range [][5]int{
		{1, 0, 1, 1, 1}, {1, 1, 2, 0, 0}, {1, 31, 1 << 31, 0, 0}, {1, 32, 1 << 32, 0, 0}, {1, 33, 1 << 33, 0, 0}, {1, 63, leastOf8, 0, 0}, {1, 64, 1, 1, 1}, {1, 65, 2, 0, 0},
		{1, -1, leastOf8, 0, 0}, {1, -32, 1 << 32, 0, 0}, {1, -63, 2, 0, 0}, {1, -64, 1, 1, 1}, {1, -65, leastOf8, 0, 0}, {1, leastOf8, 1, 1, 1}, {1, leastOf8 + 1, 2, 0, 0}, {1, mostOf8, leastOf8, 0, 0}, {1, 1 << 32, 1, 1, 1},
		{-1, 0, -1, -1, -1}, {-1, 1, -2, -1, mostOf8}, {-1, 32, -1 << 32, -1, 1<<32 - 1}, {-1, 60, -1 << 60, -1, 15}, {-1, 63, leastOf8, -1, 1}, {-1, 64, -1, -1, -1}, {-1, -1, leastOf8, -1, 1},
		{-7, 1, -14, -4, 9223372036854775804}, {-8, 3, -64, -1, 0x1fffffffffffffff}, {7, 1, 14, 3, 3}, {least, 32, leastOf8, -1, 0xffffffff},
		{leastOf8, 0, leastOf8, leastOf8, leastOf8}, {leastOf8, 1, 0, -1 << 62, 1 << 62}, {leastOf8, 63, 0, -1, 1}, {mostOf8, 1, -2, 1<<62 - 1, 1<<62 - 1}, {mostOf8, 63, leastOf8, 0, 0}, {0, 63, 0, 0, 0},
	} {
		for k, op := range []int{121, 123, 125} {
			longIs(t, op, x[0], x[1], x[2+k], api.OK)
		}
	}
}

// Rows: a, b, and, or, xor; of ints and of longs.
func TestBits(t *testing.T) {
	for _, x := range [][5]int{
		{12, 10, 8, 14, 6}, {-12, 10, 0, -2, -2}, {12, -10, 4, -2, -6}, {-12, -10, -12, -10, 2}, {5, 3, 1, 7, 6}, {0, 0, 0, 0, 0}, {0, -1, 0, -1, -1}, {-1, -1, -1, -1, 0}, {77, -1, 77, -1, -78}, {77, 0, 0, 77, 77},
		{most, least, 0, -1, -1}, {least, -1, least, -1, most}, {most, -1, most, -1, least}, {least, least, least, least, 0}, {0x55555555, -0x55555556, 0, -1, -1}, {least, 1, 0, least + 1, least + 1},
	} {
		for k, op := range []int{126, 128, 130} {
			intIs(t, op, x[0], x[1], x[2+k], api.OK)
			longIs(t, op+1, x[0], x[1], x[2+k], api.OK)
		}
	}
	for _, x := range [][5]int{
		{mostOf8, leastOf8, 0, -1, -1}, {leastOf8, -1, leastOf8, -1, mostOf8}, {mostOf8, -1, mostOf8, -1, leastOf8}, {1 << 40, 1<<40 + 1, 1 << 40, 1<<40 + 1, 1}, {1 << 32, -1 << 32, 1 << 32, -1 << 32, -1 << 33},
	} {
		for k, op := range []int{127, 129, 131} {
			longIs(t, op, x[0], x[1], x[2+k], api.OK)
		}
	}
}

func TestAgainst(t *testing.T) {
	for _, x := range [][3]int{
		{0, 0, 0}, {0, 1, -1}, {1, 0, 1}, {-1, 0, -1}, {0, -1, 1}, {-1, 1, -1}, {1, -1, 1}, {-5, -5, 0}, {-6, -5, -1}, {5, 4, 1},
		{leastOf8, mostOf8, -1}, {mostOf8, leastOf8, 1}, {leastOf8, leastOf8, 0}, {mostOf8, mostOf8, 0}, {leastOf8, 0, -1}, {0, leastOf8, 1}, {leastOf8, leastOf8 + 1, -1}, {mostOf8, mostOf8 - 1, 1}, {leastOf8, 1, -1}, {1, leastOf8, 1},
		{mostOf8, -1, 1}, {-1, mostOf8, -1}, {1 << 32, 0, 1}, {0, 1 << 32, -1}, {1 << 32, 1 << 33, -1}, {least, most, -1}, {most + 1, most, 1}, {1<<53 + 1, 1 << 53, 1},
	} {
		longIs(t, 148, x[0], x[1], x[2], api.OK)
	}
}

// Rows: a, and what comes of it by 145, 146, 147.
func TestLowestBits(t *testing.T) {
	for _, x := range [][4]int{
		{0, 0, 0, 0}, {1, 1, 1, 1}, {-1, -1, 65535, -1}, {127, 127, 127, 127}, {-127, -127, 65409, -127}, {128, -128, 128, 128}, {-128, -128, 65408, -128}, {129, -127, 129, 129}, {-129, 127, 65407, -129},
		{200, -56, 200, 200}, {255, -1, 255, 255}, {-255, 1, 65281, -255}, {256, 0, 256, 256}, {-256, 0, 65280, -256}, {32767, -1, 32767, 32767}, {-32767, 1, 32769, -32767}, {32768, 0, 32768, -32768}, {-32768, 0, 32768, -32768},
		{32769, 1, 32769, -32767}, {-32769, -1, 32767, 32767}, {65535, -1, 65535, -1}, {-65535, 1, 1, 1}, {65536, 0, 0, 0}, {-65536, 0, 0, 0}, {65537, 1, 1, 1}, {-65537, -1, 65535, -1},
		{most, -1, 65535, -1}, {least, 0, 0, 0}, {least + 1, 1, 1, 1}, {most - 1, -2, 65534, -2}, {0x12348765, 0x65, 0x8765, -0x789b},
	} {
		for k, op := range []int{145, 146, 147} {
			oneIs(t, op, x[0], x[1+k], api.OK)
		}
	}
}

func TestOneOfEachKind(t *testing.T) {
	for _, x := range [][3]int{
		{116, 0, 0}, {116, 1, -1}, {116, -1, 1}, {116, most, -most}, {116, -most, most}, {116, least, least},
		{117, 0, 0}, {117, 1, -1}, {117, -1, 1}, {117, least, -least}, {117, mostOf8, -mostOf8}, {117, -mostOf8, mostOf8}, {117, leastOf8, leastOf8},
		{133, 0, 0}, {133, 1, 1}, {133, -1, -1}, {133, most, most}, {133, least, least}, {133, 65536, 65536},
		{136, 0, 0}, {136, -1, -1}, {136, most, most}, {136, most + 1, least}, {136, least, least}, {136, least - 1, most}, {136, 1 << 32, 0}, {136, 1<<32 - 1, -1}, {136, -1<<32 + 1, 1}, {136, mostOf8, -1}, {136, leastOf8, 0}, {136, leastOf8 + 1, 1},
	} {
		oneIs(t, x[0], x[1], x[2], api.OK)
	}
}

// 136 is what Round is.
func TestLongToInt(t *testing.T) {
	r := rand.New(rand.NewSource(143))
	for range 5000 {
		a := randomLong(r)
		oneIs(t, 136, a, arith.Round(a), api.OK)
	}
}

// Rows: a number, and which of 153 to 158 hold, one by one.
func TestConditionsOfOne(t *testing.T) {
	below, at, above := [6]bool{false, true, true, false, false, true}, [6]bool{true, false, false, true, false, true}, [6]bool{false, true, false, true, true, false}
	for a, want := range map[int][6]bool{
		-1: below, -2: below, -65536: below, least: below, least + 1: below, 0: at, 1: above, 2: above, 65536: above, most: above, most - 1: above,
	} {
		for k := range 6 {
			for _, b := range ints() { // b counts for nothing
				ifIs(t, 153+k, a, b, want[k], api.OK)
			}
		}
	}
}

// Rows: two numbers, and which of 159 to 164 hold, one by one.
func TestConditionsOfTwo(t *testing.T) {
	less, alike, greater := [6]bool{false, true, true, false, false, true}, [6]bool{true, false, false, true, false, true}, [6]bool{false, true, false, true, true, false}
	for x, want := range map[[2]int][6]bool{
		{1, 2}: less, {-2, -1}: less, {-1, 0}: less, {-1, 1}: less, {0, 1}: less, {least, most}: less, {least, 0}: less, {least, least + 1}: less, {most - 1, most}: less, {least, 1}: less, {-1, most}: less,
		{0, 0}: alike, {1, 1}: alike, {-1, -1}: alike, {least, least}: alike, {most, most}: alike, {77, 77}: alike,
		{2, 1}: greater, {-1, -2}: greater, {0, -1}: greater, {1, -1}: greater, {1, 0}: greater, {most, least}: greater, {0, least}: greater, {1, least}: greater, {most, -1}: greater, {most, most - 1}: greater, {least + 1, least}: greater,
	} {
		for k := range 6 {
			ifIs(t, 159+k, x[0], x[1], want[k], api.OK)
		}
	}
}

// holdPair holds all operations of two numbers against the plain ones.
func holdPair(t *testing.T, a, b int) {
	t.Helper()
	for _, op := range intOps() {
		n, e := plainIntOf(op, a, b)
		intIs(t, op, a, b, n, e)
	}
	for _, op := range longOps() {
		n, e := plainLongOf(op, a, b)
		longIs(t, op, a, b, n, e)
	}
	for _, op := range ifOps() {
		ok, e := plainIf(op, a, b)
		ifIs(t, op, a, b, ok, e)
	}
}

// holdOne holds all operations of one number against the plain ones.
func holdOne(t *testing.T, a int) {
	t.Helper()
	for _, op := range oneOps() {
		n, e := plainOne(op, a)
		oneIs(t, op, a, n, e)
	}
}

func TestEdgesAgainstPlain(t *testing.T) {
	for _, a := range longs() {
		holdOne(t, a)
		for _, b := range longs() {
			holdPair(t, a, b)
		}
	}
}

func TestManyAgainstPlain(t *testing.T) {
	r := rand.New(rand.NewSource(142))
	for range 6000 {
		a, b := randomInt(r), randomInt(r)
		holdPair(t, a, b)
		holdPair(t, a, a)
		holdOne(t, a)
		a, b = randomLong(r), randomLong(r)
		holdPair(t, a, b)
		holdOne(t, a)
	}
}

// All numbers of 17 bits: 145 to 147 hang on the lowest 16.
func TestOneAgainstPlain(t *testing.T) {
	for a := -1 << 16; a <= 1<<16; a++ {
		for _, op := range []int{145, 146, 147} {
			n, e := plainOne(op, a)
			oneIs(t, op, a, n, e)
			oneIs(t, op, arith.Round(a+0x35<<16), n, e)
		}
	}
}
