package sum_test

import (
	"bytes"
	"fmt"
	"testing"

	"larch/sum"
)

// everyWay hands to each all lists of that many parts that make b together, empty parts among them.
func everyWay(b []byte, parts int, ahead [][]byte, each func(parts [][]byte)) {
	if parts == 0 {
		if len(b) == 0 {
			each(ahead)
		}
		return
	}
	for n := range len(b) + 1 {
		everyWay(b[n:], parts-1, append(ahead[:len(ahead):len(ahead)], b[:n]), each)
	}
}

// 2.1 and 2.4: parts in every way come to what the whole does.
func TestPartsInEveryWay(t *testing.T) {
	for n := range 9 {
		b := mixed(n, 7)
		want := plain(0, b)
		ways := 0
		for parts := range 6 {
			everyWay(b, parts, nil, func(l [][]byte) {
				ways++
				isSum(t, fmt.Sprintf("Of %x", l), sum.Of(l...), want)
				c := uint32(0)
				for _, p := range l {
					c = sum.On(c, p)
				}
				isSum(t, fmt.Sprintf("On %x", l), c, want)
			})
		}
		if ways < 5 {
			t.Errorf("just %d ways of %d bytes", ways, n)
		}
	}
}

// 2.4: wherever the pieces end, and whatever sum they go on from.
func TestGoingOnByPieces(t *testing.T) {
	for _, c := range someSums() {
		for _, b := range someBytes() {
			want := sum.On(c, b)
			for n := range len(b) + 1 {
				isSum(t, fmt.Sprintf("On(%08x, %x and %x)", c, b[:n], b[n:]), sum.On(sum.On(c, b[:n]), b[n:]), want)
			}
		}
	}
	b := mixed(3000, 8)
	want := sum.Of(b)
	for n := range len(b) + 1 {
		isSum(t, fmt.Sprintf("%d bytes, then the others", n), sum.Of(b[:n], b[n:]), want)
	}
}

// 2.5: in one place, by whatever it differs.
func TestOnePlaceIsFound(t *testing.T) {
	for _, b := range append(someBytes(), mixed(300, 1)) {
		c := sum.Of(b)
		for at := range b {
			x := bytes.Clone(b)
			for d := 1; d < 256; d++ {
				x[at] = b[at] ^ byte(d)
				if sum.Of(x) == c {
					t.Fatalf("%x and %x have one sum", b, x)
				}
			}
		}
	}
}

// 2.5: in two places within four, by whatever they differ.
func TestTwoPlacesAreFound(t *testing.T) {
	b := mixed(9, 3)
	c := sum.Of(b)
	for _, gap := range []int{1, 2, 3} {
		for at := 0; at+gap < len(b); at += 3 {
			x := bytes.Clone(b)
			for d := 1; d < 1<<16; d++ {
				x[at], x[at+gap] = b[at]^byte(d>>8), b[at+gap]^byte(d)
				if sum.Of(x) == c {
					t.Fatalf("%x and %x have one sum", b, x)
				}
			}
		}
	}
}

// 2.5: in four places one behind the other, by a great many differences.
func TestFourPlacesAreFound(t *testing.T) {
	for _, size := range []int{4, 5, 11, 200} {
		b := mixed(size, 6)
		c := sum.Of(b)
		d := uint32(1)
		for k := range 20000 {
			d = d*1664525 + 1013904223
			if d == 0 {
				continue
			}
			at := k % (size - 3)
			x := bytes.Clone(b)
			for i := range 4 {
				x[at+i] ^= byte(d >> (8 * i))
			}
			if sum.Of(x) == c {
				t.Fatalf("%d bytes that differ by %08x from place %d on have one sum", size, d, at)
			}
		}
	}
}

// 2.5, for all differences within four places: by how much the sums differ is the xor of what each of their 32 bits
// alone makes, and none of these is the xor of some others, so that no difference comes to nothing.
func TestNoDifferenceWithinFourPlacesIsLost(t *testing.T) {
	for _, size := range []int{4, 9, 64, 1000} {
		b := mixed(size, 4)
		c := sum.Of(b)
		for _, at := range []int{0, (size - 4) / 2, size - 4} {
			var leading [32]uint32
			found := 0
			for p := range 32 {
				if keep(&leading, c^sum.Of(turned(b, at+p/8, p%8))) {
					found++
				}
			}
			is(t, fmt.Sprintf("bits of %d bytes from place %d on that stand alone", size, at), found, 32)
		}
	}
}

// keep takes x up by its highest bit, and answers false if it is the xor of some that were taken up ahead of it.
func keep(leading *[32]uint32, x uint32) bool {
	for k := 31; k >= 0; k-- {
		if x>>k&1 == 0 {
			continue
		}
		if leading[k] == 0 {
			leading[k] = x
			return true
		}
		x ^= leading[k]
	}
	return false
}

// 2.6.
func TestSealedIsRightTillABitIsTurned(t *testing.T) {
	for _, b := range append(someBytes(), mixed(100, 2), mixed(260, 3)) {
		s := sum.Seal(b)
		is(t, fmt.Sprintf("Right(Seal(%x))", b), sum.Right(s), true)
		for at := range s {
			for bit := range 8 {
				x := turned(s, at, bit)
				if sum.Right(x) {
					t.Fatalf("Right(%x) with bit %d of byte %d turned", x, bit, at)
				}
			}
		}
	}
}

// 2.6: what is sealed again is right again, of whatever size.
func TestSealedAgain(t *testing.T) {
	b := []byte("123456789")
	for range 20 {
		b = sum.Seal(b)
		is(t, fmt.Sprintf("Right(%x)", b), sum.Right(b), true)
	}
	is(t, "how many bytes", len(b), 9+20*4)
	for _, n := range []int{1 << 16, 1<<16 + 1, 1 << 18} {
		is(t, fmt.Sprintf("Right of %d bytes, sealed", n), sum.Right(sum.Seal(mixed(n, 1))), true)
	}
}
