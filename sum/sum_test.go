package sum_test

import (
	"bytes"
	"fmt"
	"hash/crc32"
	"math"
	"slices"
	"testing"

	"larch/api"
	"larch/sum"
)

// plain is the sum of b, going on from c, by the chapter's words: bit by bit.
func plain(c uint32, b []byte) uint32 {
	c = ^c
	for _, x := range b {
		c ^= uint32(x)
		for range 8 {
			if c%2 == 1 {
				c = c/2 ^ 0x82f63b78
			} else {
				c = c / 2
			}
		}
	}
	return ^c
}

func is(t *testing.T, what string, got, want any) {
	t.Helper()
	if got != want {
		t.Errorf("%s: %v, want %v", what, got, want)
	}
}

func isSum(t *testing.T, what string, got, want uint32) {
	t.Helper()
	if got != want {
		t.Errorf("%s: %08x, want %08x", what, got, want)
	}
}

func hasBytes(t *testing.T, what string, got, want []byte) {
	t.Helper()
	if !bytes.Equal(got, want) {
		t.Errorf("%s: %x, want %x", what, got, want)
	}
}

// mixed answers n bytes, with no rule that a sum could hang on, the same ones for each seed.
func mixed(n int, seed uint32) []byte {
	b := make([]byte, n)
	x := seed*2654435761 + 12345
	for i := range b {
		x = x*1664525 + 1013904223
		b[i] = byte(x >> 24)
	}
	return b
}

// someSums answers sums to go on from: noughts, ones, each bit alone, and others.
func someSums() []uint32 {
	l := []uint32{0, math.MaxUint32, 0xe3069283, 0x82f63b78, 0x7d09c487}
	for k := range 32 {
		l = append(l, 1<<k, ^uint32(1<<k))
	}
	return l
}

// someBytes answers lists of up to 16 bytes, with runs of noughts and of ones among them.
func someBytes() [][]byte {
	l := [][]byte{nil, {}, []byte("123456789")}
	for n := 1; n <= 16; n++ {
		l = append(l, make([]byte, n), bytes.Repeat([]byte{0xff}, n), mixed(n, 1), mixed(n, 2))
	}
	return l
}

// turned answers b with a bit of the byte at turned over.
func turned(b []byte, at, bit int) []byte {
	b = bytes.Clone(b)
	b[at] ^= 1 << bit
	return b
}

// The chapter's example, and what others found of this polynomial.
func TestExamples(t *testing.T) {
	isSum(t, "Of(123456789)", sum.Of([]byte("123456789")), 0xe3069283)
	isSum(t, "Of()", sum.Of(), 0)
	isSum(t, "Of(a)", sum.Of([]byte("a")), 0xc1d04330)
	isSum(t, "Of 32 noughts", sum.Of(make([]byte, 32)), 0x8a9136aa)
	isSum(t, "Of 32 times ff", sum.Of(bytes.Repeat([]byte{0xff}, 32)), 0x62a8ab43)
	up := make([]byte, 32)
	for i := range up {
		up[i] = byte(i)
	}
	isSum(t, "Of 0 to 31", sum.Of(up), 0x46dd794e)
	slices.Reverse(up)
	isSum(t, "Of 31 to 0", sum.Of(up), 0x113fdb5c)
}

// 2.1: no bytes leave a sum as it is.
func TestNoBytes(t *testing.T) {
	for _, c := range someSums() {
		isSum(t, "On no bytes (nil)", sum.On(c, nil), c)
		isSum(t, "On no bytes", sum.On(c, []byte{}), c)
	}
	isSum(t, "Of nil", sum.Of(nil), 0)
	isSum(t, "Of no parts", sum.Of([][]byte{}...), 0)
	isSum(t, "Of empty parts", sum.Of(nil, []byte{}, nil), 0)
}

// 2.1, Words.
func TestOneByteOfEveryValue(t *testing.T) {
	for v := range 256 {
		b := []byte{byte(v)}
		isSum(t, fmt.Sprintf("Of %02x", v), sum.Of(b), plain(0, b))
		for _, c := range someSums() {
			isSum(t, fmt.Sprintf("On(%08x, %02x)", c, v), sum.On(c, b), plain(c, b))
		}
	}
}

// 2.1, Words.
func TestTwoBytesOfEveryValue(t *testing.T) {
	for v := range 1 << 16 {
		b := []byte{byte(v >> 8), byte(v)}
		if got, want := sum.Of(b), plain(0, b); got != want {
			t.Fatalf("Of %04x: %08x, want %08x", v, got, want)
		}
	}
}

// 2.1, Words.
func TestMoreBytes(t *testing.T) {
	for _, b := range someBytes() {
		isSum(t, fmt.Sprintf("Of %x", b), sum.Of(b), plain(0, b))
		for _, c := range someSums() {
			isSum(t, fmt.Sprintf("On(%08x, %x)", c, b), sum.On(c, b), plain(c, b))
		}
	}
}

// 2.1: no bound is named for how many bytes there are, or how many parts.
func TestManyBytesAndParts(t *testing.T) {
	table := crc32.MakeTable(crc32.Castagnoli)
	for _, n := range []int{255, 256, 257, api.MaxBytes - 1, api.MaxBytes, api.MaxBytes + 1, 1 << 20} {
		b := mixed(n, uint32(n))
		isSum(t, fmt.Sprintf("Of %d bytes", n), sum.Of(b), crc32.Checksum(b, table))
		isSum(t, fmt.Sprintf("On %d bytes", n), sum.On(0x12345678, b), crc32.Update(0x12345678, table, b))
	}
	b := mixed(1<<17, 3)
	var parts [][]byte
	for i := range b {
		parts = append(parts, b[i:i+1])
	}
	isSum(t, "Of as many parts as bytes", sum.Of(parts...), crc32.Checksum(b, table))
}

// Limits, 2.2.
func TestTurnedRefuses(t *testing.T) {
	const most = api.MaxBytes
	refused := []struct{ size, at, bit int }{
		{0, 0, 0}, {0, -1, 0}, {-1, 0, 0}, {-1, -1, 0}, {-1, -2, 0}, {math.MinInt, 0, 0}, {math.MinInt, math.MinInt, 0},
		{most + 1, 0, 0}, {most + 1, most, 7}, {math.MaxInt, 0, 0}, {math.MaxInt, math.MaxInt - 1, 0},
		{1, -1, 0}, {1, 1, 0}, {1, 2, 0}, {9, -1, 0}, {9, 9, 0}, {9, 10, 7}, {most, most, 0}, {most, -1, 0},
		{9, math.MinInt, 0}, {9, math.MaxInt, 0},
		{1, 0, -1}, {1, 0, 8}, {9, 4, -1}, {9, 4, 8}, {9, 4, math.MinInt}, {9, 4, math.MaxInt},
		{9, 4, 16}, {9, 4, 32}, {9, 4, 64}, {most, 0, 8}, {most, most - 1, -1},
		{0, 0, 8}, {-1, -1, -1}, {most + 1, most + 1, 8}, {math.MinInt, math.MaxInt, math.MinInt},
	}
	for _, x := range refused {
		for _, c := range []uint32{0, 1, 0xe3069283, math.MaxUint32} {
			got, e := sum.Turned(c, x.size, x.at, x.bit)
			is(t, fmt.Sprintf("Turned(%08x, %d, %d, %d)", c, x.size, x.at, x.bit), e, api.ErrArg)
			isSum(t, "and its sum", got, 0)
		}
	}
}

// 2.2.
func TestTurnedAtEveryPlaceAndBit(t *testing.T) {
	for _, b := range someBytes() {
		for at := range b {
			for bit := range 8 {
				got, e := sum.Turned(sum.Of(b), len(b), at, bit)
				what := fmt.Sprintf("Turned(of %x, %d, %d, %d)", b, len(b), at, bit)
				is(t, what, e, api.OK)
				isSum(t, what, got, plain(0, turned(b, at, bit)))
			}
		}
	}
}

// 2.2, Limits: up to MaxBytes, at the first places and the last.
func TestTurnedOfManyBytes(t *testing.T) {
	table := crc32.MakeTable(crc32.Castagnoli)
	for _, size := range []int{255, 256, 4096, api.MaxBytes - 1, api.MaxBytes} {
		b := mixed(size, 5)
		for _, at := range []int{0, 1, 2, size / 2, size - 3, size - 2, size - 1} {
			for bit := range 8 {
				got, e := sum.Turned(sum.Of(b), size, at, bit)
				what := fmt.Sprintf("Turned(.., %d, %d, %d)", size, at, bit)
				is(t, what, e, api.OK)
				isSum(t, what, got, crc32.Checksum(turned(b, at, bit), table))
			}
		}
	}
}

// 2.2: bytes have each sum as they go on from some sum, so every sum is taken.
func TestTurnedOfEverySum(t *testing.T) {
	for _, from := range someSums() {
		for _, b := range [][]byte{{0}, {0xa5}, mixed(2, 1), mixed(7, 2)} {
			for at := range b {
				for bit := range 8 {
					got, e := sum.Turned(plain(from, b), len(b), at, bit)
					what := fmt.Sprintf("Turned(on %08x of %x, %d, %d, %d)", from, b, len(b), at, bit)
					is(t, what, e, api.OK)
					isSum(t, what, got, plain(from, turned(b, at, bit)))
				}
			}
		}
	}
}

// 2.2: a bit that is turned twice is as it was, and no order of turning is to be seen.
func TestTurnedAgain(t *testing.T) {
	b := mixed(9, 4)
	for p := range 72 {
		for q := range 72 {
			once, e := sum.Turned(sum.Of(b), 9, p/8, p%8)
			is(t, "Turned", e, api.OK)
			twice, e := sum.Turned(once, 9, q/8, q%8)
			is(t, "Turned again", e, api.OK)
			isSum(t, fmt.Sprintf("bits %d and %d", p, q), twice, plain(0, turned(turned(b, p/8, p%8), q/8, q%8)))
		}
	}
}

// 2.3.
func TestSeal(t *testing.T) {
	hasBytes(t, "Seal(123456789)", sum.Seal([]byte("123456789")), []byte("123456789\xe3\x06\x92\x83"))
	hasBytes(t, "Seal(nil)", sum.Seal(nil), []byte{0, 0, 0, 0})
	hasBytes(t, "Seal()", sum.Seal([]byte{}), []byte{0, 0, 0, 0})
	hasBytes(t, "Seal(a)", sum.Seal([]byte("a")), []byte("a\xc1\xd0\x43\x30"))
	list := append(someBytes(), mixed(api.MaxBytes, 1), mixed(api.MaxBytes+1, 1))
	for _, b := range list {
		c := plain(0, b)
		want := append(bytes.Clone(b), byte(c>>24), byte(c>>16), byte(c>>8), byte(c))
		if !bytes.Equal(sum.Seal(b), want) {
			t.Errorf("Seal of %d bytes %.16x..", len(b), b)
		}
	}
}

// 2.3.
func TestRight(t *testing.T) {
	tests := []struct {
		b    string
		want bool
	}{
		{"", false},
		{"\x00", false},
		{"\x00\x00", false},
		{"\x00\x00\x00", false},
		{"\xff\xff\xff", false},
		{"\x00\x00\x00\x00", true},
		{"\x00\x00\x00\x01", false},
		{"\x01\x00\x00\x00", false},
		{"\xff\xff\xff\xff", false},
		{"\x00\x00\x00\x00\x00", false},
		{"a\xc1\xd0\x43\x30", true},
		{"a\x30\x43\xd0\xc1", false},
		{"\xc1\xd0\x43\x30a", false},
		{"123456789\xe3\x06\x92\x83", true},
		{"123456789\x83\x92\x06\xe3", false},
		{"23456789\xe3\x06\x92\x83", false},
		{"123456789\xe3\x06\x92", false},
		{"123456789\xe3\x06\x92\x83\x00", false},
		{"123456789", false},
	}
	for _, c := range tests {
		is(t, fmt.Sprintf("Right(%q)", c.b), sum.Right([]byte(c.b)), c.want)
	}
	is(t, "Right(nil)", sum.Right(nil), false)
}

// 2.3: of all that may stand behind a few bytes in a place of the sum, just one value is right.
func TestRightTakesTheSumAlone(t *testing.T) {
	for _, b := range [][]byte{nil, {0}, {7}, []byte("123456789"), mixed(30, 1)} {
		s := sum.Seal(b)
		for at := len(b); at < len(s); at++ {
			for v := range 256 {
				x := bytes.Clone(s)
				x[at] = byte(v)
				is(t, fmt.Sprintf("Right(%x)", x), sum.Right(x), byte(v) == s[at])
			}
		}
	}
}

// Rule 4: no argument is changed, nor what lies behind it.
func TestArgumentsStay(t *testing.T) {
	room := mixed(64, 9)
	was := bytes.Clone(room)
	parts := [][]byte{room[:9], nil, room[9:20], room[3:7]}
	sum.Of(parts...)
	is(t, "parts", len(parts) == 4 && parts[1] == nil && &parts[0][0] == &room[0] && &parts[3][0] == &room[3], true)
	for n := range 40 {
		sum.On(5, room[:n])
		sum.Seal(room[:n])
		sum.Right(room[:n])
	}
	hasBytes(t, "what was handed in", room, was)
	sealed := append(sum.Seal(was[:20]), was...)
	kept := bytes.Clone(sealed)
	is(t, "Right", sum.Right(sealed[:24]), true)
	hasBytes(t, "what was asked", sealed, kept)
}

// Rule 4: what Seal answers is the caller's own.
func TestSealAnswersNewBytes(t *testing.T) {
	for _, n := range []int{0, 1, 4, 9} {
		b := mixed(n+16, 2)[:n]
		was := bytes.Clone(b[:n+16])
		first, second := sum.Seal(b), sum.Seal(b)
		want := bytes.Clone(second)
		for i := range first {
			first[i] ^= 0xff
		}
		hasBytes(t, "the other answer", second, want)
		hasBytes(t, "what was handed in", b[:n+16], was)
		for i := range b {
			b[i] ^= 0xff
		}
		hasBytes(t, "the answer, once what was handed in is changed", second, want)
	}
}
