package word_test

import (
	"bytes"
	"fmt"
	"math"
	"testing"

	"larch/api"
	"larch/word"
)

// sizes are the numbers of bytes that a number may have.
func sizes() []int { return []int{1, 2, 4, 8} }

// noSizes are some that it may not have; the last ones are a size in their low bits alone.
func noSizes() []int {
	l := []int{
		0, 3, 5, 6, 7, 9, 10, 12, 15, 16, 32, 64, 128, 255, 256, -1, -2, -3, -4, -8, -64,
		math.MaxInt, math.MaxInt - 1, math.MinInt, math.MinInt + 1, 1 << 61, 1 << 60, -(1 << 61),
	}
	for _, k := range sizes() {
		l = append(l, k+256, k+1<<16, k+1<<32, k+math.MinInt)
	}
	return l
}

func is(t *testing.T, what string, got, want any) {
	t.Helper()
	if got != want {
		t.Errorf("%s: %v, want %v", what, got, want)
	}
}

func hasBytes(t *testing.T, what string, got, want []byte) {
	t.Helper()
	if !bytes.Equal(got, want) {
		t.Errorf("%s: %.80x, want %.80x", what, got, want)
	}
}

// stands asks where a reader is.
func stands(t *testing.T, what string, r *word.Reader, at, left int) {
	t.Helper()
	is(t, what+": At", r.At(), at)
	is(t, what+": Left", r.Left(), left)
}

// reads asks for one number, and for where the reader is behind it.
func reads(t *testing.T, what string, r *word.Reader, read func(int) (int, api.Errno), k, want int) {
	t.Helper()
	at, left := r.At(), r.Left()
	n, e := read(k)
	is(t, what+": its error", e, api.OK)
	is(t, what, n, want)
	stands(t, what, r, at+k, left-k)
}

// noNumber asks for an error, with no number beside it, and that the reader stays where it is.
func noNumber(t *testing.T, what string, r *word.Reader, read func(int) (int, api.Errno), k int, want api.Errno) {
	t.Helper()
	at, left := r.At(), r.Left()
	n, e := read(k)
	is(t, what+": its error", e, want)
	is(t, what, n, 0)
	stands(t, what, r, at, left)
}

// readsBytes asks for bytes, and for where the reader is behind them.
func readsBytes(t *testing.T, what string, r *word.Reader, want []byte) {
	t.Helper()
	at, left := r.At(), r.Left()
	b, e := r.Bytes(len(want))
	is(t, what+": its error", e, api.OK)
	hasBytes(t, what, b, want)
	stands(t, what, r, at+len(want), left-len(want))
}

// noBytes asks for an error, with no bytes beside it, and that the reader stays where it is.
func noBytes(t *testing.T, what string, r *word.Reader, n int, want api.Errno) {
	t.Helper()
	at, left := r.At(), r.Left()
	b, e := r.Bytes(n)
	is(t, what+": its error", e, want)
	is(t, what+": how many bytes", len(b), 0)
	stands(t, what, r, at, left)
}

// holds asks for what a writer has.
func holds(t *testing.T, what string, w *word.Writer, want ...byte) {
	t.Helper()
	is(t, what+": Len", w.Len(), len(want))
	hasBytes(t, what+": All", w.All(), want)
}

// Example 1; and example 3 of the whole.
func TestExample(t *testing.T) {
	w := word.Make()
	is(t, "U(2, 258)", w.U(2, 258), api.OK)
	holds(t, "U(2, 258)", w, 1, 2)
	is(t, "S(1, -1)", w.S(1, -1), api.OK)
	holds(t, "S(1, -1)", w, 1, 2, 0xff)
	r := word.Read(w.All())
	reads(t, "U(2)", r, r.U, 2, 258)
	reads(t, "S(1)", r, r.S, 1, -1)
}

// edge is a number, and its bytes.
type edge struct {
	n int
	b []byte
}

// edgesU are numbers without a sign of each size: the least, the greatest, those beside them, and those in the middle.
func edgesU() []edge {
	return []edge{
		{0, []byte{0}}, {1, []byte{1}}, {127, []byte{0x7f}}, {128, []byte{0x80}}, {254, []byte{0xfe}}, {255, []byte{0xff}},
		{0, []byte{0, 0}}, {1, []byte{0, 1}}, {255, []byte{0, 255}}, {256, []byte{1, 0}}, {32767, []byte{0x7f, 0xff}},
		{32768, []byte{0x80, 0}}, {65534, []byte{0xff, 0xfe}}, {65535, []byte{0xff, 0xff}},
		{0, []byte{0, 0, 0, 0}}, {1, []byte{0, 0, 0, 1}}, {65536, []byte{0, 1, 0, 0}}, {0x01020304, []byte{1, 2, 3, 4}},
		{1<<31 - 1, []byte{0x7f, 0xff, 0xff, 0xff}}, {1 << 31, []byte{0x80, 0, 0, 0}},
		{1<<32 - 2, []byte{0xff, 0xff, 0xff, 0xfe}}, {1<<32 - 1, []byte{0xff, 0xff, 0xff, 0xff}},
		{0, []byte{0, 0, 0, 0, 0, 0, 0, 0}}, {1, []byte{0, 0, 0, 0, 0, 0, 0, 1}}, {1 << 32, []byte{0, 0, 0, 1, 0, 0, 0, 0}},
		{0x0102030405060708, []byte{1, 2, 3, 4, 5, 6, 7, 8}}, {1<<32 - 1, []byte{0, 0, 0, 0, 0xff, 0xff, 0xff, 0xff}},
		{math.MaxInt - 1, []byte{0x7f, 0xff, 0xff, 0xff, 0xff, 0xff, 0xff, 0xfe}},
		{math.MaxInt, []byte{0x7f, 0xff, 0xff, 0xff, 0xff, 0xff, 0xff, 0xff}},
	}
}

// edgesS are numbers with a sign of each size.
func edgesS() []edge {
	return []edge{
		{-128, []byte{0x80}}, {-127, []byte{0x81}}, {-1, []byte{0xff}}, {0, []byte{0}}, {1, []byte{1}}, {126, []byte{0x7e}},
		{127, []byte{0x7f}},
		{-32768, []byte{0x80, 0}}, {-32767, []byte{0x80, 1}}, {-256, []byte{0xff, 0}}, {-1, []byte{0xff, 0xff}},
		{0, []byte{0, 0}}, {128, []byte{0, 0x80}}, {258, []byte{1, 2}}, {32767, []byte{0x7f, 0xff}},
		{-1 << 31, []byte{0x80, 0, 0, 0}}, {-1<<31 + 1, []byte{0x80, 0, 0, 1}}, {-2, []byte{0xff, 0xff, 0xff, 0xfe}},
		{-1, []byte{0xff, 0xff, 0xff, 0xff}}, {0, []byte{0, 0, 0, 0}}, {32768, []byte{0, 0, 0x80, 0}},
		{0x01020304, []byte{1, 2, 3, 4}}, {1<<31 - 1, []byte{0x7f, 0xff, 0xff, 0xff}},
		{math.MinInt, []byte{0x80, 0, 0, 0, 0, 0, 0, 0}}, {math.MinInt + 1, []byte{0x80, 0, 0, 0, 0, 0, 0, 1}},
		{-1 << 32, []byte{0xff, 0xff, 0xff, 0xff, 0, 0, 0, 0}}, {-2, []byte{0xff, 0xff, 0xff, 0xff, 0xff, 0xff, 0xff, 0xfe}},
		{-1, []byte{0xff, 0xff, 0xff, 0xff, 0xff, 0xff, 0xff, 0xff}}, {0, []byte{0, 0, 0, 0, 0, 0, 0, 0}},
		{1 << 31, []byte{0, 0, 0, 0, 0x80, 0, 0, 0}}, {0x0102030405060708, []byte{1, 2, 3, 4, 5, 6, 7, 8}},
		{math.MaxInt, []byte{0x7f, 0xff, 0xff, 0xff, 0xff, 0xff, 0xff, 0xff}},
	}
}

// 6.1: U of a reader, alone, and with other bytes ahead and behind.
func TestReadWithoutSign(t *testing.T) {
	for _, c := range edgesU() {
		what := fmt.Sprintf("U of %x", c.b)
		r := word.Read(c.b)
		reads(t, what, r, r.U, len(c.b), c.n)
		r = word.Read(append(append([]byte{0x99}, c.b...), 0x77))
		reads(t, what+", ahead", r, r.U, 1, 0x99)
		reads(t, what+", within", r, r.U, len(c.b), c.n)
		reads(t, what+", behind", r, r.U, 1, 0x77)
	}
}

// 6.1: S of a reader.
func TestReadWithSign(t *testing.T) {
	for _, c := range edgesS() {
		what := fmt.Sprintf("S of %x", c.b)
		r := word.Read(c.b)
		reads(t, what, r, r.S, len(c.b), c.n)
		r = word.Read(append(append([]byte{0x99}, c.b...), 0x77))
		reads(t, what+", ahead", r, r.S, 1, -0x67)
		reads(t, what+", within", r, r.S, len(c.b), c.n)
		reads(t, what+", behind", r, r.S, 1, 0x77)
	}
}

// Words: the highest byte is the first.
func TestEachByteCounts(t *testing.T) {
	for _, k := range sizes() {
		for i := range k {
			for _, x := range []byte{1, 0x10, 0x7f, 0x80, 0xff} {
				b := make([]byte, k)
				b[i] = x
				want := int(x) << (8 * (k - 1 - i))
				if k == 8 && i == 0 && x >= 0x80 {
					r := word.Read(b)
					noNumber(t, fmt.Sprintf("U(%d) of %x", k, b), r, r.U, k, api.ErrLong)
				} else {
					r := word.Read(b)
					reads(t, fmt.Sprintf("U(%d) of %x", k, b), r, r.U, k, want)
				}
				if i == 0 && x >= 0x80 && k < 8 {
					want -= 1 << (8 * k)
				}
				r := word.Read(b)
				reads(t, fmt.Sprintf("S(%d) of %x", k, b), r, r.S, k, want)
			}
		}
	}
}

// Errors, 6.1, P2: ErrArg of a number of bytes that a number may not have, also where the bytes end.
func TestReadOfNoSize(t *testing.T) {
	for _, k := range noSizes() {
		for _, b := range [][]byte{nil, {}, {1}, {0xff, 0xff, 0xff}, bytes.Repeat([]byte{0xff}, 300)} {
			what := fmt.Sprintf("%d bytes, of size %d", len(b), k)
			r := word.Read(b)
			noNumber(t, "U, "+what, r, r.U, k, api.ErrArg)
			noNumber(t, "S, "+what, r, r.S, k, api.ErrArg)
			readsBytes(t, "Bytes behind, "+what, r, b)
			noNumber(t, "U at the end, "+what, r, r.U, k, api.ErrArg)
			noNumber(t, "S at the end, "+what, r, r.S, k, api.ErrArg)
		}
	}
}

// Errors, 6.1, P2: bytes that end, anywhere within a number; what is there is still read.
func TestReadShort(t *testing.T) {
	for _, k := range sizes() {
		for have := range k {
			for _, x := range []byte{0, 0x7f, 0xff} {
				b := bytes.Repeat([]byte{x}, have)
				what := fmt.Sprintf("%x, of size %d", b, k)
				r := word.Read(b)
				noNumber(t, "U, "+what, r, r.U, k, api.ErrShort)
				noNumber(t, "S, "+what, r, r.S, k, api.ErrShort)
				noBytes(t, "Bytes, "+what, r, k, api.ErrShort)
				for range have {
					reads(t, "U(1) behind, "+what, r, r.U, 1, int(x))
					noNumber(t, "U behind it, "+what, r, r.U, k, api.ErrShort)
					noNumber(t, "S behind it, "+what, r, r.S, k, api.ErrShort)
				}
			}
		}
	}
}

// Errors, 6.1, P2: U of eight bytes above 2^63 - 1; they are still read otherwise.
func TestReadLong(t *testing.T) {
	for _, b := range [][]byte{
		{0x80, 0, 0, 0, 0, 0, 0, 0}, {0x80, 0, 0, 0, 0, 0, 0, 1}, {0xff, 0, 0, 0, 0, 0, 0, 0},
		{0xc0, 0, 0, 0, 0, 0, 0, 0}, {0xff, 0xff, 0xff, 0xff, 0xff, 0xff, 0xff, 0xff}, {0x81, 2, 3, 4, 5, 6, 7, 8},
	} {
		what := fmt.Sprintf("%x", b)
		r := word.Read(append([]byte{9}, b...))
		reads(t, "U(1) ahead of "+what, r, r.U, 1, 9)
		noNumber(t, "U(8) of "+what, r, r.U, 8, api.ErrLong)
		noNumber(t, "U(8) again of "+what, r, r.U, 8, api.ErrLong)
		readsBytes(t, "Bytes(8) of "+what, r, b)
		r = word.Read(b)
		noNumber(t, "U(8) of "+what, r, r.U, 8, api.ErrLong)
		reads(t, "U(1) of "+what, r, r.U, 1, int(b[0]))
		noNumber(t, "U(8) of seven bytes of "+what, r, r.U, 8, api.ErrShort)
		r = word.Read(b)
		noNumber(t, "U(8) of "+what, r, r.U, 8, api.ErrLong)
		n, e := r.S(8)
		is(t, "S(8) behind U(8) of "+what, e, api.OK)
		is(t, "S(8) is below 0: "+what, n < 0, true)
		stands(t, "S(8) of "+what, r, 8, 0)
	}
}

// 6.1, Errors, P2: Bytes of a reader, at each place, of each number.
func TestReadBytes(t *testing.T) {
	all := []byte{10, 11, 12, 13, 14}
	at := func(place int) *word.Reader {
		r := word.Read(all)
		readsBytes(t, fmt.Sprintf("the first %d", place), r, all[:place])
		return r
	}
	for place := range len(all) + 1 {
		for n := range len(all) - place + 1 {
			r := at(place)
			readsBytes(t, fmt.Sprintf("%d bytes at %d", n, place), r, all[place:place+n])
			readsBytes(t, fmt.Sprintf("those behind %d bytes at %d", n, place), r, all[place+n:])
		}
		left := len(all) - place
		for _, n := range []int{left + 1, left + 2, len(all) + 1, 256, 1 << 32, 1<<32 + left, math.MaxInt - 1, math.MaxInt, math.MaxInt - place, math.MaxInt - place + 1} {
			if n > left {
				noBytes(t, fmt.Sprintf("%d bytes at %d", n, place), at(place), n, api.ErrShort)
			}
		}
		for _, n := range []int{-1, -2, -place, -left, -len(all), -256, -(1 << 32), math.MinInt + 1, math.MinInt} {
			if n < 0 {
				noBytes(t, fmt.Sprintf("%d bytes at %d", n, place), at(place), n, api.ErrArg)
			}
		}
	}
}

// 6.1, rule 3: a reader of no bytes is a reader.
func TestReadNothing(t *testing.T) {
	for _, b := range [][]byte{nil, {}} {
		r := word.Read(b)
		stands(t, "a reader of nothing", r, 0, 0)
		for _, k := range sizes() {
			noNumber(t, "U of nothing", r, r.U, k, api.ErrShort)
			noNumber(t, "S of nothing", r, r.S, k, api.ErrShort)
		}
		readsBytes(t, "Bytes(0) of nothing", r, nil)
		noBytes(t, "Bytes(1) of nothing", r, 1, api.ErrShort)
		noBytes(t, "Bytes(-1) of nothing", r, -1, api.ErrArg)
	}
}

// 6.1: a place goes on behind each call, whatever came before.
func TestReadAllKinds(t *testing.T) {
	b := []byte{1, 2, 3, 4, 0xff, 0xfe, 0, 0, 0, 0, 0, 0, 0, 5, 0xff, 0xff, 0xff, 0xf9, 7, 8, 9, 0x80}
	r := word.Read(b)
	stands(t, "at the beginning", r, 0, 22)
	reads(t, "U(4)", r, r.U, 4, 0x01020304)
	reads(t, "S(2)", r, r.S, 2, -2)
	noNumber(t, "U(3)", r, r.U, 3, api.ErrArg)
	reads(t, "U(8)", r, r.U, 8, 5)
	reads(t, "S(4)", r, r.S, 4, -7)
	noNumber(t, "S(8)", r, r.S, 8, api.ErrShort)
	readsBytes(t, "Bytes(0)", r, nil)
	readsBytes(t, "Bytes(3)", r, []byte{7, 8, 9})
	noBytes(t, "Bytes(2)", r, 2, api.ErrShort)
	reads(t, "S(1)", r, r.S, 1, -128)
	stands(t, "at the end", r, 22, 0)
	noNumber(t, "U(1) at the end", r, r.U, 1, api.ErrShort)
	readsBytes(t, "Bytes(0) at the end", r, nil)
}

// 6.2: a writer of nothing; All of it is no bytes, and calls without numbers write none.
func TestWriteNothing(t *testing.T) {
	w := word.Make()
	holds(t, "Make", w)
	for _, k := range sizes() {
		is(t, fmt.Sprintf("U(%d)", k), w.U(k), api.OK)
		is(t, fmt.Sprintf("S(%d)", k), w.S(k), api.OK)
		is(t, fmt.Sprintf("U(%d, none)", k), w.U(k, []int{}...), api.OK)
		is(t, fmt.Sprintf("S(%d, none)", k), w.S(k, []int{}...), api.OK)
		holds(t, "no numbers", w)
		is(t, fmt.Sprintf("Patch(0, %d, 0)", k), w.Patch(0, k, 0), api.ErrArg)
	}
	is(t, "Bytes()", w.Bytes(), api.OK)
	is(t, "Bytes(none)", w.Bytes([]byte{}...), api.OK)
	holds(t, "no bytes", w)
	is(t, "U(1, 7)", w.U(1, 7), api.OK)
	is(t, "U(1)", w.U(1), api.OK)
	is(t, "Bytes()", w.Bytes(), api.OK)
	holds(t, "one number, and none", w, 7)
}

// 6.2: U of a writer.
func TestWriteWithoutSign(t *testing.T) {
	for _, c := range edgesU() {
		what := fmt.Sprintf("U(%d, %d)", len(c.b), c.n)
		w := word.Make()
		is(t, what, w.U(len(c.b), c.n), api.OK)
		holds(t, what, w, c.b...)
		is(t, what+" twice more", w.U(len(c.b), c.n, c.n), api.OK)
		holds(t, what+" thrice", w, bytes.Repeat(c.b, 3)...)
	}
}

// 6.2: S of a writer.
func TestWriteWithSign(t *testing.T) {
	for _, c := range edgesS() {
		what := fmt.Sprintf("S(%d, %d)", len(c.b), c.n)
		w := word.Make()
		is(t, what, w.S(len(c.b), c.n), api.OK)
		holds(t, what, w, c.b...)
		is(t, what+" twice more", w.S(len(c.b), c.n, c.n), api.OK)
		holds(t, what+" thrice", w, bytes.Repeat(c.b, 3)...)
	}
}

// 6.2: several numbers in one call stand one behind the other, as they were handed in.
func TestWriteSeveral(t *testing.T) {
	w := word.Make()
	is(t, "U(1, ..)", w.U(1, 1, 0, 255), api.OK)
	holds(t, "U(1, ..)", w, 1, 0, 255)
	is(t, "U(2, ..)", w.U(2, 258, 0, 65535), api.OK)
	holds(t, "U(2, ..)", w, 1, 0, 255, 1, 2, 0, 0, 255, 255)
	is(t, "S(2, ..)", w.S(2, -2, 3), api.OK)
	holds(t, "S(2, ..)", w, 1, 0, 255, 1, 2, 0, 0, 255, 255, 255, 254, 0, 3)

	w = word.Make()
	is(t, "S(4, ..)", w.S(4, -1<<31, 1<<31-1), api.OK)
	holds(t, "S(4, ..)", w, 0x80, 0, 0, 0, 0x7f, 255, 255, 255)
	is(t, "Bytes(..)", w.Bytes(9, 8, 7), api.OK)
	is(t, "Bytes(9)", w.Bytes(9), api.OK)
	is(t, "U(8, ..)", w.U(8, 1, 2), api.OK)
	holds(t, "all", w, 0x80, 0, 0, 0, 0x7f, 255, 255, 255, 9, 8, 7, 9, 0, 0, 0, 0, 0, 0, 0, 1, 0, 0, 0, 0, 0, 0, 0, 2)
}

// tooGreat are numbers without a sign that do not fit k bytes.
func tooGreat(k int) []int {
	l := []int{-1, -2, -255, -256, -1 << 31, -1 << 32, math.MinInt, math.MinInt + 1}
	if k < 8 {
		l = append(l, 1<<(8*k), 1<<(8*k)+1, 1<<(8*k+1), 1<<62, math.MaxInt, math.MaxInt-1)
	}
	return l
}

// tooFar are numbers with a sign that do not fit k bytes; all fit eight.
func tooFar(k int) []int {
	if k == 8 {
		return nil
	}
	half := 1 << (8*k - 1)
	return []int{
		half, half + 1, -half - 1, -half - 2, 2*half - 1, 2 * half, 2*half + 1, -2*half + 1, -2 * half, -2*half - 1,
		1 << 62, -1 << 62, math.MaxInt, math.MinInt,
	}
}

// Errors, 6.2, P2: where one number does not fit nothing is written, wherever it stands in the list.
func TestWriteOfNumbersThatDoNotFit(t *testing.T) {
	for _, k := range sizes() {
		for _, n := range tooGreat(k) {
			refusesNumber(t, fmt.Sprintf("U(%d, %d)", k, n), n, func(w *word.Writer, l ...int) api.Errno { return w.U(k, l...) })
		}
		for _, n := range tooFar(k) {
			refusesNumber(t, fmt.Sprintf("S(%d, %d)", k, n), n, func(w *word.Writer, l ...int) api.Errno { return w.S(k, l...) })
		}
	}
}

// refusesNumber asks for ErrArg of n, alone and at each place of a list, on a writer of nothing and on one of bytes.
func refusesNumber(t *testing.T, what string, n int, write func(w *word.Writer, l ...int) api.Errno) {
	t.Helper()
	for _, l := range [][]int{{n}, {1, n}, {n, 1}, {0, 1, 2, n}, {0, n, 2, 3}, {n, n}} {
		w := word.Make()
		is(t, what+": its error", write(w, l...), api.ErrArg)
		holds(t, what, w)
		w.Bytes(5, 6)
		is(t, what+": its error", write(w, l...), api.ErrArg)
		holds(t, what, w, 5, 6)
		is(t, what+", left out", write(w, 1), api.OK)
		is(t, what+", left out: Bytes", w.Bytes(7), api.OK)
		b := w.All()
		hasBytes(t, what+": ahead", b[:2], []byte{5, 6})
		hasBytes(t, what+": behind", b[len(b)-2:], []byte{1, 7})
	}
}

// Errors, 6.2, P2: ErrArg of a number of bytes that a number may not have, also with no numbers.
func TestWriteOfNoSize(t *testing.T) {
	for _, k := range noSizes() {
		w := word.Make()
		for _, have := range [][]byte{nil, {1, 2, 3, 4, 5, 6, 7, 8, 9, 10}} {
			w.Bytes(have...)
			for _, l := range [][]int{nil, {}, {0}, {1, 2}, {-1}, {math.MaxInt}, {math.MinInt}} {
				what := fmt.Sprintf("(%d, %v)", k, l)
				is(t, "U"+what, w.U(k, l...), api.ErrArg)
				is(t, "S"+what, w.S(k, l...), api.ErrArg)
				holds(t, what, w, have...)
			}
		}
	}
}

// 6.2: Patch of all places that were written, of each size.
func TestPatch(t *testing.T) {
	have := []byte{10, 11, 12, 13, 14, 15, 16, 17, 18, 19}
	for _, c := range edgesU() {
		k := len(c.b)
		for at := range len(have) - k + 1 {
			what := fmt.Sprintf("Patch(%d, %d, %d)", at, k, c.n)
			w := word.Make()
			w.Bytes(have...)
			is(t, what, w.Patch(at, k, c.n), api.OK)
			want := bytes.Clone(have)
			copy(want[at:], c.b)
			holds(t, what, w, want...)
			is(t, what+", Bytes behind", w.Bytes(77), api.OK)
			holds(t, what+", Bytes behind", w, append(want, 77)...)
		}
	}
}

// Errors, 6.2, P2: Patch of places that were not written, not even in part.
func TestPatchOfOtherPlaces(t *testing.T) {
	have := []byte{10, 11, 12, 13, 14, 15, 16, 17, 18, 19}
	for size := range len(have) + 1 {
		w := word.Make()
		w.Bytes(have[:size]...)
		for _, k := range sizes() {
			for at := -20; at < 20; at++ {
				if at >= 0 && at+k <= size {
					continue
				}
				is(t, fmt.Sprintf("of %d bytes: Patch(%d, %d, 1)", size, at, k), w.Patch(at, k, 1), api.ErrArg)
			}
			for _, at := range []int{
				math.MaxInt, math.MaxInt - 1, math.MaxInt - k, math.MaxInt - k + 1, math.MinInt, math.MinInt + 1,
				math.MinInt + k, 1 << 32, -1 << 32, 1 << 62,
			} {
				is(t, fmt.Sprintf("of %d bytes: Patch(%d, %d, 1)", size, at, k), w.Patch(at, k, 1), api.ErrArg)
			}
		}
		holds(t, fmt.Sprintf("of %d bytes", size), w, have[:size]...)
	}
}

// Errors, 6.2, P2: Patch with a number of bytes that a number may not have, or with a number that does not fit.
func TestPatchOfWrongNumbers(t *testing.T) {
	have := []byte{10, 11, 12, 13, 14, 15, 16, 17, 18, 19}
	w := word.Make()
	w.Bytes(have...)
	for _, k := range noSizes() {
		for _, at := range []int{0, 1, 9, 10, -1, math.MaxInt, math.MinInt} {
			for _, n := range []int{0, 1, -1, math.MaxInt} {
				is(t, fmt.Sprintf("Patch(%d, %d, %d)", at, k, n), w.Patch(at, k, n), api.ErrArg)
			}
		}
	}
	for _, k := range sizes() {
		for _, n := range tooGreat(k) {
			for _, at := range []int{0, 1, 2, 10 - k} {
				is(t, fmt.Sprintf("Patch(%d, %d, %d)", at, k, n), w.Patch(at, k, n), api.ErrArg)
			}
		}
	}
	holds(t, "behind all of them", w, have...)
}

// 6.2: what is patched may be patched again, and what is written behind a patch stands at the end.
func TestPatchAndGoOn(t *testing.T) {
	w := word.Make()
	w.U(4, 0)
	w.Bytes(1, 2, 3)
	is(t, "Patch(0, 4, 3)", w.Patch(0, 4, 3), api.OK)
	holds(t, "patched", w, 0, 0, 0, 3, 1, 2, 3)
	is(t, "S(2, -1)", w.S(2, -1), api.OK)
	holds(t, "written behind", w, 0, 0, 0, 3, 1, 2, 3, 255, 255)
	is(t, "Patch(7, 2, 5)", w.Patch(7, 2, 5), api.OK)
	is(t, "Patch(0, 4, 5)", w.Patch(0, 4, 5), api.OK)
	is(t, "Patch(3, 1, 9)", w.Patch(3, 1, 9), api.OK)
	is(t, "Patch(9, 1, 9)", w.Patch(9, 1, 9), api.ErrArg)
	holds(t, "patched again", w, 0, 0, 0, 9, 1, 2, 3, 0, 5)
}

// Rule 2: readers that no call made, whatever they are asked, also what is refused otherwise.
func TestNoReader(t *testing.T) {
	for _, r := range []*word.Reader{nil, {}, new(word.Reader)} {
		for _, k := range append(sizes(), noSizes()...) {
			noNumber(t, fmt.Sprintf("U(%d) of no reader", k), r, r.U, k, api.ErrNil)
			noNumber(t, fmt.Sprintf("S(%d) of no reader", k), r, r.S, k, api.ErrNil)
			noBytes(t, fmt.Sprintf("Bytes(%d) of no reader", k), r, k, api.ErrNil)
		}
		stands(t, "no reader", r, 0, 0)
	}
}

// Rule 2: writers that no call made.
func TestNoWriter(t *testing.T) {
	for _, w := range []*word.Writer{nil, {}, new(word.Writer)} {
		for _, k := range append(sizes(), noSizes()...) {
			for _, l := range [][]int{nil, {}, {0}, {-1, 1}, {math.MaxInt}} {
				is(t, fmt.Sprintf("U(%d, %v) of no writer", k, l), w.U(k, l...), api.ErrNil)
				is(t, fmt.Sprintf("S(%d, %v) of no writer", k, l), w.S(k, l...), api.ErrNil)
			}
			is(t, fmt.Sprintf("Patch(0, %d, 0) of no writer", k), w.Patch(0, k, 0), api.ErrNil)
			is(t, fmt.Sprintf("Patch(-1, %d, -1) of no writer", k), w.Patch(-1, k, -1), api.ErrNil)
		}
		is(t, "Bytes() of no writer", w.Bytes(), api.ErrNil)
		is(t, "Bytes(1) of no writer", w.Bytes(1), api.ErrNil)
		holds(t, "no writer", w)
	}
}

// Rule 4: what is handed to a reader is neither changed nor kept.
func TestReadKeepsNothing(t *testing.T) {
	b := []byte{1, 2, 3, 4, 5, 6, 7, 8}
	r, other := word.Read(b), word.Read(b)
	reads(t, "U(2)", r, r.U, 2, 258)
	clear(b)
	reads(t, "U(2), once the bytes were changed", r, r.U, 2, 772)
	readsBytes(t, "Bytes(4), once the bytes were changed", r, []byte{5, 6, 7, 8})
	hasBytes(t, "the bytes", b, make([]byte, 8))
	readsBytes(t, "another reader of them", other, []byte{1, 2, 3, 4, 5, 6, 7, 8})

	long := []byte{1, 2, 3, 4}
	r = word.Read(long[:2])
	noNumber(t, "U(4) of two bytes of four", r, r.U, 4, api.ErrShort)
	readsBytes(t, "two bytes of four", r, []byte{1, 2})
	hasBytes(t, "all four", long, []byte{1, 2, 3, 4})
}

// Rule 4: what a reader hands out is the caller's own, also what he puts behind it.
func TestReadHandsOut(t *testing.T) {
	r := word.Read([]byte{1, 2, 3, 4, 5, 6})
	first, _ := r.Bytes(2)
	_ = append(first, 9, 9, 9, 9)
	none, _ := r.Bytes(0)
	_ = append(none, 8, 8, 8, 8)
	second, _ := r.Bytes(2)
	clear(first)
	_ = append(first, 7, 7)
	hasBytes(t, "the second", second, []byte{3, 4})
	reads(t, "those behind", r, r.U, 2, 5*256+6)
}

// Rule 4: what is handed to a writer is neither changed nor kept.
func TestWriteKeepsNothing(t *testing.T) {
	b, l := []byte{1, 2, 3}, []int{4, 5}
	w := word.Make()
	w.Bytes(b...)
	w.U(1, l...)
	w.S(1, l...)
	w.Bytes(b...)
	w.Patch(0, 2, 0x0908)
	w.Patch(9, 1, 7)
	hasBytes(t, "the bytes", b, []byte{1, 2, 3})
	is(t, "the numbers", fmt.Sprint(l), "[4 5]")
	clear(b)
	clear(l)
	holds(t, "once they were changed", w, 9, 8, 3, 4, 5, 4, 5, 1, 2, 7)

	long := []byte{1, 2, 3, 4}
	w = word.Make()
	w.Bytes(long[:2]...)
	w.Bytes(8, 9)
	hasBytes(t, "bytes with others behind them", long, []byte{1, 2, 3, 4})
	holds(t, "two of four, and two", w, 1, 2, 8, 9)
}

// Rule 4: what a writer hands out is the caller's own.
func TestWriteHandsOut(t *testing.T) {
	w := word.Make()
	none := w.All()
	w.U(2, 1, 2, 3)
	first := w.All()
	w.Patch(0, 2, 9)
	w.Bytes(5)
	hasBytes(t, "All of nothing, later", none, nil)
	hasBytes(t, "All, later", first, []byte{0, 1, 0, 2, 0, 3})
	second := w.All()
	_ = append(second, 6, 6, 6, 6, 6, 6, 6, 6)
	clear(second)
	clear(first)
	holds(t, "once what it told was changed", w, 0, 9, 0, 2, 0, 3, 5)
	w.Bytes(7)
	holds(t, "and more", w, 0, 9, 0, 2, 0, 3, 5, 7)
}

// 6.2: writers have nothing to do with each other, nor with the readers of what they wrote.
func TestWritersApart(t *testing.T) {
	a, b := word.Make(), word.Make()
	a.U(1, 1, 2)
	b.U(1, 3)
	r := word.Read(a.All())
	a.Patch(0, 2, 0)
	b.Bytes(4, 5)
	holds(t, "the one", a, 0, 0)
	holds(t, "the other", b, 3, 4, 5)
	readsBytes(t, "a reader of the one", r, []byte{1, 2})
}
