package word_test

import (
	"bytes"
	"fmt"
	"math"
	"math/big"
	"math/rand"
	"testing"

	"larch/api"
	"larch/word"
)

// isOne holds for the numbers of bytes that a number may have, by the chapter's words.
func isOne(k int) bool {
	for _, s := range sizes() {
		if s == k {
			return true
		}
	}
	return false
}

// power answers 2 to the n.
func power(n int) *big.Int { return new(big.Int).Lsh(big.NewInt(1), uint(n)) }

// unsigned answers what bytes are without a sign.
func unsigned(b []byte) *big.Int { return new(big.Int).SetBytes(b) }

// signed answers what bytes are with a sign.
func signed(b []byte) *big.Int {
	n := unsigned(b)
	if n.Cmp(power(8*len(b)-1)) >= 0 {
		n.Sub(n, power(8*len(b)))
	}
	return n
}

// laid answers n's k bytes, and whether it fits them.
func laid(n, k int, sign bool) ([]byte, bool) {
	x, low, high := big.NewInt(int64(n)), big.NewInt(0), power(8*k)
	if sign {
		low, high = new(big.Int).Neg(power(8*k-1)), power(8*k-1)
	}
	if x.Cmp(low) < 0 || x.Cmp(high) >= 0 {
		return nil, false
	}
	if x.Sign() < 0 {
		x.Add(x, power(8*k))
	}
	return x.FillBytes(make([]byte, k)), true
}

// anyNumber answers a number near a power of 2, of either sign.
func anyNumber(g *rand.Rand) int {
	switch g.Intn(6) {
	case 0:
		return int(g.Uint64())
	case 1:
		return g.Intn(300) - 30
	}
	n := 1<<g.Intn(64) + g.Intn(5) - 2
	if g.Intn(2) == 0 {
		return -n
	}
	return n
}

// anySize answers mostly a number of bytes that a number may have.
func anySize(g *rand.Rand) int {
	if g.Intn(8) == 0 {
		l := noSizes()
		return l[g.Intn(len(l))]
	}
	return sizes()[g.Intn(4)]
}

func anyBytes(g *rand.Rand, n int) []byte {
	b := make([]byte, n)
	for i := range b {
		b[i] = []byte{0, 0x7f, 0x80, 0xff, byte(g.Intn(256)), byte(g.Intn(256))}[g.Intn(6)]
	}
	return b
}

// item is a number or bytes that were written.
type item struct {
	k    int // 0: bytes
	sign bool
	n    int
	b    []byte
}

// written writes a list of items, some of them several to a call, and answers them with all bytes.
func written(t *testing.T, g *rand.Rand) ([]item, []byte) {
	t.Helper()
	var items []item
	w := word.Make()
	for range g.Intn(30) {
		if g.Intn(4) == 0 {
			b := anyBytes(g, g.Intn(6))
			is(t, "Bytes", w.Bytes(b...), api.OK)
			items = append(items, item{b: b})
			continue
		}
		k, sign, l := sizes()[g.Intn(4)], g.Intn(2) == 0, []int{}
		for range g.Intn(4) {
			n := anyNumber(g)
			for _, ok := laid(n, k, sign); !ok; _, ok = laid(n, k, sign) {
				n = anyNumber(g)
			}
			l = append(l, n)
			items = append(items, item{k: k, sign: sign, n: n})
		}
		write := w.U
		if sign {
			write = w.S
		}
		is(t, fmt.Sprintf("numbers of %d, sign %v: %v", k, sign, l), write(k, l...), api.OK)
	}
	return items, w.All()
}

// 6.3.
func TestWhatIsWrittenIsRead(t *testing.T) {
	for seed := range int64(3000) {
		g := rand.New(rand.NewSource(seed))
		items, b := written(t, g)
		r := word.Read(b)
		for i, x := range items {
			what := fmt.Sprintf("seed %d, item %d", seed, i)
			switch {
			case x.k == 0:
				readsBytes(t, what, r, x.b)
			case x.sign:
				reads(t, what, r, r.S, x.k, x.n)
			default:
				reads(t, what, r, r.U, x.k, x.n)
			}
		}
		stands(t, fmt.Sprintf("seed %d, at the end", seed), r, len(b), 0)
		if t.Failed() {
			return
		}
	}
}

// 6.3: what is read, if it is written again, is the same bytes.
func TestWhatIsReadIsWritten(t *testing.T) {
	for seed := range int64(2000) {
		g := rand.New(rand.NewSource(seed))
		b := anyBytes(g, g.Intn(60))
		r, w := word.Read(b), word.Make()
		for r.Left() > 0 {
			k := sizes()[g.Intn(4)]
			if n, e := r.U(k); g.Intn(2) == 0 && e == api.OK {
				is(t, fmt.Sprintf("U(%d, %d)", k, n), w.U(k, n), api.OK)
			} else if e == api.OK {
				if k < 8 && n >= 1<<(8*k-1) {
					n -= 1 << (8 * k)
				}
				is(t, fmt.Sprintf("S(%d, %d)", k, n), w.S(k, n), api.OK)
			} else if n, e := r.S(k); e == api.OK {
				is(t, fmt.Sprintf("S(%d, %d)", k, n), w.S(k, n), api.OK)
			} else {
				x, _ := r.Bytes(1)
				is(t, "Bytes", w.Bytes(x...), api.OK)
			}
		}
		holds(t, fmt.Sprintf("seed %d", seed), w, b...)
		if t.Failed() {
			return
		}
	}
}

// differ asks for U and S of the same bytes, and for what lies between them.
func differ(t *testing.T, b []byte) {
	t.Helper()
	k := len(b)
	u, e := word.Read(b).U(k)
	is(t, fmt.Sprintf("U of %x: its error", b), e, api.OK)
	s, e := word.Read(b).S(k)
	is(t, fmt.Sprintf("S of %x: its error", b), e, api.OK)
	want := 0
	if b[0] >= 0x80 {
		want = 1 << (8 * k)
	}
	is(t, fmt.Sprintf("U of %x without S of it", b), u-s, want)
	is(t, fmt.Sprintf("U of %x", b), big.NewInt(int64(u)).Cmp(unsigned(b)), 0)
}

// 6.4: all of one and of two bytes, many of four.
func TestSignedAndUnsigned(t *testing.T) {
	for x := range 1 << 16 {
		differ(t, []byte{byte(x >> 8), byte(x)})
		if x < 256 {
			differ(t, []byte{byte(x)})
		}
		if t.Failed() {
			return
		}
	}
	g := rand.New(rand.NewSource(4))
	for range 20000 {
		differ(t, anyBytes(g, 4))
	}
}

// 6.4 leaves out eight bytes: there U and S are the same, or U is refused just where S is below 0.
func TestSignedAndUnsignedOfEight(t *testing.T) {
	g := rand.New(rand.NewSource(8))
	for range 20000 {
		b := anyBytes(g, 8)
		s, e := word.Read(b).S(8)
		is(t, fmt.Sprintf("S of %x: its error", b), e, api.OK)
		is(t, fmt.Sprintf("S of %x", b), big.NewInt(int64(s)).Cmp(signed(b)), 0)
		u, e := word.Read(b).U(8)
		if s < 0 {
			is(t, fmt.Sprintf("U of %x: its error", b), e, api.ErrLong)
			is(t, fmt.Sprintf("U of %x", b), u, 0)
		} else {
			is(t, fmt.Sprintf("U of %x: its error", b), e, api.OK)
			is(t, fmt.Sprintf("U of %x", b), u, s)
		}
	}
}

// plainRead answers what a reader answers that has b left, by the chapter's words, and how far it goes.
func plainRead(b []byte, k int, sign bool) (int, int, api.Errno) {
	switch {
	case !isOne(k):
		return 0, 0, api.ErrArg
	case len(b) < k:
		return 0, 0, api.ErrShort
	case sign:
		return int(signed(b[:k]).Int64()), k, api.OK
	case unsigned(b[:k]).Cmp(big.NewInt(math.MaxInt64)) > 0:
		return 0, 0, api.ErrLong
	}
	return int(unsigned(b[:k]).Int64()), k, api.OK
}

// plainBytes does so for Bytes.
func plainBytes(b []byte, n int) ([]byte, api.Errno) {
	switch {
	case n < 0:
		return nil, api.ErrArg
	case n > len(b):
		return nil, api.ErrShort
	}
	return b[:n], api.OK
}

// 6.5, and 6.1 against a plain reading of its words: readers that are asked anything.
func TestReadersOfAllCalls(t *testing.T) {
	for seed := range int64(3000) {
		g := rand.New(rand.NewSource(seed))
		b := anyBytes(g, g.Intn(80))
		r, at := word.Read(b), 0
		for i := range 40 {
			what := fmt.Sprintf("seed %d, call %d", seed, i)
			if g.Intn(3) == 0 {
				n := []int{g.Intn(9), g.Intn(9), len(b) - at, len(b) - at + 1, anyNumber(g)}[g.Intn(5)]
				if n == len(b)-at && g.Intn(3) > 0 {
					n = 0
				}
				want, wanted := plainBytes(b[at:], n)
				got, e := r.Bytes(n)
				is(t, fmt.Sprintf("%s, Bytes(%d): its error", what, n), e, wanted)
				hasBytes(t, fmt.Sprintf("%s, Bytes(%d)", what, n), got, want)
				at += len(want)
			} else {
				k, sign, read := anySize(g), g.Intn(2) == 0, r.U
				if sign {
					read = r.S
				}
				want, gone, wanted := plainRead(b[at:], k, sign)
				got, e := read(k)
				is(t, fmt.Sprintf("%s, size %d, sign %v: its error", what, k, sign), e, wanted)
				is(t, fmt.Sprintf("%s, size %d, sign %v", what, k, sign), got, want)
				at += gone
			}
			stands(t, what, r, at, len(b)-at)
			is(t, what+": At and Left", r.At()+r.Left(), len(b))
			if t.Failed() {
				return
			}
		}
	}
}

// plainWrite answers what U or S of numbers writes, by the chapter's words.
func plainWrite(k int, sign bool, l []int) ([]byte, api.Errno) {
	if !isOne(k) {
		return nil, api.ErrArg
	}
	var all []byte
	for _, n := range l {
		b, ok := laid(n, k, sign)
		if !ok {
			return nil, api.ErrArg
		}
		all = append(all, b...)
	}
	return all, api.OK
}

// plainPatch answers what Patch makes of bytes.
func plainPatch(have []byte, at, k, n int) ([]byte, api.Errno) {
	if !isOne(k) || at < 0 || at >= len(have) || at+k > len(have) {
		return have, api.ErrArg
	}
	b, ok := laid(n, k, false)
	if !ok {
		return have, api.ErrArg
	}
	have = bytes.Clone(have)
	copy(have[at:], b)
	return have, api.OK
}

// 6.2 against a plain reading of its words: writers that are asked anything; what they told does not change.
func TestWritersOfAllCalls(t *testing.T) {
	for seed := range int64(3000) {
		g := rand.New(rand.NewSource(seed))
		w := word.Make()
		var have, told, toldThen []byte
		for i := range 30 {
			what := fmt.Sprintf("seed %d, call %d", seed, i)
			k, n := anySize(g), anyNumber(g)
			switch g.Intn(4) {
			case 0:
				b := anyBytes(g, g.Intn(5))
				is(t, what+", Bytes", w.Bytes(b...), api.OK)
				have = append(have, b...)
			case 1:
				at := []int{g.Intn(len(have) + 1), g.Intn(len(have) + 1), len(have) - 8, len(have) - 4, len(have), anyNumber(g)}[g.Intn(6)]
				want, wanted := plainPatch(have, at, k, n)
				is(t, fmt.Sprintf("%s, Patch(%d, %d, %d)", what, at, k, n), w.Patch(at, k, n), wanted)
				have = want
			default:
				sign, write, l := g.Intn(2) == 0, w.U, []int{n}[:g.Intn(2)]
				if sign {
					write = w.S
				}
				for range g.Intn(3) {
					l = append(l, g.Intn(128))
				}
				b, wanted := plainWrite(k, sign, l)
				is(t, fmt.Sprintf("%s, size %d, sign %v, %v", what, k, sign, l), write(k, l...), wanted)
				have = append(have, b...)
			}
			holds(t, what, w, have...)
			hasBytes(t, what+": what was told", told, toldThen)
			told, toldThen = w.All(), bytes.Clone(have)
			if t.Failed() {
				return
			}
		}
	}
}

// Limits of all of it: as many numbers as one likes, in one call and in many.
func TestManyNumbers(t *testing.T) {
	l, want := make([]int, 40000), make([]byte, 0, 80000)
	for i := range l {
		l[i] = i * 5 % 65536
		want = append(want, byte(l[i]>>8), byte(l[i]))
	}
	once, each := word.Make(), word.Make()
	is(t, "U(2, all)", once.U(2, l...), api.OK)
	for _, n := range l {
		is(t, "U(2, n)", each.U(2, n), api.OK)
	}
	holds(t, "in one call", once, want...)
	holds(t, "in many", each, want...)
	is(t, "Patch at the end", once.Patch(len(want)-2, 2, 7), api.OK)
	is(t, "Patch behind it", once.Patch(len(want)-1, 2, 7), api.ErrArg)
	l[len(l)-1] = 65536
	is(t, "where just the last does not fit", each.U(2, l...), api.ErrArg)
	holds(t, "where just the last does not fit", each, want...)
	r := word.Read(want)
	for i, n := range l[:len(l)-1] {
		reads(t, fmt.Sprintf("number %d", i), r, r.U, 2, n)
	}
}
