package word

// span is bytes, and a place in them. Its bytes are never nil once a call made it, so that a span of no bytes is told
// from one that no call made.
type span struct {
	bytes []byte
	at    int
}

// spanOf answers a span at the beginning of bytes of its own.
func spanOf(b ...byte) span { return span{bytes: append([]byte{}, b...)} }

// left answers how many bytes are behind the place.
func (s *span) left() int { return len(s.bytes) - s.at }

// next answers the n bytes behind the place.
func (s *span) next(n int) []byte { return s.bytes[s.at : s.at+n] }

// put puts bytes at the place, over those that are there, and goes behind them.
func (s *span) put(b ...byte) {
	n := copy(s.bytes[s.at:], b)
	s.bytes = append(s.bytes, b[n:]...)
	s.at += len(b)
}

// putNumber puts the last k bytes of n, the highest first.
func (s *span) putNumber(k, n int) {
	for i := range k {
		s.put(byte(n >> (8 * (k - 1 - i))))
	}
}

// isSize holds for the numbers of bytes that a number may have.
func isSize(k int) bool { return k == 1 || k == 2 || k == 4 || k == 8 }

// fitsU holds if n is a number of k bytes without a sign: no bit is set beyond them. Below 0 some are, however far n is
// shifted.
func fitsU(k, n int) bool { return n>>(8*k) == 0 }

// fitsS holds if n is a number of k bytes with a sign: all bits beyond them are as their highest.
func fitsS(k, n int) bool {
	beyond := n >> (8*k - 1)
	return beyond == 0 || beyond == -1
}

// joined answers the bits that bytes have, the highest byte first.
func joined(b []byte) uint64 {
	var n uint64
	for _, x := range b {
		n = n<<8 | uint64(x)
	}
	return n
}

// withSign answers the number with a sign that has these bits as its k bytes.
func withSign(k int, bits uint64) int {
	beyond := 64 - 8*k
	return int(int64(bits<<beyond) >> beyond)
}
