package page

import (
	"bytes"

	"larch/api"
	"larch/sum"
)

// A root's parts: its mark, the sequence, the top's sector, how many sectors there are, notes; noughts and the sum.
const (
	mark         = "ROOT"
	sequenceSize = 4
	numberSize   = 2
	notesSize    = 200
	sumSize      = 4
)

// root tells where the pages of a sequence are: by a top, in that sector, or, with 0, nowhere.
type root struct {
	sequence, top int
	notes         string // notesSize bytes
}

// cell answers the root as it is stored: two that follow each other never take one sector.
func (r root) cell(size int) cell {
	return cell{number: r.sequence % roots, value: r.value(size)}
}

// value answers the root's bytes, in a store of size sectors.
func (r root) value(size int) []byte {
	b := []byte(mark)
	b = appendNumber(b, sequenceSize, r.sequence)
	b = appendNumber(b, numberSize, r.top)
	b = appendNumber(b, numberSize, size)
	b = append(b, r.notes...)
	b = append(b, make([]byte, api.Sector-sumSize-len(b))...)
	return sum.Seal(b)
}

// rootOf answers the root that sector n of size sectors has, if it is a right one: just what would be stored there.
func rootOf(b []byte, n, size int) (root, bool) {
	var r root
	rest := b[len(mark):]
	r.sequence, rest = cutNumber(rest, sequenceSize)
	r.top, rest = cutNumber(rest, numberSize)
	r.notes = string(rest[numberSize:][:notesSize])
	c := r.cell(size)
	return r, c.number == n && bytes.Equal(c.value, b)
}

// readRoot answers the root that counts.
func (r region) readRoot() (root, api.Errno) {
	var best root
	found := false
	for n := range roots {
		b, e := r.fetch(n)
		if e != api.OK {
			return root{}, e
		}
		got, ok := rootOf(b, n, r.size)
		if ok && (!found || got.sequence > best.sequence) {
			best, found = got, true
		}
	}
	if !found {
		return root{}, api.ErrPage
	}
	return best, api.OK
}

// filled answers notes with noughts behind them, in memory of their own: a root keeps them.
func filled(notes string) string {
	b := make([]byte, notesSize)
	copy(b, notes)
	return string(b)
}

// appendNumber puts a number's size bytes behind b, the highest first.
func appendNumber(b []byte, size, n int) []byte {
	for i := size - 1; i >= 0; i-- {
		b = append(b, byte(n>>(8*i)))
	}
	return b
}

// cutNumber answers the number that b's first size bytes are, the highest first, and what comes behind them.
func cutNumber(b []byte, size int) (int, []byte) {
	n := 0
	for _, x := range b[:size] {
		n = n<<8 | int(x)
	}
	return n, b[size:]
}
