package page_test

import (
	"bytes"
	"encoding/binary"
	"hash/crc32"
	"slices"
	"testing"

	"larch/api"
	"larch/disk"
	"larch/page"
)

// most is how many bytes notes may have.
const most = 200

func is(t *testing.T, what string, got, want any) {
	t.Helper()
	if got != want {
		t.Errorf("%s: %v, want %v", what, got, want)
	}
}

func hasBytes(t *testing.T, what string, got, want []byte) {
	t.Helper()
	if len(got) != len(want) {
		t.Errorf("%s: %d bytes, want %d", what, len(got), len(want))
		return
	}
	for at := 0; at < len(got); at += api.Sector {
		g, w := got[at:min(at+api.Sector, len(got))], want[at:min(at+api.Sector, len(want))]
		if !bytes.Equal(g, w) {
			t.Errorf("%s: sector %d: %.40x.., want %.40x..", what, at/api.Sector, g, w)
		}
	}
}

func hasNumbers(t *testing.T, what string, got, want []int) {
	t.Helper()
	if !slices.Equal(got, want) {
		t.Errorf("%s: %v, want %v", what, got, want)
	}
}

// of answers a page that is all c.
func of(c byte) []byte { return bytes.Repeat([]byte{c}, api.Sector) }

// pageOf answers a page of which each byte tells its place and the number n.
func pageOf(n int) []byte {
	b := make([]byte, api.Sector)
	for i := range b {
		b[i] = byte(i*7 + n*31 + n/128)
	}
	b[0], b[1] = byte(n>>8), byte(n)
	return b
}

// notesOf answers n bytes, of which each tells its place.
func notesOf(n int) string {
	b := make([]byte, n)
	for i := range b {
		b[i] = byte(i*5 + n)
	}
	return string(b)
}

// full answers notes as they are told: with noughts behind them.
func full(notes string) string { return notes + string(make([]byte, most-len(notes))) }

// rootOf answers a root as the chapter says it.
func rootOf(sequence uint32, top, size int, notes string) []byte {
	b := []byte{0x52, 0x4f, 0x4f, 0x54}
	b = binary.BigEndian.AppendUint32(b, sequence)
	b = binary.BigEndian.AppendUint16(b, uint16(top))
	b = binary.BigEndian.AppendUint16(b, uint16(size))
	b = append(b, full(notes)...)
	b = append(b, make([]byte, 252-len(b))...)
	return sealed(b)
}

// sealed answers 252 bytes with their sum behind them.
func sealed(b []byte) []byte {
	return binary.BigEndian.AppendUint32(slices.Clip(b), crc32.Checksum(b, crc32.MakeTable(crc32.Castagnoli)))
}

// tableOf answers a table, or a top, with these numbers in their places, and noughts in the others.
func tableOf(numbers map[int]int) []byte {
	b := make([]byte, api.Sector)
	for i, n := range numbers {
		binary.BigEndian.PutUint16(b[2*i:], uint16(n))
	}
	return b
}

// with answers b with another byte in one place.
func with(b []byte, at int, x byte) []byte {
	c := bytes.Clone(b)
	c[at] = x
	return c
}

// loaded answers a disk that has these sectors for sure.
func loaded(t *testing.T, sectors ...[]byte) *disk.Disk {
	t.Helper()
	d, e := disk.Load(slices.Concat(sectors...))
	if e != api.OK {
		t.Fatalf("Load of %d sectors: %v", len(sectors), e)
	}
	return d
}

// marked answers a disk of as many sectors, none of which is noughts, a root or a table.
func marked(t *testing.T, sectors int) *disk.Disk {
	t.Helper()
	return loaded(t, bytes.Repeat([]byte{0xa5}, sectors*api.Sector))
}

// dark answers a disk with these sectors whose power is gone.
func dark(t *testing.T, sectors ...[]byte) *disk.Disk {
	t.Helper()
	d := loaded(t, sectors...)
	cutPower(t, d)
	return d
}

func cutPower(t *testing.T, d *disk.Disk) {
	t.Helper()
	d.Trip(0)
	is(t, "Barrier at the trip", d.Barrier(), api.ErrPower)
}

func opened(t *testing.T, d *disk.Disk, at, size int) *page.Store {
	t.Helper()
	s, e := page.Open(d, at, size)
	if e != api.OK || s == nil {
		t.Fatalf("Open(%d, %d): %v, want a store", at, size, e)
	}
	return s
}

// fresh answers a disk with nothing but a store of size sectors, just formatted and opened.
func fresh(t *testing.T, size int) (*disk.Disk, *page.Store) {
	t.Helper()
	d := marked(t, size)
	is(t, "Format", page.Format(d, 0, size), api.OK)
	return d, opened(t, d, 0, size)
}

// writes writes these pages, each as pageOf tells it.
func writes(t *testing.T, s *page.Store, pages ...int) {
	t.Helper()
	for _, p := range pages {
		is(t, "Write", s.Write(p, pageOf(p)), api.OK)
	}
}

// commits does a commit that is not refused, and stores as many sectors.
func commits(t *testing.T, s *page.Store, notes string, want int) {
	t.Helper()
	n, e := s.Commit(notes)
	if n != want || e != api.OK {
		t.Errorf("Commit: %d, %v, want %d, OK", n, e, want)
	}
}

// refuses does a commit that is refused.
func refuses(t *testing.T, s *page.Store, notes string, want api.Errno) {
	t.Helper()
	n, e := s.Commit(notes)
	if n != 0 || e != want {
		t.Errorf("Commit: %d, %v, want 0, %v", n, e, want)
	}
}

// reads holds pages against what they should be; those that content does not have are noughts.
func reads(t *testing.T, s *page.Store, content map[int][]byte, pages ...int) {
	t.Helper()
	for p := range content {
		pages = append(pages, p)
	}
	for _, p := range pages {
		want, ok := content[p]
		if !ok {
			want = of(0)
		}
		b, e := s.Read(p)
		if e != api.OK || !bytes.Equal(b, want) {
			t.Errorf("Read(%d): %.20x.., %v, want %.20x.., OK", p, b, e, want)
		}
	}
}

// somePages are the edges of the tables.
var somePages = []int{0, 1, 2, 126, 127, 128, 129, 255, 256, 3967, 3968, 4094, 4095}

// tells holds all else that a store tells against what it should.
func tells(t *testing.T, s *page.Store, notes string, dirty []int, free, sequence int) {
	t.Helper()
	if got := s.Notes(); got != full(notes) {
		t.Errorf("Notes: %d bytes %.40q, want %.40q", len(got), got, full(notes))
	}
	hasNumbers(t, "Dirty", s.Dirty(), dirty)
	is(t, "Free", s.Free(), free)
	is(t, "Sequence", s.Sequence(), sequence)
}

// found is what the chapter's words tell of the sectors of a store.
type found struct {
	sequence, top int
	notes         string
	tables        map[int]int // sectors, by the tables' numbers
	pages         map[int]int // sectors, by the pages' numbers
	content       map[int][]byte
	led           map[int]bool
}

func number(b []byte, i int) int { return int(binary.BigEndian.Uint16(b[2*i:])) }

// plainRoot reads sector n of a store's sectors as a root, if it is a right one.
func plainRoot(b []byte, n int) (sequence uint32, top int, notes string, ok bool) {
	s := b[n*api.Sector : (n+1)*api.Sector]
	sequence, top, notes = binary.BigEndian.Uint32(s[4:]), number(s, 4), string(s[12:212])
	ok = string(s[:4]) == "ROOT" && int(sequence%2) == n && number(s, 5) == len(b)/api.Sector
	ok = ok && !slices.ContainsFunc(s[212:252], func(x byte) bool { return x != 0 })
	ok = ok && crc32.Checksum(s[:252], crc32.MakeTable(crc32.Castagnoli)) == binary.BigEndian.Uint32(s[252:])
	return sequence, top, notes, ok
}

// plainRead reads a store's sectors; ok tells whether there is a right root that leads to sectors of the store, to none
// of them twice.
func plainRead(b []byte) (f found, ok bool) {
	f = found{sequence: -1, tables: map[int]int{}, pages: map[int]int{}, content: map[int][]byte{}, led: map[int]bool{}}
	for n := range 2 {
		if s, top, notes, ok := plainRoot(b, n); ok && int(s) > f.sequence {
			f.sequence, f.top, f.notes = int(s), top, notes
		}
	}
	if f.sequence < 0 {
		return f, false
	}
	ok = true
	lead := func(n int) []byte {
		if n < 2 || n >= len(b)/api.Sector || f.led[n] {
			ok = false
			return make([]byte, api.Sector)
		}
		f.led[n] = true
		return b[n*api.Sector : (n+1)*api.Sector]
	}
	if f.top == 0 {
		return f, true
	}
	top := lead(f.top)
	for i := range 128 {
		if number(top, i) == 0 {
			continue
		}
		ok = ok && i < 32
		f.tables[i] = number(top, i)
		table := lead(f.tables[i])
		for j := range 128 {
			if n := number(table, j); n != 0 {
				f.pages[128*i+j], f.content[128*i+j] = n, lead(n)
			}
		}
	}
	return f, ok
}

// move is what is stored, and in which of the store's sectors; a barrier has no value.
type move struct {
	n     int
	value []byte
}

// plainCommit answers the moves of a commit on these sectors of a store, as the chapter's words tell them; ok tells
// whether so many sectors are free.
func plainCommit(b []byte, dirty map[int][]byte, notes string) (moves []move, ok bool) {
	f, ok := plainRead(b)
	if !ok {
		panic("there is no store")
	}
	stored := map[int]bool{}
	put := func(value []byte) int {
		if bytes.Equal(value, of(0)) {
			return 0
		}
		for n := 2; n < len(b)/api.Sector; n++ {
			if !f.led[n] && !stored[n] {
				stored[n] = true
				moves = append(moves, move{n, value})
				return n
			}
		}
		ok = false
		return 0
	}
	touched := map[int]bool{}
	for p := range api.MaxPages {
		if value, written := dirty[p]; written {
			f.pages[p] = put(value)
			touched[p/128] = true
		}
	}
	for i := range 32 {
		if touched[i] {
			numbers := map[int]int{}
			for j := range 128 {
				numbers[j] = f.pages[128*i+j]
			}
			f.tables[i] = put(tableOf(numbers))
		}
	}
	top := put(tableOf(f.tables))
	next := uint32(f.sequence + 1)
	moves = append(moves, move{}, move{int(next % 2), rootOf(next, top, len(b)/api.Sector, notes)}, move{})
	return moves, ok
}

// stores answers how many of the moves are no barriers.
func stores(moves []move) int {
	n := 0
	for _, m := range moves {
		if m.value != nil {
			n++
		}
	}
	return n
}

// behind answers b, in which a store begins at a sector, behind moves.
func behind(b []byte, at int, moves []move) []byte {
	b = bytes.Clone(b)
	for _, m := range moves {
		if m.value != nil {
			copy(b[(at+m.n)*api.Sector:], m.value)
		}
	}
	return b
}

// waiting answers in how many sectors something waits behind moves.
func waiting(moves []move) int {
	l := map[int]bool{}
	for _, m := range moves {
		if m.value == nil {
			clear(l)
		} else {
			l[m.n] = true
		}
	}
	return len(l)
}
