package page_test

import (
	"bytes"
	"math"
	"slices"
	"strings"
	"testing"

	"larch/api"
	"larch/disk"
	"larch/page"
)

// The chapter's example 1.
func TestExample(t *testing.T) {
	_, s := fresh(t, 8)
	is(t, "Write", s.Write(0, of(1)), api.OK)
	commits(t, s, "", 4)
	reads(t, s, map[int][]byte{0: of(1)}, somePages...)
}

// outside are sectors that make no store on a disk of twelve.
var outside = []struct{ at, size int }{
	{0, 0}, {0, 1}, {0, 2}, {0, 7}, {5, 7}, {4, 7}, {11, 1}, {12, 0}, {0, -1}, {0, -8}, {8, -8}, {12, -8},
	{0, math.MinInt}, {12, math.MinInt}, {-1, 8}, {-1, 9}, {-8, 8}, {-1, 13}, {-12, 12},
	{math.MinInt, 8}, {math.MinInt, math.MinInt}, {math.MinInt, math.MaxInt}, {math.MinInt, 0}, {-1, math.MaxInt},
	{0, 13}, {1, 12}, {4, 9}, {5, 8}, {11, 8}, {12, 8}, {13, 8}, {100, 8}, {0, api.MaxSectors}, {0, 1 << 16}, {0, 1<<16 + 12},
	{0, math.MaxInt}, {1, math.MaxInt}, {11, math.MaxInt}, {math.MaxInt, 8}, {math.MaxInt, 1}, {math.MaxInt - 7, 8},
	{math.MaxInt - 6, 8}, {math.MaxInt, math.MaxInt}, {math.MaxInt, math.MinInt},
}

// 5.1, Errors, P2: with the power gone, too.
func TestSectorsThatMakeNoStore(t *testing.T) {
	twelve := slices.Concat(rootOf(0, 0, 12, ""), of(0), bytes.Repeat(rootOf(0, 0, 8, ""), 10))
	for _, d := range []*disk.Disk{loaded(t, twelve), dark(t, twelve)} {
		for _, c := range outside {
			if e := page.Format(d, c.at, c.size); e != api.ErrArg {
				t.Errorf("Format(%d, %d): %v, want ErrArg", c.at, c.size, e)
			}
			if s, e := page.Open(d, c.at, c.size); s != nil || e != api.ErrArg {
				t.Errorf("Open(%d, %d): %v, %v, want none and ErrArg", c.at, c.size, s != nil, e)
			}
		}
		is(t, "Moves", d.Moves(), 0)
		hasBytes(t, "Dump", d.Dump(), twelve)
	}
}

// 5.1, rule 2: ErrNil comes first.
func TestDiskThatIsNone(t *testing.T) {
	for _, d := range []*disk.Disk{nil, {}} {
		for _, c := range append(outside, struct{ at, size int }{0, 8}, struct{ at, size int }{1, 9}) {
			if e := page.Format(d, c.at, c.size); e != api.ErrNil {
				t.Errorf("Format(%d, %d): %v, want ErrNil", c.at, c.size, e)
			}
			if s, e := page.Open(d, c.at, c.size); s != nil || e != api.ErrNil {
				t.Errorf("Open(%d, %d): %v, %v, want none and ErrNil", c.at, c.size, s != nil, e)
			}
		}
	}
}

// 5.1: at all places of a disk where a store can lie; nothing but the roots is stored.
func TestFormatStoresTheRoots(t *testing.T) {
	const sectors = 11
	for at := range sectors {
		for size := 8; at+size <= sectors; size++ {
			d := marked(t, sectors)
			want := d.Dump()
			copy(want[at*api.Sector:], rootOf(0, 0, size, ""))
			copy(want[(at+1)*api.Sector:], of(0))
			is(t, "Format", page.Format(d, at, size), api.OK)
			is(t, "Moves", d.Moves(), 3)
			is(t, "Cached", len(d.Cached()), 0)
			hasBytes(t, "Dump", d.Dump(), want)
			d.Crash()
			hasBytes(t, "Dump behind a crash", d.Dump(), want)
			s := opened(t, d, at, size)
			tells(t, s, "", nil, size-2, 0)
			reads(t, s, nil, somePages...)
			is(t, "Moves behind Open", d.Moves(), 3)
			hasBytes(t, "Dump behind Open", d.Dump(), want)
		}
	}
}

// 5.1: Format over a store takes all of it away, whichever of its roots counts.
func TestFormatOverAStore(t *testing.T) {
	for n := range 5 {
		d, s := fresh(t, 12)
		for i := range n {
			writes(t, s, i)
			_, e := s.Commit("old")
			is(t, "Commit", e, api.OK)
		}
		is(t, "Format", page.Format(d, 0, 12), api.OK)
		s = opened(t, d, 0, 12)
		tells(t, s, "", nil, 10, 0)
		reads(t, s, nil, somePages...)
	}
}

// 5.1, Errors: the power goes at each move of Format; its stores come in order.
func TestFormatLosesThePower(t *testing.T) {
	old := slices.Concat(rootOf(6, 0, 8, "old"), rootOf(5, 0, 8, "elder"), bytes.Repeat(of(0xa5), 6))
	moves := []move{{0, rootOf(0, 0, 8, "")}, {1, of(0)}, {}}
	for n := range moves {
		for kept := range 4 {
			d := loaded(t, old)
			d.Trip(n)
			is(t, "Format", page.Format(d, 0, 8), api.ErrPower)
			is(t, "Moves", d.Moves(), n)
			is(t, "Cached", len(d.Cached()), n)
			hasBytes(t, "Dump", d.Dump(), behind(old, 0, moves[:n]))
			is(t, "Format with the power gone", page.Format(d, 0, 8), api.ErrPower)
			s, e := page.Open(d, 0, 8)
			is(t, "Open with the power gone", e, api.ErrPower)
			is(t, "its store is none", s == nil, true)
			hasBytes(t, "Dump behind that", d.Dump(), behind(old, 0, moves[:n]))
			d.Crash(kept&1, kept>>1)
			sure := d.Dump()
			if f, ok := plainRead(sure); ok {
				tells(t, opened(t, d, 0, 8), strings.TrimRight(f.notes, "\x00"), nil, 6, f.sequence)
			} else {
				t.Errorf("Format cut at %d, keeping %d: no store", n, kept)
			}
		}
	}
}

// 5.1, Limits.
func TestStoreOfTheGreatestDisk(t *testing.T) {
	d, s := fresh(t, api.MaxSectors)
	tells(t, s, "", nil, api.MaxSectors-2, 0)
	content := map[int][]byte{}
	// 4061 pages, 32 tables and a top: all sectors behind the roots.
	for p := range 4061 {
		content[p] = pageOf(p)
	}
	writes(t, s, sortedKeys(content)...)
	commits(t, s, "many", 4095)
	tells(t, s, "many", nil, 0, 1)
	refuses(t, s, "", api.ErrFull)
	writes(t, s, 4095)
	refuses(t, s, "", api.ErrFull)
	d.Crash()
	s = opened(t, d, 0, api.MaxSectors)
	tells(t, s, "many", nil, 0, 1)
	reads(t, s, content, 4061, 4094, 4095)
	b := d.Dump()
	f, ok := plainRead(b)
	is(t, "the store is right", ok, true)
	is(t, "its top", f.top, 4095)
	is(t, "its last table", f.tables[31], 4094)
	is(t, "its last page", f.pages[4060], 4062)
}

func sortedKeys[V any](m map[int]V) []int {
	var l []int
	for k := range m {
		l = append(l, k)
	}
	slices.Sort(l)
	return l
}

// 5.1, Words: the right root of the greater sequence counts.
func TestRootThatCounts(t *testing.T) {
	r := func(s uint32) []byte { return rootOf(s, 0, 8, "of the sequence "+string(rune('a'+s%26))) }
	const greatest = math.MaxUint32
	tests := []struct {
		what        string
		first, next []byte
		sequence    uint32
	}{
		{"just Format's", r(0), of(0), 0},
		{"just the first", r(6), of(0xff), 6},
		{"just the second", of(0), r(1), 1},
		{"just the second, of a great sequence", of(7), r(greatest), greatest},
		{"the second is the next one", r(0), r(1), 1},
		{"the first is the next one", r(2), r(1), 2},
		{"the second is greater by far", r(2), r(1001), 1001},
		{"the first is greater by far", r(1 << 31), r(1), 1 << 31},
		{"the greatest two", r(greatest - 1), r(greatest), greatest},
		{"the greatest and the least", r(0), r(greatest), greatest},
		{"their last bytes the other way round", r(0x100), r(0xff), 0x100},
		{"their first bytes the other way round", r(0x00ffffff + 0x01000000 - 1), r(0x01000001), 0x01fffffe},
		{"the first stands in the second sector, too", r(4), r(4), 4},
		{"the second stands in the first sector, too", r(5), r(5), 5},
		{"a greater one in the wrong sector", r(5), r(3), 3},
		{"the greater one is not right", r(2), with(r(3), 100, 1), 2},
		{"the greater one's sum is not right", with(r(2), 255, 1), r(1), 1},
		{"the greater one's mark is not right", r(2), sealed(with(r(3), 3, 'S')[:252]), 2},
		{"the greater one's mark is not right at its first byte", r(2), sealed(with(r(3), 0, 'r')[:252]), 2},
		{"the greater one is of more sectors", r(2), rootOf(3, 0, 9, ""), 2},
		{"the greater one is of fewer sectors", rootOf(4, 0, 7, ""), r(3), 3},
		{"the greater one is of 256 sectors more", rootOf(4, 0, 264, ""), r(3), 3},
		{"the greater one has a byte behind its notes", r(2), sealed(with(r(3), 212, 1)[:252]), 2},
		{"the greater one has a byte ahead of its sum", r(2), sealed(with(r(3), 251, 1)[:252]), 2},
	}
	for _, c := range tests {
		t.Run(c.what, func(t *testing.T) {
			sectors := slices.Concat(c.first, c.next, bytes.Repeat(of(0xa5), 6))
			d := loaded(t, sectors)
			s := opened(t, d, 0, 8)
			tells(t, s, "of the sequence "+string(rune('a'+c.sequence%26)), nil, 6, int(c.sequence))
			reads(t, s, nil, somePages...)
			is(t, "Moves", d.Moves(), 0)
			hasBytes(t, "Dump", d.Dump(), sectors)
		})
	}
}

// refusesToOpen holds that a disk of these sectors is no store: ErrPage, and, which is named ahead of it, ErrPower.
func refusesToOpen(t *testing.T, sectors ...[]byte) {
	t.Helper()
	d := loaded(t, sectors...)
	want := d.Dump()
	if s, e := page.Open(d, 0, len(sectors)); s != nil || e != api.ErrPage {
		t.Errorf("Open: %v, %v, want none and ErrPage", s != nil, e)
	}
	is(t, "Moves", d.Moves(), 0)
	hasBytes(t, "Dump", d.Dump(), want)
	if s, e := page.Open(dark(t, sectors...), 0, len(sectors)); s != nil || e != api.ErrPower {
		t.Errorf("Open with the power gone: %v, %v, want none and ErrPower", s != nil, e)
	}
	is(t, "Format over it", page.Format(d, 0, len(sectors)), api.OK)
	tells(t, opened(t, d, 0, len(sectors)), "", nil, len(sectors)-2, 0)
}

// 5.1, Errors: no right root.
func TestOpenWithoutARightRoot(t *testing.T) {
	r := func(s uint32) []byte { return rootOf(s, 0, 8, "x") }
	tests := map[string][2][]byte{
		"noughts":                      {of(0), of(0)},
		"ones":                         {of(0xff), of(0xff)},
		"noughts with their sum":       {sealed(make([]byte, 252)), sealed(make([]byte, 252))},
		"each in the other's sector":   {r(1), r(0)},
		"of one sector fewer":          {rootOf(0, 0, 7, ""), rootOf(1, 0, 7, "")},
		"of one sector more":           {rootOf(0, 0, 9, ""), rootOf(1, 0, 9, "")},
		"of no sectors":                {rootOf(0, 0, 0, ""), of(0)},
		"of another mark":              {sealed(with(r(0), 1, 'o')[:252]), sealed(with(r(1), 2, 'o')[:252])},
		"a byte behind the notes":      {sealed(with(r(0), 212, 1)[:252]), sealed(with(r(1), 230, 0x80)[:252])},
		"a byte ahead of the sum":      {sealed(with(r(0), 251, 1)[:252]), of(0)},
		"a sum the other way round":    {backwards(r(0)), backwards(r(1))},
		"the sum of another one":       {slices.Concat(r(0)[:252], r(2)[252:]), of(0)},
		"the number of sectors turned": {sealed(with(with(r(0), 10, 8), 11, 0)[:252]), of(0)},
	}
	for what, c := range tests {
		t.Run(what, func(t *testing.T) {
			refusesToOpen(t, c[0], c[1], of(0), of(0), of(0), of(0), of(0), of(0))
		})
	}
}

// backwards answers a root with its sum's lowest byte first.
func backwards(b []byte) []byte {
	b = bytes.Clone(b)
	slices.Reverse(b[252:])
	return b
}

// 5.1, Words: with one bit turned anywhere a root is not right.
func TestOpenWithABitTurned(t *testing.T) {
	whole := slices.Concat(rootOf(2, 0, 8, notesOf(most)), rootOf(1, 0, 8, "elder"), bytes.Repeat(of(0), 6))
	for bit := range 8 * api.Sector {
		d := loaded(t, with(whole, bit/8, whole[bit/8]^1<<(bit%8)))
		tells(t, opened(t, d, 0, 8), "elder", nil, 6, 1)
		d = loaded(t, with(whole, api.Sector+bit/8, whole[api.Sector+bit/8]^1<<(bit%8)))
		tells(t, opened(t, d, 0, 8), notesOf(most), nil, 6, 2)
	}
}

// 5.1, Errors: a root that leads out of the store, or twice to one sector. All stand behind a root of sequence 1 that
// leads nowhere, which does not count, in a store of 10 sectors on a disk of 12.
func TestOpenOfARootThatLeadsWrong(t *testing.T) {
	type numbers = map[int]int
	top := tableOf(numbers{0: 3, 31: 4})
	tests := []struct {
		what    string
		top     int
		sectors map[int][]byte
	}{
		{"the top is a root", 1, nil},
		{"the top is just behind the store", 10, nil},
		{"the top is behind the disk", 12, nil},
		{"the top is the greatest number", 0xffff, nil},
		{"the top is behind 256 sectors", 0x102, nil},
		{"a table is a root", 2, numbersAt(2, numbers{0: 1})},
		{"a table is just behind the store", 2, numbersAt(2, numbers{5: 10})},
		{"a table is the greatest number", 2, numbersAt(2, numbers{31: 0xffff})},
		{"a table is the top", 2, numbersAt(2, numbers{0: 2})},
		{"two tables are one", 2, numbersAt(2, numbers{0: 3, 1: 3})},
		{"the first and the last table are one", 2, numbersAt(2, numbers{0: 3, 31: 3})},
		{"a table that there is not", 2, numbersAt(2, numbers{32: 3})},
		{"the last number of the top", 2, numbersAt(2, numbers{127: 3})},
		{"a page is a root", 2, map[int][]byte{2: top, 3: tableOf(numbers{0: 1})}},
		{"a page is just behind the store", 2, map[int][]byte{2: top, 3: tableOf(numbers{127: 10})}},
		{"a page is behind the disk", 2, map[int][]byte{2: top, 4: tableOf(numbers{3: 12})}},
		{"a page is the greatest number", 2, map[int][]byte{2: top, 4: tableOf(numbers{127: 0xffff})}},
		{"a page is the top", 2, map[int][]byte{2: top, 3: tableOf(numbers{7: 2})}},
		{"a page is its table", 2, map[int][]byte{2: top, 3: tableOf(numbers{7: 3})}},
		{"a page is another table", 2, map[int][]byte{2: top, 3: tableOf(numbers{7: 4})}},
		{"two pages of a table are one", 2, map[int][]byte{2: top, 3: tableOf(numbers{7: 5, 8: 5})}},
		{"the first and the last page are one", 2, map[int][]byte{2: top, 3: tableOf(numbers{0: 9}), 4: tableOf(numbers{127: 9})}},
	}
	for _, c := range tests {
		t.Run(c.what, func(t *testing.T) {
			sectors := [][]byte{rootOf(2, c.top, 10, ""), rootOf(1, 0, 10, "")}
			for n := 2; n < 10; n++ {
				value, ok := c.sectors[n]
				if !ok {
					value = of(0)
				}
				sectors = append(sectors, value)
			}
			refusesToOpen(t, sectors...)
			// Where just the root that does not count leads wrong, the store is right.
			sectors[1] = rootOf(3, 0, 10, "")
			tells(t, opened(t, loaded(t, sectors...), 0, 10), "", nil, 8, 3)
			// Behind the store's sectors others may come; it does not lead there.
			d := loaded(t, append(sectors, of(0), of(0))...)
			tells(t, opened(t, d, 0, 10), "", nil, 8, 3)
			d.Store(1, rootOf(1, 0, 10, ""))
			_, e := page.Open(d, 0, 10)
			is(t, "Open", e, api.ErrPage)
		})
	}
}

func numbersAt(n int, numbers map[int]int) map[int][]byte {
	return map[int][]byte{n: tableOf(numbers)}
}

// 5.1, Words: a store of whatever form: its top, its tables and its pages stand in any order, and may be noughts.
func TestOpenOfStoresOfOtherForms(t *testing.T) {
	type numbers = map[int]int
	d := loaded(t, rootOf(8, 9, 10, "form"), of(1),
		pageOf(2), tableOf(numbers{127: 2, 0: 8}), of(0), pageOf(5), tableOf(numbers{}), pageOf(7), of(0), tableOf(numbers{31: 3, 2: 6}))
	s := opened(t, d, 0, 10)
	tells(t, s, "form", nil, 3, 8)
	reads(t, s, map[int][]byte{4095: pageOf(2)}, somePages...)
	// 4, 5 and 7 are free; the table that is noughts is touched, and gone then; the page that is noughts stays.
	writes(t, s, 0)
	is(t, "Write", s.Write(256, of(0)), api.OK)
	commits(t, s, "next", 4)
	tells(t, s, "next", nil, 2, 9)
	hasBytes(t, "Dump", d.Dump(), slices.Concat(rootOf(8, 9, 10, "form"), rootOf(9, 7, 10, "next"),
		pageOf(2), tableOf(numbers{127: 2, 0: 8}), pageOf(0), tableOf(numbers{0: 4}), tableOf(numbers{}),
		tableOf(numbers{0: 5, 31: 3}), of(0), tableOf(numbers{31: 3, 2: 6})))
	reads(t, s, map[int][]byte{0: pageOf(0), 4095: pageOf(2)}, somePages...)
	d = loaded(t, of(0), rootOf(1, 7, 8, "a top of noughts"), bytes.Repeat(of(0), 6))
	s = opened(t, d, 0, 8)
	tells(t, s, "a top of noughts", nil, 5, 1)
	commits(t, s, "", 1)
	tells(t, s, "", nil, 6, 2)
}

// notPages are numbers that no page has.
var notPages = []int{-1, -2, -128, -4096, math.MinInt, api.MaxPages, api.MaxPages + 1, 1 << 16, 1 << 32, math.MaxInt}

// 5.2, Errors, P2: pages that there are not, bytes that are not Sector many.
func TestPagesThatThereAreNot(t *testing.T) {
	d, s := fresh(t, 8)
	writes(t, s, 0)
	commits(t, s, "", 4)
	writes(t, s, 1)
	sizes := []int{0, 1, api.Sector - 1, api.Sector + 1, 2 * api.Sector}
	for range 2 {
		for _, p := range notPages {
			if b, e := s.Read(p); len(b) != 0 || e != api.ErrArg {
				t.Errorf("Read(%d): %d bytes, %v, want none and ErrArg", p, len(b), e)
			}
			is(t, "Write", s.Write(p, of(1)), api.ErrArg)
			is(t, "Write of nothing", s.Write(p, nil), api.ErrArg)
		}
		for _, p := range []int{0, 1, 2, 4095} {
			is(t, "Write of nothing", s.Write(p, nil), api.ErrArg)
			for _, n := range sizes {
				is(t, "Write of another size", s.Write(p, bytes.Repeat([]byte{7}, n)), api.ErrArg)
			}
		}
		tells(t, s, "", []int{1}, 3, 1)
		// With the power gone these are told, too: ErrArg is named first.
		cutPower(t, d)
	}
	d.Crash()
	reads(t, s, map[int][]byte{0: pageOf(0), 1: pageOf(1)}, somePages...)
}

// 5.2: what is written is read, and nothing is stored; with what is committed below it.
func TestWriteAndRead(t *testing.T) {
	d, s := fresh(t, 16)
	moves, dump := d.Moves(), d.Dump()
	reads(t, s, nil, somePages...)
	content := map[int][]byte{}
	for i, p := range []int{4095, 0, 127, 128, 0, 2048, 4095} {
		content[p] = of(byte(i + 1))
		is(t, "Write", s.Write(p, content[p]), api.OK)
		reads(t, s, content, somePages...)
		tells(t, s, "", sortedKeys(content), 14, 0)
	}
	// Noughts are written as all else is.
	content[0], content[5] = of(0), of(0)
	is(t, "Write", s.Write(0, of(0)), api.OK)
	is(t, "Write", s.Write(5, of(0)), api.OK)
	reads(t, s, content, somePages...)
	tells(t, s, "", []int{0, 5, 127, 128, 2048, 4095}, 14, 0)
	is(t, "Moves", d.Moves(), moves)
	hasBytes(t, "Dump", d.Dump(), dump)
	commits(t, s, "", 4+4+2)
	reads(t, s, content, somePages...)
	tells(t, s, "", nil, 14-9, 1)
	// Over what is committed: each page is as it was written last, also when it is noughts.
	content[4095], content[127] = of(0), pageOf(3)
	is(t, "Write", s.Write(4095, of(0)), api.OK)
	is(t, "Write", s.Write(127, of(9)), api.OK)
	is(t, "Write", s.Write(127, pageOf(3)), api.OK)
	reads(t, s, content, somePages...)
	tells(t, s, "", []int{127, 4095}, 5, 1)
}

// 5.2: all pages that there are.
func TestAllPages(t *testing.T) {
	_, s := fresh(t, 8)
	content := map[int][]byte{}
	for p := range api.MaxPages {
		content[p] = pageOf(p)
	}
	writes(t, s, sortedKeys(content)...)
	reads(t, s, content)
	hasNumbers(t, "Dirty", s.Dirty(), sortedKeys(content))
	s.Drop()
	reads(t, s, nil, sortedKeys(content)...)
	for _, p := range sortedKeys(content) {
		s.Drop()
		writes(t, s, p)
		commits(t, s, "", 4)
		reads(t, s, map[int][]byte{p: pageOf(p)}, (p+1)%4096, (p+128)%4096, p^1, p^2048)
		is(t, "Write", s.Write(p, of(0)), api.OK)
		commits(t, s, "", 1)
	}
}

// 5.2: Drop takes back what was written since the last commit, and nothing else.
func TestDrop(t *testing.T) {
	d, s := fresh(t, 16)
	s.Drop()
	tells(t, s, "", nil, 14, 0)
	writes(t, s, 0, 200)
	s.Drop()
	tells(t, s, "", nil, 14, 0)
	reads(t, s, nil, somePages...)
	writes(t, s, 0, 200)
	commits(t, s, "kept", 6)
	s.Drop()
	content := map[int][]byte{0: pageOf(0), 200: pageOf(200)}
	tells(t, s, "kept", nil, 9, 1)
	reads(t, s, content, somePages...)
	moves := d.Moves()
	is(t, "Write", s.Write(0, of(0)), api.OK)
	is(t, "Write", s.Write(1, of(1)), api.OK)
	is(t, "Write", s.Write(200, of(2)), api.OK)
	s.Drop()
	tells(t, s, "kept", nil, 9, 1)
	reads(t, s, content, somePages...)
	is(t, "Moves", d.Moves(), moves)
	// What was dropped is not committed.
	writes(t, s, 3)
	commits(t, s, "", 4)
	content[3] = pageOf(3)
	reads(t, s, content, somePages...)
	reads(t, opened(t, d, 0, 16), content, somePages...)
}

// 5.3, Words: what commits store, sector by sector, in the least free ones, on a store amid a disk.
func TestCommitStores(t *testing.T) {
	type numbers = map[int]int
	d := marked(t, 20)
	is(t, "Format", page.Format(d, 3, 14), api.OK)
	s := opened(t, d, 3, 14)
	want := d.Dump()
	put := func(n int, value []byte) { copy(want[(3+n)*api.Sector:], value) }
	does := func(notes string, stored, free, sequence int) {
		t.Helper()
		moves := d.Moves()
		commits(t, s, notes, stored)
		is(t, "Moves", d.Moves(), moves+stored+2)
		is(t, "Cached", len(d.Cached()), 0)
		hasBytes(t, "Dump", d.Dump(), want)
		tells(t, s, notes, nil, free, sequence)
		tells(t, opened(t, d, 3, 14), notes, nil, free, sequence)
	}
	// Pages come in order of their numbers, not of when they were written.
	writes(t, s, 200, 3, 127)
	put(2, pageOf(3))
	put(3, pageOf(127))
	put(4, pageOf(200))
	put(5, tableOf(numbers{3: 2, 127: 3}))
	put(6, tableOf(numbers{72: 4}))
	put(7, tableOf(numbers{0: 5, 1: 6}))
	put(1, rootOf(1, 7, 14, "one"))
	does("one", 7, 6, 1)
	// The old page, its table and the top stay till the root counts.
	is(t, "Write", s.Write(3, of(1)), api.OK)
	put(8, of(1))
	put(9, tableOf(numbers{3: 8, 127: 3}))
	put(10, tableOf(numbers{0: 9, 1: 6}))
	put(0, rootOf(2, 10, 14, "two"))
	does("two", 4, 6, 2)
	// 2, 5 and 7 are free now, and 11 to 13.
	is(t, "Write", s.Write(200, of(2)), api.OK)
	is(t, "Write", s.Write(4095, of(3)), api.OK)
	put(2, of(2))
	put(5, of(3))
	put(7, tableOf(numbers{72: 2}))
	put(11, tableOf(numbers{127: 5}))
	put(12, tableOf(numbers{0: 9, 1: 7, 31: 11}))
	put(1, rootOf(3, 12, 14, notesOf(most)))
	does(notesOf(most), 6, 4, 3)
	// A page of noughts: just a table and a top. 4, 6, 10 and 13 are free.
	is(t, "Write", s.Write(127, of(0)), api.OK)
	put(4, tableOf(numbers{3: 8}))
	put(6, tableOf(numbers{0: 4, 1: 7, 31: 11}))
	put(0, rootOf(4, 6, 14, ""))
	does("", 3, 5, 4)
	// A table of noughts: just a top. 3, 9, 10, 12 and 13 are free.
	is(t, "Write", s.Write(4095, of(0)), api.OK)
	put(3, tableOf(numbers{0: 4, 1: 7}))
	put(1, rootOf(5, 3, 14, "five"))
	does("five", 2, 7, 5)
	// A top of noughts: just the root.
	is(t, "Write", s.Write(3, of(0)), api.OK)
	is(t, "Write", s.Write(200, of(0)), api.OK)
	put(0, rootOf(6, 0, 14, "six"))
	does("six", 1, 12, 6)
}

// 5.3, Words: with nothing written there is a new top, and a root; without a top, just a root.
func TestCommitOfNothing(t *testing.T) {
	d, s := fresh(t, 10)
	for i := range 3 {
		moves := d.Moves()
		commits(t, s, "empty", 1)
		is(t, "Moves", d.Moves(), moves+3)
		tells(t, s, "empty", nil, 8, i+1)
	}
	writes(t, s, 130)
	commits(t, s, "a page", 4)
	for i, top := range []int{5, 4, 5, 4} {
		commits(t, s, "nothing", 2)
		tells(t, s, "nothing", nil, 5, 5+i)
		f, ok := plainRead(d.Dump())
		is(t, "the store is right", ok, true)
		is(t, "the top's sector", f.top, top)
		is(t, "the table's sector", f.tables[1], 3)
		is(t, "the page's sector", f.pages[130], 2)
	}
	reads(t, s, map[int][]byte{130: pageOf(130)}, somePages...)
}

// 5.3, Words: pages that are written as they were are stored again; noughts where nothing was touch the table.
func TestCommitOfWhatWasThere(t *testing.T) {
	d, s := fresh(t, 12)
	writes(t, s, 1, 300)
	commits(t, s, "", 6)
	writes(t, s, 1)
	hasNumbers(t, "Dirty", s.Dirty(), []int{1})
	commits(t, s, "", 4)
	f, _ := plainRead(d.Dump())
	is(t, "the page's sector", f.pages[1], 7)
	is(t, "Write", s.Write(2, of(0)), api.OK)
	hasNumbers(t, "Dirty", s.Dirty(), []int{2})
	commits(t, s, "", 3)
	is(t, "Write", s.Write(999, of(0)), api.OK)
	commits(t, s, "", 2)
	reads(t, s, map[int][]byte{1: pageOf(1), 300: pageOf(300)}, somePages...)
	is(t, "Free", s.Free(), 5)
}

// 5.3: notes of all sizes.
func TestNotes(t *testing.T) {
	d, s := fresh(t, 8)
	is(t, "Notes of a new store", s.Notes(), full(""))
	writes(t, s, 0)
	for n := range most + 1 {
		_, e := s.Commit(notesOf(n))
		is(t, "Commit", e, api.OK)
		tells(t, s, notesOf(n), nil, 3, n+1)
		tells(t, opened(t, d, 0, 8), notesOf(n), nil, 3, n+1)
	}
	_, e := s.Commit("a\x00b\xff\x00")
	is(t, "Commit", e, api.OK)
	tells(t, s, "a\x00b\xff", nil, 3, most+2)
	commits(t, s, "", 2)
	tells(t, s, "", nil, 3, most+3)
}

// 5.3, Errors, P2: notes of more than 200 bytes are refused, ahead of all else.
func TestNotesThatAreTooLong(t *testing.T) {
	d, s := fresh(t, 8)
	writes(t, s, 0)
	commits(t, s, "old", 4)
	writes(t, s, 1)
	dump, moves := d.Dump(), d.Moves()
	for _, n := range []int{most + 1, most + 2, 2 * most, api.MaxRecord, 1 << 16, 1<<16 + 1} {
		refuses(t, s, notesOf(n), api.ErrArg)
		tells(t, s, "old", []int{1}, 3, 1)
	}
	writes(t, s, 2, 3, 4)
	refuses(t, s, notesOf(most+1), api.ErrArg)
	refuses(t, s, notesOf(most), api.ErrFull)
	is(t, "Moves", d.Moves(), moves)
	hasBytes(t, "Dump", d.Dump(), dump)
	s.Drop()
	writes(t, s, 1)
	cutPower(t, d)
	refuses(t, s, notesOf(most+1), api.ErrArg)
	refuses(t, s, notesOf(most), api.ErrPower)
	refuses(t, s, notesOf(most+1), api.ErrArg)
}

// 5.3: with just enough free sectors, and with one too few, for pages of one table and of several.
func TestCommitWithoutRoom(t *testing.T) {
	tests := []struct {
		pages []int
		takes int // sectors beside the root
	}{
		{[]int{0, 1, 2, 3, 4, 5}, 8},
		{[]int{0, 128, 256, 384}, 9},
		{[]int{0, 1, 127, 128, 4095}, 9},
		{[]int{4090, 4091, 4092, 4093, 4094, 4095, 3968}, 9},
	}
	for _, c := range tests {
		d, s := fresh(t, c.takes+2)
		writes(t, s, c.pages...)
		commits(t, s, "enough", c.takes+1)
		content := map[int][]byte{}
		for _, p := range c.pages {
			content[p] = pageOf(p)
		}
		tells(t, s, "enough", nil, 0, 1)
		reads(t, opened(t, d, 0, c.takes+2), content, somePages...)

		d, s = fresh(t, c.takes+1)
		writes(t, s, c.pages...)
		dump, moves := d.Dump(), d.Moves()
		for range 2 {
			refuses(t, s, "too few", api.ErrFull)
			tells(t, s, "", sorted(c.pages), c.takes-1, 0)
			reads(t, s, content, somePages...)
		}
		is(t, "Moves", d.Moves(), moves)
		hasBytes(t, "Dump", d.Dump(), dump)
		// ErrFull is named ahead of ErrPower.
		cutPower(t, d)
		refuses(t, s, "too few", api.ErrFull)
		d.Crash()
		// Noughts need no sector.
		is(t, "Write", s.Write(c.pages[0], of(0)), api.OK)
		_, e := s.Commit("one fewer")
		is(t, "Commit", e, api.OK)
		delete(content, c.pages[0])
		reads(t, opened(t, d, 0, c.takes+1), content, somePages...)
	}
}

func sorted(l []int) []int {
	l = slices.Clone(l)
	slices.Sort(l)
	return l
}

// 5.3: what is committed is not free, and what it takes the place of is not, till the root counts.
func TestCommitOverWhatIsThere(t *testing.T) {
	// 10 sectors behind the roots: the pages, a table and a top twice.
	d, s := fresh(t, 12)
	writes(t, s, 0, 1, 2)
	commits(t, s, "", 6)
	writes(t, s, 0, 1, 2)
	commits(t, s, "", 6)
	writes(t, s, 0, 1, 2, 3)
	refuses(t, s, "", api.ErrFull)
	is(t, "Write", s.Write(3, of(0)), api.OK)
	commits(t, s, "", 6)
	reads(t, opened(t, d, 0, 12), map[int][]byte{0: pageOf(0), 1: pageOf(1), 2: pageOf(2)}, somePages...)
	// Three are free then, and two: one too few for a page, its table and the top.
	writes(t, s, 128)
	commits(t, s, "", 4)
	is(t, "Free", s.Free(), 3)
	writes(t, s, 129)
	commits(t, s, "", 4)
	writes(t, s, 130)
	refuses(t, s, "", api.ErrFull)
	tells(t, s, "", []int{130}, 2, 5)
}

// 5.3, Errors, P2: behind the greatest sequence comes none that can be.
func TestGreatestSequence(t *testing.T) {
	const greatest = math.MaxUint32
	d := loaded(t, rootOf(greatest-1, 0, 8, "last but one"), rootOf(7, 0, 8, ""), bytes.Repeat(of(0), 6))
	s := opened(t, d, 0, 8)
	tells(t, s, "last but one", nil, 6, greatest-1)
	writes(t, s, 0)
	commits(t, s, "last", 4)
	tells(t, s, "last", nil, 3, greatest)
	dump, moves := d.Dump(), d.Moves()
	hasBytes(t, "the root", dump[api.Sector:2*api.Sector], rootOf(greatest, 4, 8, "last"))
	writes(t, s, 1)
	for range 2 {
		refuses(t, s, "none", api.ErrFull)
		refuses(t, s, notesOf(most+1), api.ErrArg)
		tells(t, s, "last", []int{1}, 3, greatest)
		reads(t, s, map[int][]byte{0: pageOf(0), 1: pageOf(1)}, somePages...)
	}
	s.Drop()
	refuses(t, s, "", api.ErrFull)
	is(t, "Moves", d.Moves(), moves)
	hasBytes(t, "Dump", d.Dump(), dump)
	s = opened(t, d, 0, 8)
	refuses(t, s, "", api.ErrFull)
	cutPower(t, d)
	refuses(t, s, "", api.ErrFull)
}

// Rule 2: a store that no call made.
func TestStoreThatIsNone(t *testing.T) {
	for _, s := range []*page.Store{nil, {}} {
		for range 2 {
			for _, p := range append(notPages, somePages...) {
				b, e := s.Read(p)
				is(t, "Read", e, api.ErrNil)
				is(t, "its bytes", len(b), 0)
				is(t, "Write", s.Write(p, of(1)), api.ErrNil)
				is(t, "Write of nothing", s.Write(p, nil), api.ErrNil)
			}
			refuses(t, s, "", api.ErrNil)
			refuses(t, s, notesOf(most+1), api.ErrNil)
			s.Drop()
			is(t, "Notes", s.Notes(), "")
			is(t, "Dirty", len(s.Dirty()), 0)
			is(t, "Free", s.Free(), 0)
			is(t, "Sequence", s.Sequence(), 0)
		}
	}
}

// Rule 4: what is handed in is not changed, and not kept.
func TestHandedInIsNotKept(t *testing.T) {
	d, s := fresh(t, 10)
	b := pageOf(5)
	is(t, "Write", s.Write(5, b), api.OK)
	hasBytes(t, "what was written", b, pageOf(5))
	clear(b)
	reads(t, s, map[int][]byte{5: pageOf(5)}, somePages...)
	b = pageOf(6)
	is(t, "Write", s.Write(6, b), api.OK)
	commits(t, s, "", 5)
	hasBytes(t, "what was written", b, pageOf(6))
	clear(b)
	reads(t, s, map[int][]byte{5: pageOf(5), 6: pageOf(6)}, somePages...)
	reads(t, opened(t, d, 0, 10), map[int][]byte{5: pageOf(5), 6: pageOf(6)}, somePages...)
}

// Rule 4: what is handed out is the caller's own.
func TestHandedOutIsNotKept(t *testing.T) {
	d, s := fresh(t, 10)
	content := map[int][]byte{5: pageOf(5), 6: pageOf(6), 7: pageOf(7)}
	writes(t, s, 5, 6)
	commits(t, s, "", 5)
	writes(t, s, 6, 7)
	for range 2 {
		for p := range 9 {
			b, e := s.Read(p)
			is(t, "Read", e, api.OK)
			for i := range b {
				b[i] ^= 0xff
			}
			_ = append(b, 1)
		}
		l := s.Dirty()
		hasNumbers(t, "Dirty", l, []int{6, 7})
		l[0] = 9
		reads(t, s, content, somePages...)
	}
	commits(t, s, "", 5)
	reads(t, s, content, somePages...)
	reads(t, opened(t, d, 0, 10), content, somePages...)
}
