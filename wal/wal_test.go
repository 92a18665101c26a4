package wal_test

import (
	"bytes"
	"encoding/binary"
	"hash/crc32"
	"math"
	"slices"
	"strings"
	"testing"

	"larch/api"
	"larch/disk"
	"larch/wal"
)

// most is how many bytes of records a sector takes.
const most = 231

func is(t *testing.T, what string, got, want any) {
	t.Helper()
	if got != want {
		t.Errorf("%s: %v, want %v", what, got, want)
	}
}

func hasBytes(t *testing.T, what string, got, want []byte) {
	t.Helper()
	if len(got) != len(want) {
		t.Errorf("%s: %d bytes, want %d", what, len(got), len(want))
		return
	}
	for at := 0; at < len(got); at += api.Sector {
		g, w := got[at:min(at+api.Sector, len(got))], want[at:min(at+api.Sector, len(want))]
		if !bytes.Equal(g, w) {
			t.Errorf("%s: sector %d: %.40x.., want %.40x..", what, at/api.Sector, g, w)
		}
	}
}

func hasTexts(t *testing.T, what string, got, want []string) {
	t.Helper()
	if !slices.Equal(got, want) {
		t.Errorf("%s: %d texts %.80q, want %d texts %.80q", what, len(got), got, len(want), want)
	}
}

// filled answers a sector that has these bytes, and noughts behind them.
func filled(b []byte) []byte {
	return append(b, make([]byte, api.Sector-len(b))...)
}

// record answers a record's bytes as chapter 3 says them.
func record(epoch uint32, data string) []byte {
	b := binary.BigEndian.AppendUint32(nil, uint32(len(data)))
	b = binary.BigEndian.AppendUint32(b, epoch)
	b = append(b, data...)
	return binary.BigEndian.AppendUint32(b, crc32.Checksum(b, crc32.MakeTable(crc32.Castagnoli)))
}

func number(n uint32) string { return string(binary.BigEndian.AppendUint32(nil, n)) }

// headOf answers a head as the chapter says it.
func headOf(epoch, from uint32) []byte { return filled(record(epoch, number(from))) }

// goes and ends answer a sector with bytes of a record that goes on, or that ends there.
func goes(epoch, n uint32, data string) []byte {
	return filled(record(epoch, number(n)+"\x00"+data))
}

func ends(epoch, n uint32, data string) []byte {
	return filled(record(epoch, number(n)+"\x01"+data))
}

// sectorsOf answers the sectors of one record, from number n on.
func sectorsOf(epoch, n uint32, data string) [][]byte {
	var l [][]byte
	for len(data) > most {
		l = append(l, goes(epoch, n, data[:most]))
		data = data[most:]
		n++
	}
	return append(l, ends(epoch, n, data))
}

// text answers n bytes, of which each tells its place.
func text(n int) string {
	b := make([]byte, n)
	for i := range b {
		b[i] = byte(i*7 + i/most + n)
	}
	return string(b)
}

// loaded answers a disk that has these sectors for sure.
func loaded(t *testing.T, sectors ...[]byte) *disk.Disk {
	t.Helper()
	d, e := disk.Load(slices.Concat(sectors...))
	if e != api.OK {
		t.Fatalf("Load of %d sectors: %v", len(sectors), e)
	}
	return d
}

// marked answers a disk of as many sectors, none of which is noughts, a head or a record's.
func marked(t *testing.T, sectors int) *disk.Disk {
	t.Helper()
	return loaded(t, bytes.Repeat([]byte{0xa5}, sectors*api.Sector))
}

func opened(t *testing.T, d *disk.Disk, at, size int) *wal.Log {
	t.Helper()
	l, e := wal.Open(d, at, size)
	if e != api.OK || l == nil {
		t.Fatalf("Open(%d, %d): %v, %v", at, size, l, e)
	}
	return l
}

// fresh answers a disk with nothing but a log of size sectors, just formatted and opened.
func fresh(t *testing.T, size int) (*disk.Disk, *wal.Log) {
	t.Helper()
	d, e := disk.Make(size)
	is(t, "Make", e, api.OK)
	is(t, "Format", wal.Format(d, 0, size), api.OK)
	return d, opened(t, d, 0, size)
}

func appends(t *testing.T, l *wal.Log, records ...string) {
	t.Helper()
	for _, r := range records {
		is(t, "Append", l.Append(r), api.OK)
	}
}

// tells holds all that a log tells against what it should.
func tells(t *testing.T, l *wal.Log, records []string, sure, free, epoch int) {
	t.Helper()
	hasTexts(t, "Records", l.Records(), records)
	is(t, "Sure", l.Sure(), sure)
	is(t, "Free", l.Free(), free)
	is(t, "Epoch", l.Epoch(), epoch)
}

// dark answers a disk with these sectors whose power is gone.
func dark(t *testing.T, sectors ...[]byte) *disk.Disk {
	t.Helper()
	d := loaded(t, sectors...)
	d.Trip(0)
	is(t, "Barrier at the trip", d.Barrier(), api.ErrPower)
	return d
}

// The chapter's example 1.
func TestExample(t *testing.T) {
	_, l := fresh(t, 5)
	appends(t, l, text(300))
	is(t, "Free behind 300 bytes", l.Free(), 2)
	appends(t, l, "x")
	is(t, "Free behind 1 byte", l.Free(), 1)
	is(t, "Append of 300 bytes more", l.Append(text(300)), api.ErrFull)
	is(t, "Free behind what is refused", l.Free(), 1)
}

// outside are sectors that make no log on a disk of seven.
var outside = []struct{ at, size int }{
	{0, 0}, {0, 1}, {6, 1}, {3, 0}, {0, -1}, {0, -2}, {5, -2}, {0, math.MinInt}, {7, math.MinInt},
	{-1, 2}, {-1, 3}, {-2, 2}, {-7, 7}, {math.MinInt, 2}, {math.MinInt, math.MinInt}, {math.MinInt, math.MaxInt},
	{0, 8}, {1, 7}, {5, 3}, {6, 2}, {7, 2}, {8, 2}, {7, 0}, {7, 1}, {100, 2}, {0, api.MaxSectors},
	{0, math.MaxInt}, {1, math.MaxInt}, {6, math.MaxInt}, {math.MaxInt, 2}, {math.MaxInt, 1},
	{math.MaxInt - 1, 2}, {math.MaxInt, math.MaxInt}, {math.MaxInt, math.MinInt}, {math.MinInt, 0}, {-1, math.MaxInt},
}

// 4.1, Errors, P2: with the power gone, too.
func TestSectorsThatMakeNoLog(t *testing.T) {
	seven := bytes.Repeat(headOf(1, 1), 7)
	for _, d := range []*disk.Disk{loaded(t, seven), dark(t, seven)} {
		for _, c := range outside {
			if e := wal.Format(d, c.at, c.size); e != api.ErrArg {
				t.Errorf("Format(%d, %d): %v, want ErrArg", c.at, c.size, e)
			}
			if l, e := wal.Open(d, c.at, c.size); l != nil || e != api.ErrArg {
				t.Errorf("Open(%d, %d): %v, %v, want none and ErrArg", c.at, c.size, l, e)
			}
		}
		is(t, "Moves", d.Moves(), 0)
		hasBytes(t, "Dump", d.Dump(), seven)
	}
}

// 4.1, rule 2: ErrNil comes first.
func TestDiskThatIsNone(t *testing.T) {
	for _, d := range []*disk.Disk{nil, {}} {
		for _, c := range append(outside, struct{ at, size int }{0, 2}, struct{ at, size int }{1, 5}) {
			if e := wal.Format(d, c.at, c.size); e != api.ErrNil {
				t.Errorf("Format(%d, %d): %v, want ErrNil", c.at, c.size, e)
			}
			if l, e := wal.Open(d, c.at, c.size); l != nil || e != api.ErrNil {
				t.Errorf("Open(%d, %d): %v, %v, want none and ErrNil", c.at, c.size, l, e)
			}
		}
	}
}

// 4.1: at all places of a disk where a log can lie; nothing but the head is stored.
func TestFormatStoresTheHead(t *testing.T) {
	const sectors = 5
	for at := range sectors {
		for size := 2; at+size <= sectors; size++ {
			d := marked(t, sectors)
			want := d.Dump()
			copy(want[at*api.Sector:], headOf(1, 1))
			is(t, "Format", wal.Format(d, at, size), api.OK)
			is(t, "Moves", d.Moves(), 2)
			is(t, "Cached", len(d.Cached()), 0)
			hasBytes(t, "Dump", d.Dump(), want)
			d.Crash()
			hasBytes(t, "Dump behind a crash", d.Dump(), want)
			tells(t, opened(t, d, at, size), nil, 0, size-1, 2)
		}
	}
}

// 4.1, Limits.
func TestLogOfTheGreatestDisk(t *testing.T) {
	d, l := fresh(t, api.MaxSectors)
	is(t, "Free", l.Free(), api.MaxSectors-1)
	for range api.MaxSectors - 1 {
		appends(t, l, "")
	}
	is(t, "Append to a full log", l.Append(""), api.ErrFull)
	is(t, "Flush", l.Flush(), api.OK)
	d.Crash()
	tells(t, opened(t, d, 0, api.MaxSectors), make([]string, api.MaxSectors-1), api.MaxSectors-1, 0, 3)
}

// 4.1, Errors: the power goes at each move of Format.
func TestFormatLosesThePower(t *testing.T) {
	for n := range 2 {
		for kept := range 2 {
			d := loaded(t, headOf(7, 3), ends(5, 0, "a"))
			d.Trip(n)
			is(t, "Format", wal.Format(d, 0, 2), api.ErrPower)
			is(t, "Moves", d.Moves(), n)
			is(t, "Format with the power gone", wal.Format(d, 0, 2), api.ErrPower)
			d.Crash(kept)
			if n == 1 && kept == 1 {
				tells(t, opened(t, d, 0, 2), nil, 0, 1, 2)
			} else {
				tells(t, opened(t, d, 0, 2), []string{"a"}, 1, 0, 8)
			}
		}
	}
}

// noHeads are sectors that are no head.
func noHeads() map[string][]byte {
	turned := headOf(2, 1)
	turned[15] ^= 1
	near, far := headOf(2, 1), headOf(2, 1)
	near[16], far[api.Sector-1] = 1, 0x80
	return map[string][]byte{
		"noughts":                  make([]byte, api.Sector),
		"all ones":                 bytes.Repeat([]byte{0xff}, api.Sector),
		"no data":                  filled(record(2, "")),
		"one byte":                 filled(record(2, "\x01")),
		"three bytes":              filled(record(2, "\x00\x00\x01")),
		"five bytes":               filled(record(2, number(1)+"\x00")),
		"five bytes, nought first": filled(record(2, "\x00"+number(1))),
		"eight bytes":              filled(record(2, number(1)+number(1))),
		"a sum that is not right":  turned,
		"a byte just behind":       near,
		"a byte at the end":        far,
		"a record behind":          filled(append(record(2, number(1)), record(2, "")...)),
		"a record's sector":        ends(2, 0, "a"),
		"a head a byte on":         append([]byte{0}, headOf(2, 1)[:api.Sector-1]...),
		"more than MaxRecord":      append([]byte{0, 0, 0x10, 1}, headOf(2, 1)[4:]...),
		"more than the sector":     append([]byte{0, 0, 1, 0}, headOf(2, 1)[4:]...),
	}
}

// 4.1, Words, P2.
func TestOpenOfAHeadThatIsNone(t *testing.T) {
	for what, head := range noHeads() {
		d := loaded(t, head, ends(1, 0, "a"))
		want := d.Dump()
		if l, e := wal.Open(d, 0, 2); l != nil || e != api.ErrWal {
			t.Errorf("Open, %s: %v, %v, want none and ErrWal", what, l, e)
		}
		is(t, "Moves", d.Moves(), 0)
		hasBytes(t, "Dump", d.Dump(), want)
		// ErrPower is named ahead of ErrWal.
		if l, e := wal.Open(dark(t, head, ends(1, 0, "a")), 0, 2); l != nil || e != api.ErrPower {
			t.Errorf("Open, %s, with the power gone: %v, %v, want none and ErrPower", what, l, e)
		}
		is(t, "Format over it", wal.Format(d, 0, 2), api.OK)
		opened(t, d, 0, 2)
	}
}

// 4.1: the head that is stored has the next epoch and the same from-epoch; nothing else is.
func TestOpenStoresTheNextHead(t *testing.T) {
	heads := []struct{ epoch, from uint32 }{
		{0, 0}, {1, 0}, {1, 1}, {2, 1}, {7, 7}, {255, 255}, {256, 255}, {1 << 24, 1 << 16},
		{math.MaxInt32, 1}, {1 << 31, 1 << 31}, {math.MaxUint32 - 1, 0}, {math.MaxUint32 - 1, math.MaxUint32 - 1},
		{0, 1}, {1, 2}, {2, 9}, {0, math.MaxUint32}, {255, 256}, {math.MaxUint32 - 1, math.MaxUint32},
	}
	for _, h := range heads {
		mark := bytes.Repeat([]byte{0xa5}, api.Sector)
		d := loaded(t, mark, headOf(h.epoch, h.from), mark, mark, mark)
		l := opened(t, d, 1, 3)
		tells(t, l, nil, 0, 2, int(h.epoch)+1)
		is(t, "Moves", d.Moves(), 2)
		is(t, "Cached", len(d.Cached()), 0)
		hasBytes(t, "Dump", d.Dump(), slices.Concat(mark, headOf(h.epoch+1, h.from), mark, mark, mark))
	}
}

// 4.1, Words: a head whose from-epoch is above its epoch is one; no sector counts till its epoch has come up to that.
func TestHeadWhoseFromEpochIsAbove(t *testing.T) {
	for epoch := range uint32(6) {
		d := loaded(t, headOf(2, 4), ends(epoch, 0, "a"), filled(nil))
		l := opened(t, d, 0, 3)
		tells(t, l, nil, 0, 2, 3)
		appends(t, l, "b")
		tells(t, l, []string{"b"}, 0, 1, 3)
		is(t, "Flush", l.Flush(), api.OK)
		hasBytes(t, "Dump", d.Dump(), slices.Concat(headOf(3, 4), ends(3, 0, "b"), filled(nil)))
		l = opened(t, d, 0, 3)
		tells(t, l, nil, 0, 2, 4)
		appends(t, l, "c")
		is(t, "Flush", l.Flush(), api.OK)
		l = opened(t, d, 0, 3)
		tells(t, l, []string{"c"}, 1, 1, 5)
		is(t, "Reset", l.Reset(), api.OK)
		hasBytes(t, "Dump", d.Dump(), slices.Concat(headOf(6, 6), ends(4, 0, "c"), filled(nil)))
	}
	d := loaded(t, headOf(2, 4), filled(nil))
	l := opened(t, d, 0, 2)
	is(t, "Reset", l.Reset(), api.OK)
	tells(t, l, nil, 0, 1, 4)
	hasBytes(t, "Dump", d.Dump(), slices.Concat(headOf(4, 4), filled(nil)))
}

// 4.1, Errors: behind the greatest epoch comes none that can be.
func TestOpenOfTheGreatestEpoch(t *testing.T) {
	for _, from := range []uint32{0, 1, math.MaxUint32} {
		d := loaded(t, headOf(math.MaxUint32, from), ends(math.MaxUint32, 0, "a"))
		want := d.Dump()
		l, e := wal.Open(d, 0, 2)
		if l != nil || e != api.ErrFull {
			t.Errorf("Open: %v, %v, want none and ErrFull", l, e)
		}
		is(t, "Moves", d.Moves(), 0)
		hasBytes(t, "Dump", d.Dump(), want)
	}
}

// 4.2, Errors, P2: a log of the greatest epoch can't be reset, but all else can be done to it.
func TestResetOfTheGreatestEpoch(t *testing.T) {
	const greatest = math.MaxUint32
	d := loaded(t, headOf(greatest-1, 4), ends(5, 0, "a"), filled(nil), filled(nil))
	l := opened(t, d, 0, 4)
	appends(t, l, "b")
	dump, cached, moves := d.Dump(), len(d.Cached()), d.Moves()
	for range 2 {
		is(t, "Reset", l.Reset(), api.ErrFull)
		tells(t, l, []string{"a", "b"}, 1, 1, greatest)
		hasBytes(t, "Dump", d.Dump(), dump)
		is(t, "Cached", len(d.Cached()), cached)
		is(t, "Moves", d.Moves(), moves)
	}
	appends(t, l, "c")
	is(t, "Flush", l.Flush(), api.OK)
	tells(t, l, []string{"a", "b", "c"}, 3, 0, greatest)
	hasBytes(t, "Dump", d.Dump(), slices.Concat(headOf(greatest, 4), ends(5, 0, "a"), ends(greatest, 1, "b"), ends(greatest, 2, "c")))
}

// 4.2: a log of the epoch below the greatest can be reset once.
func TestResetToTheGreatestEpoch(t *testing.T) {
	d := loaded(t, headOf(math.MaxUint32-2, 4), ends(5, 0, "a"))
	l := opened(t, d, 0, 2)
	is(t, "Reset", l.Reset(), api.OK)
	tells(t, l, nil, 0, 1, math.MaxUint32)
	hasBytes(t, "Dump", d.Dump(), slices.Concat(headOf(math.MaxUint32, math.MaxUint32), ends(5, 0, "a")))
	is(t, "Reset", l.Reset(), api.ErrFull)
}

// 4.1, Errors: the power goes at each move of Open.
func TestOpenLosesThePower(t *testing.T) {
	for n := range 2 {
		for kept := range 2 {
			d := loaded(t, headOf(7, 3), ends(5, 0, "a"))
			d.Trip(n)
			for range 2 {
				l, e := wal.Open(d, 0, 2)
				is(t, "Open", e, api.ErrPower)
				is(t, "its log", l == nil, true)
			}
			is(t, "Moves", d.Moves(), n)
			d.Crash(kept)
			tells(t, opened(t, d, 0, 2), []string{"a"}, 1, 0, 8+n*kept)
		}
	}
}

// lengths are how many bytes a record may have, and how many sectors it takes then.
var lengths = []struct{ bytes, sectors int }{
	{0, 1}, {1, 1}, {2, 1}, {most - 1, 1}, {most, 1}, {most + 1, 2}, {239, 2}, {240, 2}, {256, 2}, {300, 2},
	{2*most - 1, 2}, {2 * most, 2}, {2*most + 1, 3}, {1000, 5}, {17 * most, 17}, {api.MaxRecord - 1, 18}, {api.MaxRecord, 18},
}

// 4.2: each in its sectors, with the log's epoch, and nothing else; what was there stays.
func TestAppendStoresItsSectors(t *testing.T) {
	for _, c := range lengths {
		mark := bytes.Repeat([]byte{0xa5}, api.Sector)
		d := loaded(t, mark, headOf(6, 3), ends(4, 0, "a"), bytes.Repeat(mark, 20))
		l := opened(t, d, 1, 22)
		data := text(c.bytes)
		values := sectorsOf(7, 1, data)
		is(t, "how many sectors", len(values), c.sectors)
		is(t, "Append", l.Append(data), api.OK)
		is(t, "Moves", d.Moves(), 2+c.sectors)
		want := slices.Concat(mark, headOf(7, 3), ends(4, 0, "a"), slices.Concat(values...), bytes.Repeat(mark, 20-c.sectors))
		hasBytes(t, "Dump", d.Dump(), want)
		is(t, "Cached", len(d.Cached()), c.sectors)
		tells(t, l, []string{"a", data}, 1, 20-c.sectors, 7)
		appends(t, l, "behind")
		copy(want[(3+c.sectors)*api.Sector:], ends(7, uint32(1+c.sectors), "behind"))
		hasBytes(t, "Dump", d.Dump(), want)
		tells(t, opened(t, d, 1, 22), []string{"a", data, "behind"}, 3, 19-c.sectors, 8)
	}
}

// 4.2: its sectors are stored rising, each once.
func TestAppendStoresRising(t *testing.T) {
	data := text(4*most + 5)
	for n := range 5 {
		d, l := fresh(t, 9)
		appends(t, l, "a")
		d.Trip(n)
		is(t, "Append", l.Append(data), api.ErrPower)
		is(t, "Cached", len(d.Cached()), 1+n)
		for i, at := range d.Cached() {
			is(t, "a sector that waits", at, 1+i)
		}
	}
}

// 4.2: ErrLong is named ahead of ErrFull.
func TestAppendOfTooMany(t *testing.T) {
	for _, size := range []int{2, 18, 19, 20, 40} {
		d, l := fresh(t, size)
		moves := d.Moves()
		for _, n := range []int{api.MaxRecord + 1, api.MaxRecord + 2, 2 * api.MaxRecord, api.MaxBytes} {
			is(t, "Append of too many bytes", l.Append(text(n)), api.ErrLong)
		}
		is(t, "Moves", d.Moves(), moves)
		tells(t, l, nil, 0, size-1, 2)
		want := api.OK
		if size-1 < 18 {
			want = api.ErrFull
		}
		is(t, "Append of MaxRecord bytes", l.Append(text(api.MaxRecord)), want)
	}
}

// 4.2, P2: with just enough sectors, and with one too few.
func TestAppendNeedsRoom(t *testing.T) {
	for _, c := range lengths {
		data := text(c.bytes)
		_, l := fresh(t, 1+3+c.sectors)
		appends(t, l, text(2*most+1), data)
		tells(t, l, []string{text(2*most + 1), data}, 0, 0, 2)
		is(t, "Append to a full log", l.Append(""), api.ErrFull)

		d, l := fresh(t, 3+c.sectors)
		appends(t, l, "a", "b", "c")
		dump, moves := d.Dump(), d.Moves()
		is(t, "Append with one sector too few", l.Append(data), api.ErrFull)
		hasBytes(t, "Dump", d.Dump(), dump)
		is(t, "Moves", d.Moves(), moves)
		tells(t, l, []string{"a", "b", "c"}, 0, c.sectors-1, 2)
		if c.sectors > 1 {
			appends(t, l, text((c.sectors-1)*most))
			is(t, "Free", l.Free(), 0)
		}
	}
}

// 4.2: Flush is one barrier.
func TestFlushIsABarrier(t *testing.T) {
	d, l := fresh(t, 5)
	is(t, "Flush of nothing", l.Flush(), api.OK)
	is(t, "Moves", d.Moves(), 5)
	appends(t, l, "a", "b")
	dump := d.Dump()
	is(t, "Flush", l.Flush(), api.OK)
	is(t, "Moves", d.Moves(), 8)
	is(t, "Cached", len(d.Cached()), 0)
	d.Crash()
	hasBytes(t, "Dump", d.Dump(), dump)
}

// 4.2: a head with the next epoch as both is stored; the sectors stay as they are.
func TestResetStoresTheHead(t *testing.T) {
	d, l := fresh(t, 5)
	appends(t, l, "a", text(300))
	want := d.Dump()
	copy(want, headOf(3, 3))
	moves := d.Moves()
	is(t, "Reset", l.Reset(), api.OK)
	is(t, "Moves", d.Moves(), moves+2)
	is(t, "Cached", len(d.Cached()), 0)
	hasBytes(t, "Dump", d.Dump(), want)
	tells(t, l, nil, 0, 4, 3)
	tells(t, opened(t, d, 0, 5), nil, 0, 4, 4)
	hasBytes(t, "the head behind Open", d.Dump()[:api.Sector], headOf(4, 3))
}

// 4.3.
func TestWhatIsTold(t *testing.T) {
	d, l := fresh(t, 6)
	tells(t, l, nil, 0, 5, 2)
	appends(t, l, "a")
	tells(t, l, []string{"a"}, 0, 4, 2)
	is(t, "Flush", l.Flush(), api.OK)
	tells(t, l, []string{"a"}, 1, 4, 2)
	appends(t, l, "", text(232))
	tells(t, l, []string{"a", "", text(232)}, 1, 1, 2)
	is(t, "Flush", l.Flush(), api.OK)
	is(t, "Flush", l.Flush(), api.OK)
	tells(t, l, []string{"a", "", text(232)}, 3, 1, 2)
	appends(t, l, "a")
	tells(t, l, []string{"a", "", text(232), "a"}, 3, 0, 2)
	l = opened(t, d, 0, 6)
	tells(t, l, []string{"a", "", text(232), "a"}, 4, 0, 3)
	d.Crash()
	l = opened(t, d, 0, 6)
	tells(t, l, []string{"a", "", text(232), "a"}, 4, 0, 4)
	is(t, "Reset", l.Reset(), api.OK)
	tells(t, l, nil, 0, 5, 5)
	is(t, "Reset of nothing", l.Reset(), api.OK)
	tells(t, l, nil, 0, 5, 6)
	is(t, "Flush", l.Flush(), api.OK)
	tells(t, l, nil, 0, 5, 6)
	appends(t, l, "b")
	tells(t, l, []string{"b"}, 0, 4, 6)
	tells(t, opened(t, d, 0, 6), []string{"b"}, 1, 4, 7)
}

// 4.1, 4.3: what a log that was open has in the caches is read, and sure behind Open.
func TestOpenMakesSureWhatItRead(t *testing.T) {
	d, l := fresh(t, 4)
	appends(t, l, "a", "b")
	l = opened(t, d, 0, 4)
	tells(t, l, []string{"a", "b"}, 2, 1, 3)
	d.Crash()
	tells(t, opened(t, d, 0, 4), []string{"a", "b"}, 2, 1, 4)
}

// with answers b with a byte changed behind the record that it has.
func with(b []byte, at int, x byte) []byte {
	c := slices.Clone(b)
	c[at] = x
	return c
}

// Words: the sectors that count, behind a head of epoch 9 that counts from 4 on, and the records that they make.
func TestSectorsThatCount(t *testing.T) {
	long := text(most)
	tests := []struct {
		what    string
		sectors [][]byte
		records []string
		used    int
	}{
		{"noughts", nil, nil, 0},
		{"one", [][]byte{ends(5, 0, "a")}, []string{"a"}, 1},
		{"an empty one", [][]byte{ends(5, 0, "")}, []string{""}, 1},
		{"as many bytes as can be", [][]byte{ends(5, 0, long), ends(5, 1, "b")}, []string{long, "b"}, 2},
		{"one byte more", [][]byte{ends(5, 0, long+"x"), ends(5, 1, "b")}, nil, 0},
		{"one byte more, going on", [][]byte{goes(5, 0, long+"x"), ends(5, 1, "b")}, nil, 0},
		{"all bytes of a sector", [][]byte{ends(5, 0, text(239)), ends(5, 1, "b")}, nil, 0},
		{"of two sectors", [][]byte{goes(5, 0, long), ends(5, 1, "x")}, []string{long + "x"}, 2},
		{"of two short sectors", [][]byte{goes(5, 0, "a"), ends(5, 1, "b"), ends(5, 2, "c")}, []string{"ab", "c"}, 3},
		{"of empty sectors", [][]byte{goes(5, 0, ""), goes(5, 1, ""), ends(5, 2, "")}, []string{""}, 3},
		{"none that ends", [][]byte{goes(5, 0, "a"), goes(5, 1, "b"), goes(5, 2, "c"), goes(5, 3, "d")}, nil, 0},
		{"the last one does not end", [][]byte{ends(5, 0, "a"), goes(5, 1, "b"), goes(5, 2, "c")}, []string{"a"}, 1},
		{"another number first", [][]byte{ends(5, 1, "a"), ends(5, 1, "b")}, nil, 0},
		{"another number", [][]byte{ends(5, 0, "a"), ends(5, 2, "b"), ends(5, 2, "c")}, []string{"a"}, 1},
		{"the number before", [][]byte{ends(5, 0, "a"), ends(5, 0, "b")}, []string{"a"}, 1},
		{"a number that is 2^8 too great", [][]byte{ends(5, 256, "a")}, nil, 0},
		{"a number that is 2^31 too great", [][]byte{ends(5, 0, "a"), ends(5, 1<<31+1, "a")}, []string{"a"}, 1},
		{"another byte just behind", [][]byte{ends(5, 0, "a"), with(ends(5, 1, "b"), 18, 1), ends(5, 2, "c")}, []string{"a"}, 1},
		{"another byte at the end", [][]byte{with(ends(5, 0, long), 255, 1), ends(5, 1, "b")}, nil, 0},
		{"a record behind", [][]byte{filled(append(record(5, number(0)+"\x01a"), record(5, "")...))}, nil, 0},
		{"a sum that is not right", [][]byte{ends(5, 0, "a"), with(ends(5, 1, "b"), 13, 'c'), ends(5, 2, "c")}, []string{"a"}, 1},
		{"a mark that is 2", [][]byte{ends(5, 0, "a"), filled(record(5, number(1)+"\x02b")), ends(5, 2, "c")}, []string{"a"}, 1},
		{"a mark that is 255", [][]byte{filled(record(5, number(0)+"\xffb")), ends(5, 1, "a")}, nil, 0},
		{"no mark", [][]byte{filled(record(5, number(0))), ends(5, 1, "a")}, nil, 0},
		{"no data", [][]byte{ends(5, 0, "a"), filled(record(5, ""))}, []string{"a"}, 1},
		{"a head", [][]byte{headOf(5, 0)}, nil, 0},
		{"the head's epoch", [][]byte{ends(9, 0, "a"), ends(9, 1, "b")}, []string{"a", "b"}, 2},
		{"above the head's", [][]byte{ends(10, 0, "a"), ends(9, 1, "b")}, nil, 0},
		{"above the head's, behind one", [][]byte{ends(9, 0, "a"), ends(10, 1, "b"), ends(9, 2, "c")}, []string{"a"}, 1},
		{"the greatest epoch", [][]byte{ends(9, 0, "a"), ends(math.MaxUint32, 1, "b")}, []string{"a"}, 1},
		{"the from-epoch", [][]byte{ends(4, 0, "a"), ends(4, 1, "b")}, []string{"a", "b"}, 2},
		{"below the from-epoch", [][]byte{ends(3, 0, "a"), ends(4, 1, "b")}, nil, 0},
		{"below the from-epoch, behind one", [][]byte{ends(4, 0, "a"), ends(3, 1, "b")}, []string{"a"}, 1},
		{"epoch 0", [][]byte{ends(0, 0, "a")}, nil, 0},
		{"rising epochs", [][]byte{ends(4, 0, "a"), ends(6, 1, "b"), ends(7, 2, "c"), ends(9, 3, "d")}, []string{"a", "b", "c", "d"}, 4},
		{"below that of the one ahead", [][]byte{ends(6, 0, "a"), ends(5, 1, "b"), ends(6, 2, "c")}, []string{"a"}, 1},
		{"below that of the one ahead, of two sectors", [][]byte{goes(6, 0, "a"), ends(6, 1, "b"), ends(5, 2, "c")}, []string{"ab"}, 2},
		{"a newer epoch within a record", [][]byte{goes(5, 0, "a"), ends(6, 1, "b"), ends(6, 2, "c")}, nil, 0},
		{"an elder epoch within a record", [][]byte{goes(6, 0, "a"), ends(5, 1, "b"), ends(6, 2, "c")}, nil, 0},
		{"a newer epoch within the second record", [][]byte{ends(5, 0, "a"), goes(5, 1, "b"), ends(6, 2, "c")}, []string{"a"}, 1},
		{"a newer record of two sectors", [][]byte{ends(5, 0, "a"), goes(6, 1, "b"), ends(6, 2, "c"), ends(7, 3, "d")}, []string{"a", "bc", "d"}, 4},
		{"noughts between", [][]byte{ends(5, 0, "a"), filled(nil), ends(5, 2, "c")}, []string{"a"}, 1},
		{"noughts within a record", [][]byte{ends(5, 0, "a"), goes(5, 1, "b"), filled(nil), ends(5, 3, "c")}, []string{"a"}, 1},
		{"noughts first", [][]byte{filled(nil), ends(5, 1, "b")}, nil, 0},
	}
	for _, c := range tests {
		t.Run(c.what, func(t *testing.T) {
			sectors := append([][]byte{headOf(9, 4)}, c.sectors...)
			for len(sectors) < 5 {
				sectors = append(sectors, filled(nil))
			}
			d := loaded(t, sectors...)
			l := opened(t, d, 0, 5)
			tells(t, l, c.records, len(c.records), 4-c.used, 10)
			sectors[0] = headOf(10, 4)
			hasBytes(t, "Dump", d.Dump(), slices.Concat(sectors...))
			if l.Free() > 0 {
				appends(t, l, "new")
				sectors[1+c.used] = ends(10, uint32(c.used), "new")
				hasBytes(t, "Dump behind Append", d.Dump(), slices.Concat(sectors...))
			}
		})
	}
}

// Words: a log ends where it ends; a sector behind it does not count.
func TestSectorsBehindTheLogDoNotCount(t *testing.T) {
	d := loaded(t, headOf(2, 1), ends(1, 0, "a"), ends(1, 1, "b"), ends(1, 2, "c"))
	tells(t, opened(t, d, 0, 3), []string{"a", "b"}, 2, 0, 3)
	d = loaded(t, headOf(2, 1), goes(1, 0, "a"), goes(1, 1, "b"), ends(1, 2, "c"))
	tells(t, opened(t, d, 0, 3), nil, 0, 2, 3)
	tells(t, opened(t, d, 0, 4), []string{"abc"}, 1, 0, 4)
}

// Words: where a sector says that a record ends it does, however many bytes it has.
func TestRecordOfManySectors(t *testing.T) {
	sectors := [][]byte{headOf(2, 1)}
	all := ""
	for n := range uint32(20) {
		sectors = append(sectors, goes(1, n, text(most)))
		all += text(most)
	}
	sectors = append(sectors, ends(1, 20, "z"))
	d := loaded(t, sectors...)
	tells(t, opened(t, d, 0, 22), []string{all + "z"}, 1, 0, 3)
}

// calls are those that answer an Errno.
var calls = map[string]func(l *wal.Log) api.Errno{
	"Append":              func(l *wal.Log) api.Errno { return l.Append("b") },
	"Append of nothing":   func(l *wal.Log) api.Errno { return l.Append("") },
	"Append of too many":  func(l *wal.Log) api.Errno { return l.Append(text(api.MaxRecord + 1)) },
	"Append without room": func(l *wal.Log) api.Errno { return l.Append(text(api.MaxRecord)) },
	"Flush":               (*wal.Log).Flush,
	"Reset":               (*wal.Log).Reset,
}

// ofNoUse holds what a log tells against the section Errors, once the power went from it: nothing more is stored.
func ofNoUse(t *testing.T, d *disk.Disk, l *wal.Log, records []string, sure, free int) {
	t.Helper()
	dump, moves := d.Dump(), d.Moves()
	for range 2 {
		for what, call := range calls {
			is(t, what, call(l), api.ErrPower)
		}
		tells(t, l, records, sure, free, 2)
	}
	is(t, "Moves", d.Moves(), moves)
	hasBytes(t, "Dump", d.Dump(), dump)
}

// Errors, 4.2: the power goes at each move of Append, of Flush and of Reset; the log is of no use with the power back, too.
func TestLogLosesThePower(t *testing.T) {
	three := func(l *wal.Log) api.Errno { return l.Append(text(500)) }
	tests := []struct {
		what string
		n    int
		call func(l *wal.Log) api.Errno
	}{
		{"Append of one sector", 0, calls["Append"]},
		{"Append of nothing", 0, calls["Append of nothing"]},
		{"Append of three, at the first", 0, three},
		{"Append of three, at the second", 1, three},
		{"Append of three, at the third", 2, three},
		{"Flush", 0, calls["Flush"]},
		{"Reset, at the store", 0, calls["Reset"]},
		{"Reset, at the barrier", 1, calls["Reset"]},
	}
	for _, c := range tests {
		for _, back := range []bool{false, true} {
			t.Run(c.what, func(t *testing.T) {
				d, l := fresh(t, 7)
				appends(t, l, "a")
				is(t, "Flush", l.Flush(), api.OK)
				appends(t, l, text(300))
				moves := d.Moves()
				d.Trip(c.n)
				is(t, "the call", c.call(l), api.ErrPower)
				is(t, "Moves", d.Moves(), moves+c.n)
				if back {
					d.Crash()
				}
				ofNoUse(t, d, l, []string{"a", text(300)}, 1, 3)
			})
		}
	}
}

// Errors: the power is gone when another one's move found it so, too.
func TestPowerThatIsGone(t *testing.T) {
	for _, what := range []string{"Append", "Flush", "Reset"} {
		d, l := fresh(t, 4)
		appends(t, l, "a")
		d.Trip(0)
		is(t, "Barrier", d.Barrier(), api.ErrPower)
		tells(t, l, []string{"a"}, 0, 2, 2)
		is(t, what, calls[what](l), api.ErrPower)
		d.Crash()
		ofNoUse(t, d, l, []string{"a"}, 0, 2)
	}
}

// 4.2, P2: a call that stores nothing can't lose the power.
func TestRefusalsAreNoMoves(t *testing.T) {
	d, l := fresh(t, 2)
	d.Trip(2)
	is(t, "Append of too many", l.Append(text(api.MaxRecord+1)), api.ErrLong)
	is(t, "Append without room", l.Append(text(most+1)), api.ErrFull)
	appends(t, l, "a")
	is(t, "Append without room", l.Append(""), api.ErrFull)
	is(t, "Append of too many", l.Append(text(api.MaxRecord+1)), api.ErrLong)
	is(t, "Flush", l.Flush(), api.OK)
	is(t, "Flush at the trip", l.Flush(), api.ErrPower)
}

// Rule 2.
func TestLogThatNoCallMade(t *testing.T) {
	for _, l := range []*wal.Log{nil, {}} {
		for range 2 {
			for what, call := range calls {
				is(t, what, call(l), api.ErrNil)
			}
			is(t, "Records", len(l.Records()), 0)
			is(t, "Sure", l.Sure(), 0)
			is(t, "Free", l.Free(), 0)
			is(t, "Epoch", l.Epoch(), 0)
		}
	}
}

// Rule 4.
func TestNothingIsShared(t *testing.T) {
	d, l := fresh(t, 9)
	appends(t, l, "a", "b")
	first := l.Records()
	first[0] = "spoilt"
	_ = append(first[:1], "spoilt")
	hasTexts(t, "Records", l.Records(), []string{"a", "b"})
	second := l.Records()
	_ = append(second, "spoilt")
	appends(t, l, "c")
	hasTexts(t, "Records", l.Records(), []string{"a", "b", "c"})
	hasTexts(t, "Records of before", second, []string{"a", "b"})
	is(t, "Reset", l.Reset(), api.OK)
	appends(t, l, "d")
	hasTexts(t, "Records of before", second, []string{"a", "b"})
	l = opened(t, d, 0, 9)
	third := l.Records()
	third[0] = "spoilt"
	hasTexts(t, "Records", l.Records(), []string{"d"})
}

// 4.1: a log at another place of the disk, with bytes that a number's sign could be lost in.
func TestBytesOfAllKinds(t *testing.T) {
	all := make([]byte, 256)
	for i := range all {
		all[i] = byte(i)
	}
	records := []string{string(all), strings.Repeat("\x00", most), strings.Repeat("\xff", 2*most), "\x00", "\xff\xfe", "é"}
	d, e := disk.Make(20)
	is(t, "Make", e, api.OK)
	is(t, "Format", wal.Format(d, 8, 12), api.OK)
	l := opened(t, d, 8, 12)
	appends(t, l, records...)
	tells(t, l, records, 0, 3, 2)
	is(t, "Flush", l.Flush(), api.OK)
	d.Crash()
	tells(t, opened(t, d, 8, 12), records, 6, 3, 3)
}
