package wal_test

import (
	"encoding/binary"
	"fmt"
	"hash/crc32"
	"math/rand"
	"slices"
	"testing"

	"larch/api"
	"larch/disk"
	"larch/wal"
)

// told is what a log must be by the chapter's words: the records that were appended, how many of them are sure, and
// all that were there once and are gone.
type told struct {
	t       *testing.T
	what    string
	d       *disk.Disk
	l       *wal.Log
	size    int
	records []string
	sure    int
	gone    map[string]bool
	// In a Reset that was cut all records may be away, or none.
	cut  bool
	next int
}

func begin(t *testing.T, what string, size int) *told {
	t.Helper()
	d, l := fresh(t, size)
	return &told{t: t, what: what, d: d, l: l, size: size, gone: map[string]bool{}}
}

// data answers n bytes that no other record has.
func (w *told) data(n int) string {
	w.next++
	return fmt.Sprintf("%04d%s", w.next, text(n))
}

func (w *told) sectors() int {
	n := 0
	for _, r := range w.records {
		n += (len(r) + most - 1) / most
	}
	return n
}

func (w *told) is(what string, got, want any) {
	w.t.Helper()
	is(w.t, w.what+": "+what, got, want)
}

// do does one thing: 'a' a record of one sector, 'b' of two, 'c' of three, 'f' a flush, 'r' a reset, 'o' another Open
// without a crash. It answers whether the power is on still.
func (w *told) do(what byte) bool {
	var e api.Errno
	switch what {
	case 'a', 'b', 'c':
		e = w.append(w.data(int(what-'a') * most))
	case 'f':
		e = w.l.Flush()
		if e == api.OK {
			w.sure = len(w.records)
		}
	case 'r':
		e = w.l.Reset()
		w.cut = e != api.OK
		if e == api.OK {
			w.lose(0)
		}
	case 'o':
		e = w.reopen()
	}
	switch e {
	case api.OK:
		w.same()
	case api.ErrPower:
	default:
		w.t.Fatalf("%s: %c: %v", w.what, what, e)
	}
	return e == api.OK
}

func (w *told) append(r string) api.Errno {
	full := w.sectors()+(len(r)+most-1)/most > w.size-1
	e := w.l.Append(r)
	if full {
		w.is("Append without room", e, api.ErrFull)
		return api.OK
	}
	if e == api.OK {
		w.records = append(w.records, r)
	} else {
		w.gone[r] = true
	}
	return e
}

// reopen opens the log without a crash: all is there.
func (w *told) reopen() api.Errno {
	l, e := wal.Open(w.d, 0, w.size)
	if e == api.OK {
		w.l, w.sure = l, len(w.records)
	}
	return e
}

// lose takes all records away but the first n.
func (w *told) lose(n int) {
	for _, r := range w.records[n:] {
		w.gone[r] = true
	}
	w.records, w.sure = slices.Clip(w.records[:n]), n
}

func (w *told) same() {
	w.t.Helper()
	hasTexts(w.t, w.what, w.l.Records(), w.records)
	w.is("Sure", w.l.Sure(), w.sure)
	w.is("Free", w.l.Free(), w.size-1-w.sectors())
}

// crash lets the power go and come back, and holds the log that is opened then against the promises.
func (w *told) crash(kept ...int) {
	w.t.Helper()
	w.d.Crash(kept...)
	l, e := wal.Open(w.d, 0, w.size)
	w.is("Open behind a crash", e, api.OK)
	if e != api.OK {
		w.t.FailNow()
	}
	got := l.Records()
	n := len(got)
	for _, r := range got {
		if w.gone[r] {
			w.t.Errorf("%s: %.8q came again", w.what, r)
		}
	}
	if n > len(w.records) || !slices.Equal(got, w.records[:n]) {
		w.t.Fatalf("%s: %.8q is no beginning of %.8q", w.what, got, w.records)
	}
	if n < w.sure && !(w.cut && n == 0) {
		w.t.Errorf("%s: %d records, of which %d were sure", w.what, n, w.sure)
	}
	w.lose(n)
	w.l, w.cut = l, false
	w.same()
}

// bits answers the numbers that keep of each sector's cache one value, or none, as n's bits tell.
func bits(n, sectors int) []int {
	l := make([]int, sectors)
	for i := range l {
		l[i] = n >> i & 1
	}
	return l
}

// run does things till the power goes at a trip, or all are done; it answers whether the power went.
func (w *told) run(things string, trip int) bool {
	w.d.Trip(trip)
	for _, x := range []byte(things) {
		if !w.do(x) {
			return true
		}
	}
	return false
}

// life is things that are done, where the power goes in them, and what the crash then keeps.
type life struct {
	things string
	trip   int
	kept   []int
}

func (w *told) live(x life) {
	w.t.Helper()
	w.what += fmt.Sprintf("; %s, trip %d, kept %v", x.things, x.trip, x.kept)
	w.run(x.things, x.trip)
	w.crash(x.kept...)
}

// lives answers a life for each place where the power can go in things, and for whatever a crash can keep then.
func lives(things string, start func() *told) []life {
	var l []life
	for trip := 0; ; trip++ {
		w := start()
		went := w.run(things, trip)
		waiting := len(w.d.Cached())
		for n := range 1 << waiting {
			l = append(l, life{things, trip, bits(n, waiting)})
		}
		if !went {
			return l
		}
	}
}

// 4.4, 4.5, 4.6: the power goes everywhere in a log's life, and a crash keeps whatever it can.
func TestWhateverACrashKeeps(t *testing.T) {
	start := func() *told { return begin(t, "size 9", 9) }
	for _, things := range []string{"aaaa", "aafaa", "bafba", "abcfab", "cfc", "afafar", "aafbr", "baraa", "aforafb", "cbfrcb", "rrar", "abobc"} {
		for _, x := range lives(things, start) {
			start().live(x)
		}
	}
}

// 4.4, 4.6: what is left over of a log is there when it goes on, and when the power goes once more.
func TestCrashBehindACrash(t *testing.T) {
	for _, pair := range [][2]string{{"aaa", "aaa"}, {"afbb", "aba"}, {"cb", "bc"}, {"ba", "faa"}, {"aafr", "ba"}, {"ara", "afa"}} {
		start := func() *told { return begin(t, "size 8", 8) }
		for _, first := range lives(pair[0], start) {
			again := func() *told {
				w := start()
				w.live(first)
				return w
			}
			for _, second := range lives(pair[1], again) {
				w := again()
				w.live(second)
				n := len(w.records)
				w.crash()
				w.is("records behind a log that did nothing", len(w.records), n)
			}
		}
	}
}

// 4.4: the power goes in Open, too, as often as it likes.
func TestPowerGoesInOpen(t *testing.T) {
	for n := range 2 {
		for kept := range 2 {
			w := begin(t, fmt.Sprintf("Open cut at %d, kept %d", n, kept), 6)
			w.run("afba", -1)
			w.d.Crash(1, 0, 1)
			w.lose(1)
			for range 5 {
				w.d.Trip(n)
				_, e := wal.Open(w.d, 0, 6)
				w.is("Open", e, api.ErrPower)
				w.d.Crash(kept)
			}
			w.crash()
			w.is("records", len(w.records), 1)
			w.run("ab", -1)
			w.crash(0, 1, 1)
			w.is("records", len(w.records), 1)
		}
	}
}

// 4.5.
func TestResetThatIsCut(t *testing.T) {
	for _, c := range []struct{ trip, kept, records int }{{0, 0, 2}, {0, 1, 2}, {1, 0, 2}, {1, 1, 0}, {2, 0, 0}} {
		d, l := fresh(t, 5)
		appends(t, l, "a", "b")
		is(t, "Flush", l.Flush(), api.OK)
		d.Trip(c.trip)
		e := l.Reset()
		is(t, "Reset is done", e == api.OK, c.trip == 2)
		d.Crash(c.kept)
		l = opened(t, d, 0, 5)
		is(t, "how many records", len(l.Records()), c.records)
		is(t, "how many are sure", l.Sure(), c.records)
		is(t, "Free", l.Free(), 4-c.records)
	}
}

// 4.6: a record behind one that was lost does not come again when that one's place is filled.
func TestWhatIsLostStaysLost(t *testing.T) {
	d, l := fresh(t, 6)
	appends(t, l, "a", "b", "c")
	d.Crash(0, 1, 1)
	l = opened(t, d, 0, 6)
	tells(t, l, nil, 0, 5, 3)
	appends(t, l, "d")
	is(t, "Flush", l.Flush(), api.OK)
	d.Crash()
	tells(t, opened(t, d, 0, 6), []string{"d"}, 1, 4, 4)
}

// 4.6: half of a record that was lost does not come again as a piece of another one.
func TestHalvesStayLost(t *testing.T) {
	lost, next := text(most)+"end", text(most)+"other"
	for kept := range 4 {
		for then := range 4 {
			d, l := fresh(t, 6)
			appends(t, l, lost)
			d.Crash(bits(kept, 2)...)
			l = opened(t, d, 0, 6)
			want := []string{lost}[:len(l.Records())]
			is(t, "the first is there", len(want) == 1, kept == 3)
			appends(t, l, next)
			d.Crash(bits(then, 2)...)
			if then == 3 {
				want = append(want, next)
			}
			l = opened(t, d, 0, 6)
			hasTexts(t, "Records", l.Records(), want)
		}
	}
}

// 4.5, 4.6: records of before a Reset never come again.
func TestResetIsForGood(t *testing.T) {
	d, l := fresh(t, 6)
	appends(t, l, "a", "b", "c")
	is(t, "Flush", l.Flush(), api.OK)
	is(t, "Reset", l.Reset(), api.OK)
	for range 3 {
		d.Crash()
		l = opened(t, d, 0, 6)
		hasTexts(t, "Records", l.Records(), nil)
	}
	appends(t, l, "d")
	d.Crash(1)
	l = opened(t, d, 0, 6)
	hasTexts(t, "Records", l.Records(), []string{"d"})
	appends(t, l, "e")
	d.Crash()
	tells(t, opened(t, d, 0, 6), []string{"d"}, 1, 4, l.Epoch()+1)
}

// P2: an Append of too many bytes, or for which there is no room, is as if it had not been.
func TestRefusedAppendsChangeNothing(t *testing.T) {
	d, l := fresh(t, 4)
	e, m := fresh(t, 4)
	for _, r := range []string{"a", "b", "", "c"} {
		is(t, "Append of too many", l.Append(text(api.MaxRecord+1)), api.ErrLong)
		is(t, "Append without room", l.Append(text(4*most)), api.ErrFull)
		is(t, "Append", l.Append(r), m.Append(r))
	}
	is(t, "Flush", l.Flush(), m.Flush())
	hasBytes(t, "Dump", d.Dump(), e.Dump())
	is(t, "Moves", d.Moves(), e.Moves())
}

// 4.4 to 4.6 over long lives, with the power going in all that is done, Open too.
func TestLongLives(t *testing.T) {
	for seed := range int64(400) {
		g := rand.New(rand.NewSource(seed))
		w := begin(t, fmt.Sprintf("seed %d", seed), 3+g.Intn(9))
		for range 40 {
			things := make([]byte, 1+g.Intn(8))
			for i := range things {
				things[i] = "aaaabbcffro"[g.Intn(11)]
			}
			w.run(string(things), g.Intn(14)-1)
			w.crash(numbers(g, w.size)...)
			if g.Intn(3) == 0 {
				w.cutOpen(g)
			}
		}
	}
}

// cutOpen lets the power go in an Open; the log that was there is not used again.
func (w *told) cutOpen(g *rand.Rand) {
	w.d.Trip(g.Intn(2))
	l, e := wal.Open(w.d, 0, w.size)
	w.is("Open", e, api.ErrPower)
	w.is("its log", l == nil, true)
	w.crash(numbers(g, 1)...)
}

func numbers(g *rand.Rand, n int) []int {
	l := make([]int, n)
	for i := range l {
		l[i] = g.Intn(4)
	}
	return l
}

// plainRecords reads a log's records from a disk's bytes as the chapter's words tell them, and how many sectors are
// taken; ok tells whether there is a head.
func plainRecords(b []byte) (records []string, used int, epoch uint32, ok bool) {
	from, e, ok := plainRecord(b[:api.Sector])
	if !ok || len(from) != 4 {
		return nil, 0, 0, false
	}
	last, ended, open := binary.BigEndian.Uint32(from), true, ""
	for n := 0; (n+2)*api.Sector <= len(b); n++ {
		data, epoch, ok := plainRecord(b[(n+1)*api.Sector : (n+2)*api.Sector])
		if !ok || len(data) < 5 || len(data) > 236 || binary.BigEndian.Uint32(data) != uint32(n) || data[4] > 1 {
			break
		}
		if epoch > e || epoch < binary.BigEndian.Uint32(from) || epoch < last || !ended && epoch != last {
			break
		}
		open += string(data[5:])
		last, ended = epoch, data[4] == 1
		if ended {
			records, open, used = append(records, open), "", n+1
		}
	}
	return records, used, e, true
}

func plainRecord(b []byte) ([]byte, uint32, bool) {
	n := binary.BigEndian.Uint32(b)
	if n > api.Sector-12 {
		return nil, 0, false
	}
	end := 8 + n
	if crc32.Checksum(b[:end], crc32.MakeTable(crc32.Castagnoli)) != binary.BigEndian.Uint32(b[end:]) {
		return nil, 0, false
	}
	for _, x := range b[end+4:] {
		if x != 0 {
			return nil, 0, false
		}
	}
	return b[8:end], binary.BigEndian.Uint32(b[4:]), true
}

// Words: sectors of all kinds one behind the other, against the chapter's words.
func TestSectorsOfAllKinds(t *testing.T) {
	heads := 0
	for seed := range int64(4000) {
		g := rand.New(rand.NewSource(seed))
		sectors := [][]byte{headOf(uint32(1+g.Intn(5)), uint32(g.Intn(6)))}
		epoch := 1 + g.Intn(3)
		for n := range 2 + g.Intn(6) {
			if g.Intn(4) == 0 {
				epoch += g.Intn(4) - 1
			}
			number := n
			if g.Intn(20) == 0 {
				number = g.Intn(4)
			}
			data := string(rune('a' + n))
			s := ends(uint32(max(epoch, 0)), uint32(number), data)
			if g.Intn(3) == 0 {
				s = goes(uint32(max(epoch, 0)), uint32(number), data)
			}
			if g.Intn(20) == 0 {
				s[g.Intn(api.Sector)] ^= byte(1 << g.Intn(8))
			}
			sectors = append(sectors, s)
		}
		if g.Intn(20) == 0 {
			sectors[0][g.Intn(api.Sector)] ^= byte(1 << g.Intn(8))
		}
		d := loaded(t, sectors...)
		records, used, now, ok := plainRecords(d.Dump())
		l, e := wal.Open(d, 0, len(sectors))
		if !ok {
			is(t, "Open", e, api.ErrWal)
			continue
		}
		heads++
		is(t, "Open", e, api.OK)
		tells(t, l, records, len(records), len(sectors)-1-used, int(now)+1)
	}
	is(t, "there are heads", heads > 1000, true)
}
