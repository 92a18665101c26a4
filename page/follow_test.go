package page_test

import (
	"bytes"
	"fmt"
	"maps"
	"math/rand"
	"slices"
	"strings"
	"testing"

	"larch/api"
	"larch/disk"
	"larch/page"
)

// state is what a store has by the chapter's words.
type state struct {
	content  map[int][]byte
	notes    string
	sequence int
}

// told is a store, the disk that it lies on, and what it must be: what was committed last, and what was written since.
type told struct {
	t     *testing.T
	what  string
	d     *disk.Disk
	s     *page.Store
	at    int
	size  int
	last  state
	dirty map[int][]byte
}

// begin answers a store just formatted, amid a disk.
func begin(t *testing.T, what string, size int) *told {
	t.Helper()
	w := &told{t: t, what: what, d: marked(t, size+3), at: 2, size: size, dirty: map[int][]byte{}}
	w.is("Format", page.Format(w.d, w.at, size), api.OK)
	w.open()
	return w
}

func (w *told) is(what string, got, want any) {
	w.t.Helper()
	is(w.t, w.what+": "+what, got, want)
}

// sectors answers the store's part of a dump.
func (w *told) sectors(dump []byte) []byte {
	return dump[w.at*api.Sector : (w.at+w.size)*api.Sector]
}

func (w *told) write(p int, b []byte) {
	w.t.Helper()
	w.is("Write", w.s.Write(p, b), api.OK)
	w.dirty[p] = b
}

func (w *told) drop() {
	w.s.Drop()
	clear(w.dirty)
}

func (w *told) open() {
	w.t.Helper()
	s, e := page.Open(w.d, w.at, w.size)
	if e != api.OK {
		w.t.Fatalf("%s: Open: %v", w.what, e)
	}
	w.s = s
	clear(w.dirty)
}

// next answers the state behind a commit of all that was written.
func (w *told) next(notes string) state {
	n := state{content: maps.Clone(w.last.content), notes: notes, sequence: w.last.sequence + 1}
	if n.content == nil {
		n.content = map[int][]byte{}
	}
	for p, b := range w.dirty {
		n.content[p] = b
		if bytes.Equal(b, of(0)) {
			delete(n.content, p)
		}
	}
	return n
}

// same holds all that the store tells against what it must be.
func (w *told) same() {
	w.t.Helper()
	f, ok := plainRead(w.sectors(w.d.Dump()))
	if !ok {
		w.t.Fatalf("%s: there is no store", w.what)
	}
	now := w.next("").content
	reads(w.t, w.s, now, append(sortedKeys(w.last.content), somePages...)...)
	tells(w.t, w.s, w.last.notes, sortedKeys(w.dirty), w.size-2-len(f.led), w.last.sequence)
	if w.t.Failed() {
		w.t.Fatalf("%s: that was there", w.what)
	}
}

// commit does a commit, with the power going behind so many moves (below 0: never), and holds what was stored against
// the chapter's words. It answers whether the power is on still, and what is there if a crash keeps all.
func (w *told) commit(notes string, trip int) (bool, state) {
	w.t.Helper()
	dump, before := w.d.Dump(), w.d.Moves()
	moves, room := plainCommit(w.sectors(dump), w.dirty, notes)
	w.d.Trip(trip)
	n, e := w.s.Commit(notes)
	next := w.next(notes)
	done := len(moves)
	switch {
	case !room:
		w.is("Commit without room", e, api.ErrFull)
		w.is("its number", n, 0)
		done, next = 0, w.last
	case trip >= 0 && trip < len(moves):
		w.is("Commit that is cut", e, api.ErrPower)
		w.is("its number", n, 0)
		done = trip
	default:
		w.is("Commit", e, api.OK)
		w.is("its number", n, stores(moves))
		w.last = next
		few(w.t, w.dirty, n)
		clear(w.dirty)
	}
	w.is("Moves", w.d.Moves(), before+done)
	hasBytes(w.t, w.what+": Dump", w.d.Dump(), behind(dump, w.at, moves[:done]))
	w.is("Cached", len(w.d.Cached()), waiting(moves[:done]))
	if w.t.Failed() {
		w.t.Fatalf("%s: that was stored", w.what)
	}
	return e != api.ErrPower, next
}

// few is 5.5.
func few(t *testing.T, dirty map[int][]byte, stored int) {
	t.Helper()
	touched := map[int]bool{}
	for p := range dirty {
		touched[p/128] = true
	}
	if stored < 1 || stored > len(dirty)+len(touched)+2 {
		t.Errorf("a commit of %d pages in %d tables stored %d sectors", len(dirty), len(touched), stored)
	}
}

// crash crashes the disk, and opens the store again: it is as it was, or as next says, and then it stored the root.
func (w *told) crash(next state, kept ...int) {
	w.t.Helper()
	w.d.Crash(kept...)
	w.open()
	if w.s.Sequence() == next.sequence {
		w.last = next
	}
	w.same()
}

// ofNoUse holds what a store answers against the section Errors, once the power went in a commit; P2: it tells what it
// told. Nothing is stored any more, even when the power is there again.
func (w *told) ofNoUse(on bool) {
	w.t.Helper()
	dump, moves, free := w.d.Dump(), w.d.Moves(), w.s.Free()
	for range 2 {
		refuses(w.t, w.s, "again", api.ErrPower)
		refuses(w.t, w.s, "", api.ErrPower)
		refuses(w.t, w.s, notesOf(most+1), api.ErrArg)
		tells(w.t, w.s, w.last.notes, sortedKeys(w.dirty), free, w.last.sequence)
	}
	for p := range w.last.content {
		b, e := w.s.Read(p)
		switch want, written := w.dirty[p]; {
		case written:
			hasBytes(w.t, "Read of what was written", b, want)
		case on:
			w.is("Read with the power on again", e, api.OK)
			hasBytes(w.t, "its bytes", b, w.last.content[p])
		default:
			w.is("Read with the power gone", e, api.ErrPower)
			w.is("its bytes", len(b), 0)
		}
	}
	// Write, Drop and the others store nothing.
	w.write(77, of(7))
	b, e := w.s.Read(77)
	w.is("Read of what was written", e, api.OK)
	hasBytes(w.t, "its bytes", b, of(7))
	// ErrFull is named ahead of ErrPower.
	for p := range w.size {
		w.write(p, of(8))
	}
	refuses(w.t, w.s, "", api.ErrFull)
	refuses(w.t, w.s, notesOf(most+1), api.ErrArg)
	w.drop()
	tells(w.t, w.s, w.last.notes, nil, free, w.last.sequence)
	refuses(w.t, w.s, "", api.ErrPower)
	hasBytes(w.t, "Dump", w.d.Dump(), dump)
	w.is("Moves", w.d.Moves(), moves)
}

// beginnings answer stores, some of whose pages were committed, and others written.
func beginnings() map[string]func(w *told) {
	commit := func(w *told, pages ...int) {
		for _, p := range pages {
			w.write(p, pageOf(p))
		}
		w.commit("of the past", -1)
	}
	return map[string]func(w *told){
		"nothing":                 func(w *told) {},
		"a first page":            func(w *told) { w.write(0, of(1)) },
		"two pages of one table":  func(w *told) { w.write(1, of(1)); w.write(127, of(2)) },
		"two pages of two tables": func(w *told) { w.write(4095, of(1)); w.write(127, of(2)) },
		"nothing over two pages":  func(w *told) { commit(w, 3, 300) },
		"a page anew":             func(w *told) { commit(w, 3, 300); w.write(3, of(1)) },
		"a page and noughts":      func(w *told) { commit(w, 3, 300); w.write(3, of(1)); w.write(300, of(0)) },
		"all noughts":             func(w *told) { commit(w, 3, 300); w.write(3, of(0)); w.write(300, of(0)) },
		"over two commits":        func(w *told) { commit(w, 3, 300); commit(w, 4); w.write(3, of(1)); w.write(5, of(2)) },
		"over three commits": func(w *told) {
			commit(w, 3, 300)
			commit(w, 3)
			commit(w, 300)
			w.write(300, of(1))
			w.write(3, of(2))
		},
	}
}

// 5.4, 5.3, Errors: the power goes at each move of a commit, and crashes keep all choices of the sectors that wait.
func TestAllOrNone(t *testing.T) {
	for what, ready := range beginnings() {
		long := func() (*told, int) {
			w := begin(t, what, 14)
			ready(w)
			moves, _ := plainCommit(w.sectors(w.d.Dump()), w.dirty, "new")
			return w, len(moves)
		}
		_, all := long()
		for trip := range all + 1 {
			for choice := range 1 << min(all, 7) {
				w, _ := long()
				w.what = fmt.Sprintf("%s, cut at %d of %d, keeping %b", what, trip, all, choice)
				on, next := w.commit("new", trip)
				w.is("the power", on, trip == all)
				if choice >= 1<<len(w.d.Cached()) {
					break
				}
				if choice == 0 && !on {
					dirty := maps.Clone(w.dirty)
					w.ofNoUse(false)
					w.dirty = dirty
				}
				old := w.last
				var kept []int
				for i := range w.d.Cached() {
					kept = append(kept, choice>>i&1)
				}
				w.crash(next, kept...)
				// The root is the last that is stored: where it was kept, or the commit was answered OK, all is there.
				w.is("the sequence", w.last.sequence == next.sequence, on || trip == all-1 && choice == 1)
				w.is("or that of the last commit", w.last.sequence == next.sequence || w.last.sequence == old.sequence, true)
				w.write(9, of(9))
				if on, _ := w.commit("goes on", -1); !on {
					t.Errorf("%s: the power is gone", w.what)
				}
				w.same()
			}
		}
	}
}

// Errors, 5.4: a store whose commit was cut stores nothing behind the crash, either: what it knows may not be so.
func TestCutStoreIsOfNoUse(t *testing.T) {
	for what, ready := range beginnings() {
		for trip := range 3 {
			for kept := range 2 {
				w := begin(t, fmt.Sprintf("%s, cut at %d", what, trip), 14)
				ready(w)
				if on, _ := w.commit("new", trip); on {
					t.Fatalf("%s: the power is on", w.what)
				}
				w.d.Crash(kept, kept, kept)
				w.ofNoUse(true)
				// Opened anew it is as good as any.
				w.open()
				if f, ok := plainRead(w.sectors(w.d.Dump())); !ok || f.sequence != w.s.Sequence() {
					t.Errorf("%s: a store of sequence %d, want %d", w.what, w.s.Sequence(), f.sequence)
				}
				_, e := w.s.Commit("")
				w.is("Commit", e, api.OK)
			}
		}
	}
}

// Errors: a Read that tells that the power went; nothing is stored from then on.
func TestReadLosesThePower(t *testing.T) {
	d, s := fresh(t, 10)
	writes(t, s, 0, 1)
	commits(t, s, "", 5)
	writes(t, s, 1)
	cutPower(t, d)
	dump := d.Dump()
	for range 2 {
		b, e := s.Read(0)
		is(t, "Read", e, api.ErrPower)
		is(t, "its bytes", len(b), 0)
		// What lies on no disk needs no power.
		reads(t, s, map[int][]byte{1: pageOf(1)}, 2, 4095)
	}
	d.Crash()
	reads(t, s, map[int][]byte{0: pageOf(0), 1: pageOf(1)}, 2, 4095)
	refuses(t, s, "", api.ErrPower)
	hasBytes(t, "Dump", d.Dump(), dump)
	commits(t, opened(t, d, 0, 10), "", 2)
}

// 5.4: of several values that wait in a sector just one is kept; a commit that was cut twice.
func TestCutTwice(t *testing.T) {
	for what, ready := range beginnings() {
		for first := range 8 {
			for second := range 8 {
				w := begin(t, fmt.Sprintf("%s, cut at %d and at %d", what, first, second), 14)
				ready(w)
				dirty := maps.Clone(w.dirty)
				_, next := w.commit("first", first)
				w.crash(next, 1, 1, 1, 1, 0, 1)
				for p := range dirty {
					w.write(p, pageOf(p+1))
				}
				_, next = w.commit("second", second)
				w.crash(next, 0, 1, 1, 0, 1)
				on, _ := w.commit("third", -1)
				w.is("the power", on, true)
				w.same()
			}
		}
	}
}

// 5.6: a store that was full can be opened, and has all that was committed.
func TestFullStore(t *testing.T) {
	for size := 8; size < 30; size++ {
		w := begin(t, fmt.Sprintf("of %d sectors", size), size)
		for p := range size - 4 {
			w.write(p, pageOf(p))
		}
		w.commit("full", -1)
		w.is("Free", w.s.Free(), 0)
		for range 3 {
			w.crash(w.last)
			w.is("Free of the store opened again", w.s.Free(), 0)
			// There is no room for a top, so nothing can be committed but what needs none.
			w.commit("no room", -1)
			w.write(0, of(1))
			w.commit("no room", -1)
			w.same()
			w.drop()
		}
		for p := range size - 4 {
			w.write(p, of(0))
		}
		w.commit("empty", -1)
		w.is("Free", w.s.Free(), size-2)
		w.same()
	}
}

// 5.3, 5.6: commits till one is refused; it may be done then in parts.
func TestFillsUp(t *testing.T) {
	for size := 8; size < 20; size++ {
		w := begin(t, fmt.Sprintf("of %d sectors", size), size)
		for p := 0; ; p += 50 {
			w.write(p, pageOf(p))
			before := w.last.sequence
			w.commit("p", -1)
			if w.last.sequence == before {
				break
			}
		}
		w.is("there is a page", len(w.last.content) > 0, true)
		w.is("one is dirty", len(w.dirty), 1)
		w.same()
		w.crash(w.last)
	}
}

// 5.1 to 5.6 over long lives: all that can be done, with the power going anywhere, against the chapter's words.
func TestLongLives(t *testing.T) {
	full, cut := 0, 0
	for seed := range int64(300) {
		g := rand.New(rand.NewSource(seed))
		w := begin(t, fmt.Sprintf("seed %d", seed), 8+g.Intn(20))
		for range 60 {
			switch g.Intn(8) {
			case 0, 1, 2, 3:
				w.write(anyPage(g), anyBytes(g))
			case 4:
				if g.Intn(4) == 0 {
					w.drop()
				}
			case 5:
				if g.Intn(4) == 0 {
					w.crash(w.last)
				}
			default:
				before := w.last.sequence
				on, next := w.commit(notesOf(g.Intn(most+1)), g.Intn(40)-20)
				w.d.Trip(-1)
				if !on {
					cut++
					w.crash(next, anyNumbers(g, w.size)...)
				} else if w.last.sequence == before {
					full++
					if g.Intn(2) == 0 {
						w.drop()
					}
				}
			}
			w.same()
		}
	}
	is(t, "some were full, and some cut", full > 100 && cut > 100, true)
}

func anyPage(g *rand.Rand) int {
	if g.Intn(3) == 0 {
		return somePages[g.Intn(len(somePages))]
	}
	return g.Intn(300)
}

func anyBytes(g *rand.Rand) []byte {
	if g.Intn(3) == 0 {
		return of(0)
	}
	return pageOf(g.Intn(1 << 16))
}

func anyNumbers(g *rand.Rand, n int) []int {
	l := make([]int, n)
	for i := range l {
		l[i] = g.Intn(2)
	}
	return l
}

// 5.1, Words: disks of all kinds, among them such whose roots lead anywhere, against the chapter's words.
func TestDisksOfAllKinds(t *testing.T) {
	right := 0
	for seed := range int64(6000) {
		g := rand.New(rand.NewSource(seed))
		size := 8 + g.Intn(4)
		numbers := g.Perm(size)
		anyNumber := func() int {
			if g.Intn(20) == 0 {
				return g.Intn(size + 2)
			}
			n := numbers[0]
			numbers = append(numbers[1:], n)
			return max(n, 2*g.Intn(2))
		}
		sectors := [][]byte{
			rootOf(uint32(2*g.Intn(4)), anyNumber(), size, "first"),
			rootOf(uint32(2*g.Intn(4)+1), anyNumber(), size, "next"),
		}
		for range size - 2 {
			l := map[int]int{}
			for range g.Intn(3) {
				l[[]int{0, 1, 31, 32, 127}[min(g.Intn(30), 4)%5]] = anyNumber()
			}
			sectors = append(sectors, tableOf(l))
		}
		for range g.Intn(3) {
			b := sectors[g.Intn(2)]
			if g.Intn(4) == 0 {
				b[g.Intn(api.Sector)] ^= 1
			}
		}
		b := slices.Concat(sectors...)
		f, ok := plainRead(b)
		s, e := page.Open(loaded(t, b), 0, size)
		if !ok {
			if s != nil || e != api.ErrPage {
				t.Errorf("seed %d: Open: %v, want ErrPage", seed, e)
			}
			continue
		}
		if e != api.OK {
			t.Errorf("seed %d: Open: %v, want a store", seed, e)
			continue
		}
		right++
		tells(t, s, strings.TrimRight(f.notes, "\x00"), nil, size-2-len(f.led), f.sequence)
		reads(t, s, f.content, somePages...)
	}
	is(t, "there are right ones, and others", right > 500 && right < 5500, true)
}

// P2: calls that are refused are as if they had not been.
func TestRefusedCallsChangeNothing(t *testing.T) {
	d, s := fresh(t, 10)
	e, u := fresh(t, 10)
	for i := range 12 {
		p := i % 3
		is(t, "Write", s.Write(p, pageOf(i)), u.Write(p, pageOf(i)))
		s.Write(-1, pageOf(i))
		s.Write(p, pageOf(i)[:9])
		s.Read(4096)
		s.Commit(notesOf(most + 1))
		n, x := s.Commit("now")
		m, y := u.Commit("now")
		is(t, "Commit", n, m)
		is(t, "Commit", x, y)
		hasBytes(t, "Dump", d.Dump(), e.Dump())
		is(t, "Moves", d.Moves(), e.Moves())
		is(t, "Free", s.Free(), u.Free())
	}
}
