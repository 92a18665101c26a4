package disk_test

import (
	"fmt"
	"math"
	"math/big"
	"slices"
	"testing"

	"larch/api"
	"larch/disk"
)

// plain is a disk of two sectors as the chapter's words tell it, with a number for each value.
type plain struct {
	sure  [2]int
	cache [2][]int
	moves int
	trip  int
	dark  bool
}

func newPlain() *plain { return &plain{trip: -1} }

func (p *plain) value(at int) int {
	if n := len(p.cache[at]); n > 0 {
		return p.cache[at][n-1]
	}
	return p.sure[at]
}

func (p *plain) move() api.Errno {
	switch {
	case p.dark:
		return api.ErrPower
	case p.trip == 0:
		p.dark = true
		return api.ErrPower
	case p.trip > 0:
		p.trip--
	}
	p.moves++
	return api.OK
}

func (p *plain) cached() []int {
	var l []int
	for at := range p.cache {
		if len(p.cache[at]) > 0 {
			l = append(l, at)
		}
	}
	return l
}

func (p *plain) crash(kept []int) {
	for i, at := range p.cached() {
		k := 0
		if i < len(kept) {
			k = kept[i]
		}
		values := append([]int{p.sure[at]}, p.cache[at]...)
		p.sure[at] = values[signless(k, len(values))]
		p.cache[at] = nil
	}
	p.dark, p.trip = false, -1
}

// signless answers k modulo n, with 2^64 added to a k below 0, by numbers that have no end.
func signless(k, n int) int {
	whole := big.NewInt(int64(k))
	if k < 0 {
		whole.Add(whole, new(big.Int).Lsh(big.NewInt(1), 64))
	}
	return int(whole.Mod(whole, big.NewInt(int64(n))).Int64())
}

// doing is a thing to do to a disk: 's' a store of n, 'b' a barrier, 't' a trip of n, 'c' a crash.
type doing struct {
	what byte
	at   int
	n    int
	kept []int
}

func (x doing) do(d *disk.Disk) api.Errno {
	switch x.what {
	case 's':
		return d.Store(x.at, number(x.n))
	case 'b':
		return d.Barrier()
	case 't':
		return d.Trip(x.n)
	}
	return d.Crash(x.kept...)
}

func (x doing) doPlain(p *plain) api.Errno {
	switch x.what {
	case 's':
		e := p.move()
		if e == api.OK {
			p.cache[x.at] = append(p.cache[x.at], x.n)
		}
		return e
	case 'b':
		e := p.move()
		if e == api.OK {
			p.sure = [2]int{p.value(0), p.value(1)}
			p.cache = [2][]int{}
		}
		return e
	case 't':
		p.trip = max(x.n, -1)
		return api.OK
	}
	p.crash(x.kept)
	return api.OK
}

// number is the value that stands for n: noughts for 0.
func number(n int) []byte {
	if n == 0 {
		return noughts(1)
	}
	return of(n)
}

func likePlain(t *testing.T, what string, d *disk.Disk, p *plain) bool {
	t.Helper()
	hasBytes(t, what+": Dump", d.Dump(), append(number(p.value(0)), number(p.value(1))...))
	hasList(t, what+": Cached", d.Cached(), p.cached())
	is(t, what+": Moves", d.Moves(), p.moves)
	for at := range 2 {
		b, e := d.Fetch(at)
		if p.dark {
			is(t, what+": Fetch", e, api.ErrPower)
			continue
		}
		is(t, what+": Fetch", e, api.OK)
		hasBytes(t, what+": Fetch", b, number(p.value(at)))
	}
	return !t.Failed()
}

// 1.1, 1.2 and 1.3: all lists of five doings come to what the words say.
func TestAllShortLists(t *testing.T) {
	doings := []doing{
		{what: 's', at: 0},
		{what: 's', at: 1},
		{what: 'b'},
		{what: 't', n: 0},
		{what: 't', n: 2},
		{what: 't', n: -3},
		{what: 'c'},
		{what: 'c', kept: []int{1}},
		{what: 'c', kept: []int{-2, -1, 3}},
	}
	const length = 5
	total := int(math.Pow(float64(len(doings)), length))
	for list := range total {
		d, p := made(t, 2), newPlain()
		told := ""
		for k, rest := 0, list; k < length; k, rest = k+1, rest/len(doings) {
			x := doings[rest%len(doings)]
			if x.what == 's' {
				x.n = k + 1
			}
			told += fmt.Sprintf(" %c%d,%d%v", x.what, x.at, x.n, x.kept)
			is(t, told, x.do(d), x.doPlain(p))
		}
		if !likePlain(t, told, d, p) {
			return
		}
	}
}

// place is where busy's store k goes: now and then twice to a sector between two barriers.
func place(k int) int { return k * 5 / 3 % 4 }

// busy does a list of moves, with values of their own, to a disk of four sectors.
func busy(d *disk.Disk, moves int) []api.Errno {
	var told []api.Errno
	for k := range moves {
		if k%7 == 6 {
			told = append(told, d.Barrier())
		} else {
			told = append(told, d.Store(place(k), of(k+1)))
		}
	}
	return told
}

// someKept answers kept numbers of all sizes and signs.
func someKept() [][]int {
	kept := [][]int{nil, {}, {math.MinInt, math.MaxInt, math.MinInt, math.MaxInt}}
	for a := -4; a <= 4; a++ {
		for b := -4; b <= 4; b++ {
			kept = append(kept, []int{a, b}, []int{a, b, b, a, a + b})
		}
	}
	return kept
}

// 1.4.
func TestCrashBehindABarrier(t *testing.T) {
	for moves := range 20 {
		for _, kept := range someKept() {
			d := made(t, 4)
			busy(d, moves)
			is(t, "Barrier", d.Barrier(), api.OK)
			dump, done := d.Dump(), d.Moves()
			is(t, "Crash", d.Crash(kept...), api.OK)
			hasBytes(t, "Dump", d.Dump(), dump)
			hasList(t, "Cached", d.Cached(), nil)
			is(t, "Moves", d.Moves(), done)
		}
	}
}

// 1.5: what is sure behind a crash is one of the values that were there, whole.
func TestWholeSectors(t *testing.T) {
	for moves := range 20 {
		var may [4][][]byte
		for k := range moves + 1 {
			for at := range may {
				e := made(t, 4)
				busy(e, k)
				b, _ := e.Fetch(at)
				if len(e.Cached()) == 0 {
					may[at] = nil
				}
				may[at] = append(may[at], b)
			}
		}
		for _, kept := range someKept() {
			d := made(t, 4)
			busy(d, moves)
			d.Crash(kept...)
			for at := range may {
				b, e := d.Fetch(at)
				is(t, "Fetch", e, api.OK)
				if !slices.ContainsFunc(may[at], func(v []byte) bool { return slices.Equal(v, b) }) {
					t.Fatalf("%d moves, Crash%v: sector %d has %x", moves, kept, at, b)
				}
			}
		}
	}
}

// 1.6.
func TestTripLeavesTheFirstMoves(t *testing.T) {
	const moves = 25
	for n := range moves + 2 {
		whole, tripped, first := made(t, 4), made(t, 4), made(t, 4)
		tripped.Trip(n)
		want, got := busy(whole, moves), busy(tripped, moves)
		for k := range moves {
			if k < n {
				is(t, "a move ahead of the trip", got[k], want[k])
			} else {
				is(t, "a move behind the trip", got[k], api.ErrPower)
			}
		}
		busy(first, min(n, moves))
		is(t, "Moves", tripped.Moves(), first.Moves())
		hasBytes(t, "Dump", tripped.Dump(), first.Dump())
		hasList(t, "Cached", tripped.Cached(), first.Cached())
		tripped.Crash(1, 2, 3)
		first.Crash(1, 2, 3)
		hasBytes(t, "Dump behind a crash", tripped.Dump(), first.Dump())
	}
}

// waiting answers how many values wait in each sector that has some, behind so many of busy's moves.
func waiting(moves int) []int {
	var n [4]int
	for k := range moves {
		if k%7 == 6 {
			n = [4]int{}
		} else {
			n[place(k)]++
		}
	}
	return slices.DeleteFunc(n[:], func(k int) bool { return k == 0 })
}

// 1.7: a crash that keeps all is a barrier.
func TestCrashThatKeepsAll(t *testing.T) {
	for moves := range 25 {
		a, b := made(t, 4), made(t, 4)
		busy(a, moves)
		busy(b, moves)
		is(t, "Crash", a.Crash(waiting(moves)...), api.OK)
		is(t, "Barrier", b.Barrier(), api.OK)
		hasBytes(t, "Dump", a.Dump(), b.Dump())
		hasList(t, "Cached", a.Cached(), nil)
		a.Crash()
		b.Crash()
		hasBytes(t, "Dump behind one more crash", a.Dump(), b.Dump())
	}
}

// 1.7: a crash that keeps none goes back to the last barrier.
func TestCrashThatKeepsNone(t *testing.T) {
	for moves := range 25 {
		a, b := made(t, 4), made(t, 4)
		busy(a, moves)
		busy(b, moves-moves%7)
		is(t, "Crash", a.Crash(), api.OK)
		hasBytes(t, "Dump", a.Dump(), b.Dump())
		hasList(t, "Cached", a.Cached(), nil)
		zeros := made(t, 4)
		busy(zeros, moves)
		zeros.Crash(0, 0, 0, 0)
		hasBytes(t, "Dump", zeros.Dump(), b.Dump())
	}
}
