package disk_test

import (
	"bytes"
	"math"
	"slices"
	"testing"

	"larch/api"
	"larch/disk"
)

// of is a value that c tells from all others, and in which each byte tells its place.
func of(c int) []byte {
	b := make([]byte, api.Sector)
	for i := range b {
		b[i] = byte(c + i)
	}
	return b
}

func noughts(sectors int) []byte { return make([]byte, sectors*api.Sector) }

func made(t *testing.T, sectors int) *disk.Disk {
	t.Helper()
	d, e := disk.Make(sectors)
	if e != api.OK || d == nil {
		t.Fatalf("Make(%d): %v, %v", sectors, d, e)
	}
	return d
}

func is(t *testing.T, what string, got, want any) {
	t.Helper()
	if got != want {
		t.Errorf("%s: %v, want %v", what, got, want)
	}
}

func hasBytes(t *testing.T, what string, got, want []byte) {
	t.Helper()
	if !bytes.Equal(got, want) {
		t.Errorf("%s: %d bytes %.4x.., want %d bytes %.4x..", what, len(got), got, len(want), want)
	}
}

func hasList(t *testing.T, what string, got, want []int) {
	t.Helper()
	if !slices.Equal(got, want) {
		t.Errorf("%s: %v, want %v", what, got, want)
	}
}

func fetches(t *testing.T, d *disk.Disk, at int, want []byte) {
	t.Helper()
	b, e := d.Fetch(at)
	is(t, "Fetch", e, api.OK)
	hasBytes(t, "Fetch", b, want)
}

func stores(t *testing.T, d *disk.Disk, at int, b []byte) {
	t.Helper()
	is(t, "Store", d.Store(at, b), api.OK)
}

// dark answers a disk of two sectors whose power is gone; sector 0 has a value that waits.
func dark(t *testing.T) *disk.Disk {
	t.Helper()
	d := made(t, 2)
	stores(t, d, 0, of(1))
	is(t, "Trip", d.Trip(0), api.OK)
	is(t, "Barrier at the trip", d.Barrier(), api.ErrPower)
	return d
}

// 1.1, Limits.
func TestMakeTakesOneToMaxSectors(t *testing.T) {
	for _, n := range []int{math.MinInt, -4096, -1, 0, api.MaxSectors + 1, math.MaxInt} {
		if d, e := disk.Make(n); d != nil || e != api.ErrArg {
			t.Errorf("Make(%d): %v, %v, want none and ErrArg", n, d, e)
		}
	}
	for _, n := range []int{1, 2, api.MaxSectors} {
		d := made(t, n)
		is(t, "Count", d.Count(), n)
		is(t, "Moves", d.Moves(), 0)
		hasList(t, "Cached", d.Cached(), nil)
		hasBytes(t, "Dump", d.Dump(), noughts(n))
		fetches(t, d, n-1, noughts(1))
	}
}

// 1.1, Limits.
func TestLoadTakesWholeSectors(t *testing.T) {
	most := api.MaxSectors * api.Sector
	for _, n := range []int{0, 1, 255, 257, 511, most - 1, most + 1, most + 256} {
		if d, e := disk.Load(make([]byte, n)); d != nil || e != api.ErrArg {
			t.Errorf("Load of %d bytes: %v, %v, want none and ErrArg", n, d, e)
		}
	}
	if d, e := disk.Load(nil); d != nil || e != api.ErrArg {
		t.Errorf("Load(nil): %v, %v, want none and ErrArg", d, e)
	}
	for _, n := range []int{1, 3, api.MaxSectors} {
		b := noughts(n)
		for i := range b {
			b[i] = byte(i/api.Sector + i)
		}
		d, e := disk.Load(b)
		is(t, "Load", e, api.OK)
		is(t, "Count", d.Count(), n)
		is(t, "Moves", d.Moves(), 0)
		hasList(t, "Cached", d.Cached(), nil)
		hasBytes(t, "Dump", d.Dump(), b)
		fetches(t, d, n-1, b[len(b)-api.Sector:])
		d.Crash()
		hasBytes(t, "Dump behind a crash", d.Dump(), b)
	}
}

// 1.1: neither has a trip.
func TestNewDisksHaveNoTrip(t *testing.T) {
	m := made(t, 1)
	l, e := disk.Load(of(9))
	is(t, "Load", e, api.OK)
	for _, d := range []*disk.Disk{m, l} {
		for k := range 50 {
			stores(t, d, 0, of(k))
			is(t, "Barrier", d.Barrier(), api.OK)
		}
		is(t, "Moves", d.Moves(), 100)
	}
}

// 1.1.
func TestFetchAnswersWhatWasStoredLast(t *testing.T) {
	d := made(t, 3)
	fetches(t, d, 1, noughts(1))
	stores(t, d, 1, of(1))
	fetches(t, d, 1, of(1))
	stores(t, d, 1, of(2))
	fetches(t, d, 1, of(2))
	is(t, "Barrier", d.Barrier(), api.OK)
	fetches(t, d, 1, of(2))
	stores(t, d, 1, of(3))
	fetches(t, d, 1, of(3))
	fetches(t, d, 0, noughts(1))
	fetches(t, d, 2, noughts(1))
}

// 1.1, rules 1 and 5.
func TestFetchRefuses(t *testing.T) {
	on, off := made(t, 2), dark(t)
	for _, at := range []int{math.MinInt, -1, 2, 3, math.MaxInt} {
		for _, d := range []*disk.Disk{on, off} {
			b, e := d.Fetch(at)
			is(t, "Fetch of a sector that there is not", e, api.ErrArg)
			is(t, "its bytes", b == nil, true)
		}
	}
	for at := range 2 {
		b, e := off.Fetch(at)
		is(t, "Fetch with the power gone", e, api.ErrPower)
		is(t, "its bytes", b == nil, true)
	}
}

// 1.1, rule 1, P2.
func TestStoreRefuses(t *testing.T) {
	on, off := made(t, 2), dark(t)
	stores(t, on, 0, of(1))
	for _, d := range []*disk.Disk{on, off} {
		dump, cached, moves := d.Dump(), d.Cached(), d.Moves()
		for _, at := range []int{math.MinInt, -1, 2, math.MaxInt} {
			is(t, "Store to a sector that there is not", d.Store(at, of(1)), api.ErrArg)
			is(t, "Store with nothing right", d.Store(at, nil), api.ErrArg)
		}
		for _, n := range []int{0, 1, 255, 257, 512} {
			is(t, "Store of other than Sector bytes", d.Store(1, make([]byte, n)), api.ErrArg)
		}
		is(t, "Store of nil", d.Store(1, nil), api.ErrArg)
		hasBytes(t, "Dump", d.Dump(), dump)
		hasList(t, "Cached", d.Cached(), cached)
		is(t, "Moves", d.Moves(), moves)
	}
	is(t, "Store with the power gone", off.Store(1, of(1)), api.ErrPower)
	is(t, "Store of what is there, with the power gone", off.Store(0, of(1)), api.ErrPower)
}

// P2: a store that is refused is no move, so that no trip comes by it.
func TestStoreThatIsRefusedLeavesTheTrip(t *testing.T) {
	d := made(t, 1)
	d.Trip(1)
	is(t, "Store", d.Store(1, of(1)), api.ErrArg)
	is(t, "Store", d.Store(0, nil), api.ErrArg)
	stores(t, d, 0, of(1))
	is(t, "Store", d.Store(-1, of(1)), api.ErrArg)
	fetches(t, d, 0, of(1))
	is(t, "Store at the trip", d.Store(0, of(2)), api.ErrPower)
}

// 1.1.
func TestBarrierMakesSure(t *testing.T) {
	d := made(t, 3)
	stores(t, d, 2, of(1))
	stores(t, d, 2, of(2))
	stores(t, d, 0, of(3))
	is(t, "Barrier", d.Barrier(), api.OK)
	hasList(t, "Cached", d.Cached(), nil)
	want := slices.Concat(of(3), noughts(1), of(2))
	hasBytes(t, "Dump", d.Dump(), want)
	d.Crash()
	hasBytes(t, "Dump behind a crash", d.Dump(), want)
	is(t, "Barrier with nothing that waits", d.Barrier(), api.OK)
	hasBytes(t, "Dump", d.Dump(), want)
}

// 1.1: a barrier with the power gone is not done.
func TestBarrierRefuses(t *testing.T) {
	d := dark(t)
	is(t, "Barrier", d.Barrier(), api.ErrPower)
	hasList(t, "Cached", d.Cached(), []int{0})
	d.Crash()
	hasBytes(t, "Dump", d.Dump(), noughts(2))
}

// 1.2: of each trip just so many moves are done, be they stores or barriers; fetches are none.
func TestTripCountsMoves(t *testing.T) {
	for n := range 6 {
		d := made(t, 1)
		is(t, "Trip", d.Trip(n), api.OK)
		for k := range n {
			fetches(t, d, 0, d.Dump())
			if k%2 == 0 {
				stores(t, d, 0, of(k))
			} else {
				is(t, "Barrier", d.Barrier(), api.OK)
			}
		}
		is(t, "Moves", d.Moves(), n)
		last := d.Dump()
		fetches(t, d, 0, last)
		if n%2 == 0 {
			is(t, "Store at the trip", d.Store(0, of(99)), api.ErrPower)
		} else {
			is(t, "Barrier at the trip", d.Barrier(), api.ErrPower)
		}
		for range 3 {
			_, e := d.Fetch(0)
			is(t, "Fetch", e, api.ErrPower)
			is(t, "Store", d.Store(0, of(98)), api.ErrPower)
			is(t, "Barrier", d.Barrier(), api.ErrPower)
		}
		is(t, "Moves with the power gone", d.Moves(), n)
		hasBytes(t, "Dump with the power gone", d.Dump(), last)
	}
}

// 1.2: the move at the trip is not done: a crash that keeps all has nothing of it.
func TestMoveAtTheTripIsNotDone(t *testing.T) {
	d := made(t, 2)
	stores(t, d, 0, of(1))
	d.Trip(0)
	is(t, "Store at the trip", d.Store(1, of(2)), api.ErrPower)
	hasList(t, "Cached", d.Cached(), []int{0})
	d.Crash(1, 1)
	hasBytes(t, "Dump", d.Dump(), slices.Concat(of(1), noughts(1)))
}

// 1.2.
func TestTripBelowNoughtIsNone(t *testing.T) {
	for _, n := range []int{-1, -2, math.MinInt} {
		d := made(t, 1)
		d.Trip(0)
		is(t, "Trip", d.Trip(n), api.OK)
		for k := range 20 {
			stores(t, d, 0, of(k))
		}
		is(t, "Moves", d.Moves(), 20)
	}
}

// 1.2: the trip counts from when it was told, and the last one holds.
func TestTripIsTheLastOneTold(t *testing.T) {
	d := made(t, 1)
	stores(t, d, 0, of(1))
	d.Trip(1)
	stores(t, d, 0, of(2))
	d.Trip(2)
	stores(t, d, 0, of(3))
	is(t, "Barrier", d.Barrier(), api.OK)
	is(t, "Store at the trip", d.Store(0, of(4)), api.ErrPower)
	is(t, "Moves", d.Moves(), 4)
	e := made(t, 1)
	e.Trip(math.MaxInt)
	stores(t, e, 0, of(1))
	is(t, "Barrier", e.Barrier(), api.OK)
}

// Words: the power is gone till a crash is over, whatever trip is told.
func TestOnlyACrashBringsThePowerBack(t *testing.T) {
	for _, n := range []int{-1, 0, 5} {
		d := dark(t)
		is(t, "Trip with the power gone", d.Trip(n), api.OK)
		_, e := d.Fetch(0)
		is(t, "Fetch", e, api.ErrPower)
		is(t, "Store", d.Store(0, of(1)), api.ErrPower)
		is(t, "Barrier", d.Barrier(), api.ErrPower)
		is(t, "Crash", d.Crash(), api.OK)
		for k := range 20 {
			stores(t, d, 0, of(k))
			fetches(t, d, 0, of(k))
		}
	}
}

// 1.2: a crash takes away a trip that did not come, too.
func TestCrashTakesTheTripAway(t *testing.T) {
	d := made(t, 1)
	d.Trip(2)
	is(t, "Crash", d.Crash(), api.OK)
	for range 5 {
		is(t, "Barrier", d.Barrier(), api.OK)
	}
}

// crashed answers what a crash leaves of two sectors: three values wait in sector 1, one in sector 3.
func crashed(t *testing.T, kept ...int) (int, int) {
	t.Helper()
	d := made(t, 4)
	stores(t, d, 1, of(10))
	stores(t, d, 3, of(20))
	is(t, "Barrier", d.Barrier(), api.OK)
	stores(t, d, 1, of(11))
	stores(t, d, 3, of(21))
	stores(t, d, 1, of(12))
	stores(t, d, 1, of(13))
	handed := slices.Clone(kept)
	is(t, "Crash", d.Crash(handed...), api.OK)
	hasList(t, "what was handed in", handed, kept)
	hasList(t, "Cached", d.Cached(), nil)
	is(t, "Moves", d.Moves(), 7)
	fetches(t, d, 0, noughts(1))
	fetches(t, d, 2, noughts(1))
	x, _ := d.Fetch(1)
	y, _ := d.Fetch(3)
	hasBytes(t, "sector 1", x, of(int(x[0])))
	hasBytes(t, "sector 3", y, of(int(y[0])))
	return int(x[0]), int(y[0])
}

// 1.2.
func TestCrashKeepsTheFirstFew(t *testing.T) {
	tests := []struct {
		kept []int
		x, y int
	}{
		{nil, 10, 20},
		{[]int{0}, 10, 20},
		{[]int{1}, 11, 20},
		{[]int{2}, 12, 20},
		{[]int{3}, 13, 20},
		{[]int{4}, 10, 20},
		{[]int{0, 1}, 10, 21},
		{[]int{3, 1}, 13, 21},
		{[]int{7, 3}, 13, 21},
		{[]int{6, 2}, 12, 20},
		{[]int{1, 1, 9, -9, 7}, 11, 21},
		{[]int{-1, -1}, 13, 21},
		{[]int{-2, -2}, 12, 20},
		{[]int{-3, -3}, 11, 21},
		{[]int{-4, -4}, 10, 20},
		{[]int{-5, 1}, 13, 21},
		{[]int{math.MaxInt, math.MaxInt}, 13, 21},
		{[]int{-math.MaxInt, -math.MaxInt}, 11, 21},
		{[]int{math.MinInt, math.MinInt}, 10, 20},
	}
	for _, c := range tests {
		x, y := crashed(t, c.kept...)
		if x != c.x || y != c.y {
			t.Errorf("Crash%v: %d, %d, want %d, %d", c.kept, x, y, c.x, c.y)
		}
	}
}

// 1.2: a number's bits are read without a sign, so that one below 0 stands for itself and 2^64.
func TestCrashReadsNumbersWithoutASign(t *testing.T) {
	tests := []struct{ waiting, k, first int }{
		{1, -1, 1},
		{1, -2, 0},
		{2, -1, 0},
		{2, -2, 2},
		{2, -3, 1},
		{2, -4, 0},
		{2, math.MinInt, 2},
		{2, math.MinInt + 1, 0},
		{2, math.MaxInt, 1},
		{4, -1, 0},
		{4, -2, 4},
		{5, -1, 3},
		{5, -4, 0},
		{6, -1, 1},
		{6, math.MinInt, 1},
		{6, math.MaxInt, 0},
	}
	for _, c := range tests {
		d := made(t, 1)
		for v := range c.waiting {
			stores(t, d, 0, number(v+1))
		}
		d.Crash(c.k)
		fetches(t, d, 0, number(c.first))
	}
}

// 1.2: numbers of all sizes and signs, with caches of many lengths, each against the sum of 2^64 and it.
func TestCrashCountsFromTwoToThe64(t *testing.T) {
	numbers := []int{math.MinInt, math.MinInt + 1, math.MinInt + 2, math.MaxInt - 1, math.MaxInt}
	for k := -40; k <= 40; k++ {
		numbers = append(numbers, k)
	}
	for waiting := 1; waiting <= 12; waiting++ {
		for _, k := range numbers {
			d := made(t, 2)
			for v := range waiting {
				stores(t, d, 0, number(v+1))
				stores(t, d, 1, number(v+50))
			}
			d.Crash(0, k)
			first := signless(k, waiting+1)
			want := noughts(1)
			if first > 0 {
				want = number(first + 49)
			}
			fetches(t, d, 0, noughts(1))
			fetches(t, d, 1, want)
		}
	}
}

// The chapter's example 1.
func TestExample(t *testing.T) {
	all := func(c byte) []byte { return bytes.Repeat([]byte{c}, api.Sector) }
	for k, want := range [][]byte{noughts(1), all(1), all(2)} {
		d := made(t, 1)
		stores(t, d, 0, all(1))
		stores(t, d, 0, all(2))
		d.Crash(k)
		fetches(t, d, 0, want)
	}
	d := made(t, 1)
	stores(t, d, 0, all(1))
	stores(t, d, 0, all(2))
	d.Crash()
	fetches(t, d, 0, noughts(1))
}

// 1.3.
func TestWhatIsTold(t *testing.T) {
	d := made(t, 5)
	stores(t, d, 4, of(1))
	stores(t, d, 1, of(2))
	stores(t, d, 4, of(3))
	hasList(t, "Cached", d.Cached(), []int{1, 4})
	is(t, "Moves", d.Moves(), 3)
	is(t, "Count", d.Count(), 5)
	want := slices.Concat(noughts(1), of(2), noughts(2), of(3))
	hasBytes(t, "Dump", d.Dump(), want)
	d.Trip(0)
	is(t, "Barrier at the trip", d.Barrier(), api.ErrPower)
	hasList(t, "Cached with the power gone", d.Cached(), []int{1, 4})
	is(t, "Moves with the power gone", d.Moves(), 3)
	is(t, "Count with the power gone", d.Count(), 5)
	hasBytes(t, "Dump with the power gone", d.Dump(), want)
}

// 1.3: what is stored waits, even if it is what lies there already.
func TestStoreOfTheSameWaits(t *testing.T) {
	d := made(t, 1)
	stores(t, d, 0, noughts(1))
	hasList(t, "Cached", d.Cached(), []int{0})
	is(t, "Moves", d.Moves(), 1)
}

// Rule 2, 1.3.
func TestDiskThatNoCallMade(t *testing.T) {
	for _, d := range []*disk.Disk{nil, {}} {
		for range 2 {
			b, e := d.Fetch(0)
			is(t, "Fetch", e, api.ErrNil)
			is(t, "its bytes", b == nil, true)
			_, e = d.Fetch(-1)
			is(t, "Fetch of a sector that there is not", e, api.ErrNil)
			is(t, "Store", d.Store(0, of(1)), api.ErrNil)
			is(t, "Store of nothing", d.Store(-1, nil), api.ErrNil)
			is(t, "Barrier", d.Barrier(), api.ErrNil)
			is(t, "Trip", d.Trip(0), api.ErrNil)
			is(t, "Crash", d.Crash(), api.ErrNil)
			is(t, "Crash", d.Crash(1, 2), api.ErrNil)
			is(t, "Count", d.Count(), 0)
			is(t, "Moves", d.Moves(), 0)
			hasList(t, "Cached", d.Cached(), nil)
			hasBytes(t, "Dump", d.Dump(), nil)
		}
	}
}

// Rule 4.
func TestNothingIsShared(t *testing.T) {
	spoil := func(b []byte) {
		for i := range b {
			b[i] = 0xee
		}
	}
	b := of(1)
	d, _ := disk.Load(b)
	spoil(b)
	fetches(t, d, 0, of(1))
	c := of(2)
	stores(t, d, 0, c)
	hasBytes(t, "what was handed in", c, of(2))
	spoil(c)
	for range 2 {
		f, _ := d.Fetch(0)
		hasBytes(t, "Fetch", f, of(2))
		spoil(f)
		hasBytes(t, "Dump", d.Dump(), of(2))
		spoil(d.Dump())
		hasList(t, "Cached", d.Cached(), []int{0})
		d.Cached()[0] = 7
	}
	d.Crash()
	f, _ := d.Fetch(0)
	spoil(f)
	fetches(t, d, 0, of(1))
}

// Two disks have nothing to do with one another.
func TestDisksAreApart(t *testing.T) {
	a, b := made(t, 1), made(t, 1)
	stores(t, a, 0, of(1))
	a.Trip(0)
	a.Barrier()
	fetches(t, b, 0, noughts(1))
	is(t, "Moves", b.Moves(), 0)
	hasList(t, "Cached", b.Cached(), nil)
}
