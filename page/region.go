package page

import (
	"larch/api"
	"larch/disk"
)

// A store's first two sectors are for its roots; all others are numbered from the one behind them on.
const (
	minSize = 8
	roots   = 2
)

// region is the sectors that a store lies in.
type region struct {
	disk     *disk.Disk
	at, size int
}

// regionOn answers a region of size sectors, from at on.
func regionOn(d *disk.Disk, at, size int) (region, api.Errno) {
	count := d.Count()
	if count == 0 {
		return region{}, api.ErrNil
	}
	// Nothing is added here: a sum of great numbers would wrap round.
	if at < 0 || size < minSize || at > count-size {
		return region{}, api.ErrArg
	}
	return region{disk: d, at: at, size: size}, api.OK
}

// has holds for the numbers of the sectors that are not for roots.
func (r region) has(n int) bool { return n >= roots && n < r.size }

// fetch answers a sector's bytes.
func (r region) fetch(n int) ([]byte, api.Errno) { return r.disk.Fetch(r.at + n) }

// cell is a value, and the number of the sector that it goes to.
type cell struct {
	number int
	value  []byte
}

// settle stores cells one by one, and makes them sure.
func (r region) settle(cells ...cell) api.Errno {
	for _, c := range cells {
		if e := r.disk.Store(r.at+c.number, c.value); e != api.OK {
			return e
		}
	}
	return r.disk.Barrier()
}

// set is numbers of sectors.
type set map[int]struct{}

// without answers the sectors that are free if these are not, or false if one is none of the region's, or comes twice.
func (r region) without(taken []int) (set, bool) {
	free := set{}
	for n := roots; n < r.size; n++ {
		free[n] = struct{}{}
	}
	for _, n := range taken {
		if _, ok := free[n]; !ok {
			return nil, false
		}
		delete(free, n)
	}
	return free, true
}
