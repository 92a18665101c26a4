// Package disk is layer 1: sectors with a cache. See shared/doc/01-disk.md.
package disk

import (
	"larch/api"
)

// noTrip stands for a trip that never comes: 0 already stops the very next move.
const noTrip = -1

// Disk is sectors with their caches, and the power that they hang on.
type Disk struct {
	sectors []sector
	moves   int
	trip    int
	dark    bool // not told by trip: the power goes only when a move comes, and just a crash brings it back
}

// Make answers a disk of noughts.
func Make(sectors int) (*Disk, api.Errno) {
	if sectors < 1 || sectors > api.MaxSectors {
		return nil, api.ErrArg
	}
	return &Disk{sectors: make([]sector, sectors), trip: noTrip}, api.OK
}

// Load answers a disk whose sectors have these bytes for sure.
func Load(b []byte) (*Disk, api.Errno) {
	if len(b)%api.Sector != 0 {
		return nil, api.ErrArg
	}
	d, e := Make(len(b) / api.Sector)
	if e != api.OK {
		return nil, e
	}
	for at := range d.sectors {
		copy(d.sectors[at].sure[:], b[at*api.Sector:])
	}
	return d, api.OK
}

// Fetch answers a sector's value, as it was stored last.
func (d *Disk) Fetch(at int) ([]byte, api.Errno) {
	if !d.made() {
		return nil, api.ErrNil
	}
	if !d.has(at) {
		return nil, api.ErrArg
	}
	if d.dark {
		return nil, api.ErrPower
	}
	v := d.sectors[at].latest()
	return v[:], api.OK
}

// Store makes b the last value of a sector's cache.
func (d *Disk) Store(at int, b []byte) api.Errno {
	if !d.made() {
		return api.ErrNil
	}
	if !d.has(at) || len(b) != api.Sector {
		return api.ErrArg
	}
	if !d.move() {
		return api.ErrPower
	}
	d.sectors[at].add(b)
	return api.OK
}

// Barrier makes all that would be fetched sure.
func (d *Disk) Barrier() api.Errno {
	if !d.made() {
		return api.ErrNil
	}
	if !d.move() {
		return api.ErrPower
	}
	for _, at := range d.Cached() {
		s := &d.sectors[at]
		s.settle(s.size())
	}
	return api.OK
}

// Trip tells how many moves are done yet, till the power goes; below 0, it does not go.
func (d *Disk) Trip(n int) api.Errno {
	if !d.made() {
		return api.ErrNil
	}
	d.trip = max(n, noTrip)
	return api.OK
}

// Crash keeps of each cache its first few values, as kept tells, and brings the power back.
func (d *Disk) Crash(kept ...int) api.Errno {
	if !d.made() {
		return api.ErrNil
	}
	for i, at := range d.Cached() {
		k := 0
		if i < len(kept) {
			k = kept[i]
		}
		s := &d.sectors[at]
		s.settle(within(k, s.size()+1))
	}
	d.dark = false
	d.trip = noTrip
	return api.OK
}

// Count answers how many sectors there are.
func (d *Disk) Count() int {
	if !d.made() {
		return 0
	}
	return len(d.sectors)
}

// Moves answers how many moves were done.
func (d *Disk) Moves() int {
	if !d.made() {
		return 0
	}
	return d.moves
}

// Cached answers the sectors whose cache is not empty, rising.
func (d *Disk) Cached() []int {
	if !d.made() {
		return nil
	}
	var found []int
	for at := range d.sectors {
		if d.sectors[at].size() > 0 {
			found = append(found, at)
		}
	}
	return found
}

// Dump answers all that would be fetched, with the power gone, too.
func (d *Disk) Dump() []byte {
	if !d.made() {
		return nil
	}
	all := make([]byte, 0, len(d.sectors)*api.Sector)
	for at := range d.sectors {
		v := d.sectors[at].latest()
		all = append(all, v[:]...)
	}
	return all
}

// made holds for what Make and Load answer: a disk of theirs has a sector at least.
func (d *Disk) made() bool { return d != nil && len(d.sectors) > 0 }

func (d *Disk) has(at int) bool { return at >= 0 && at < len(d.sectors) }

// move counts a move, and answers whether it may be done. At the trip the power goes in its stead.
func (d *Disk) move() bool {
	if d.trip == 0 {
		d.dark = true
	}
	if d.dark {
		return false
	}
	if d.trip > 0 {
		d.trip--
	}
	d.moves++
	return true
}

// within answers k modulo n, with k's bits read without a sign: a number below 0 stands for one from 2^63 on.
func within(k, n int) int {
	return int(uint64(k) % uint64(n))
}
