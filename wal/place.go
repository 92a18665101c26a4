package wal

import (
	"larch/api"
	"larch/disk"
)

// A log's first sector is its head's; record sectors are numbered from the one behind it on.
const (
	minSize    = 2
	behindHead = 1
)

// place is where a log lies.
type place struct {
	disk     *disk.Disk
	at, size int
}

// placeOn answers a place of size sectors, from at on.
func placeOn(d *disk.Disk, at, size int) (place, api.Errno) {
	count := d.Count()
	if count == 0 {
		return place{}, api.ErrNil
	}
	// Nothing is added here: a sum of great numbers would wrap round.
	if at < 0 || size < minSize || at > count-size {
		return place{}, api.ErrArg
	}
	return place{disk: d, at: at, size: size}, api.OK
}

// room answers how many sectors there are for records.
func (p place) room() int { return p.size - behindHead }

// store puts values into sectors of the place, one by one from first on.
func (p place) store(first int, values ...[]byte) api.Errno {
	for i, v := range values {
		if e := p.disk.Store(p.at+first+i, v); e != api.OK {
			return e
		}
	}
	return api.OK
}

// renew makes h the head that is sure, and with it all that was stored ahead of it.
func (p place) renew(h head) api.Errno {
	if !h.can() {
		return api.ErrFull
	}
	if e := p.store(0, h.value()); e != api.OK {
		return e
	}
	return p.disk.Barrier()
}

// readHead answers the head.
func (p place) readHead() (head, api.Errno) {
	b, e := p.disk.Fetch(p.at)
	if e != api.OK {
		return head{}, e
	}
	h, ok := headOf(b)
	if !ok {
		return head{}, api.ErrWal
	}
	return h, api.OK
}

// readPiece answers what sector number n holds, if it is the form of such a sector.
func (p place) readPiece(n int) (piece, bool, api.Errno) {
	b, e := p.disk.Fetch(p.at + behindHead + n)
	if e != api.OK {
		return piece{}, false, e
	}
	got, ok := pieceOf(b, n)
	return got, ok, api.OK
}
