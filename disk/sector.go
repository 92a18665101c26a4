package disk

import (
	"larch/api"
)

// value is a sector's bytes. It is an array, so that no two places share their bytes, and none has a part of them.
type value [api.Sector]byte

// cache is the values that were stored since the last barrier, in order: a crash may go back to any of them.
type cache struct {
	waiting []value
}

// add takes Sector bytes, of which it keeps none.
func (c *cache) add(b []byte) {
	var v value
	copy(v[:], b)
	c.waiting = append(c.waiting, v)
}

func (c *cache) size() int { return len(c.waiting) }

// sector is a cache, and what is sure below it.
type sector struct {
	cache
	sure value
}

// behind answers the sector's value, once just the first k of those that wait were written.
func (s *sector) behind(k int) value {
	if k == 0 {
		return s.sure
	}
	return s.waiting[k-1]
}

func (s *sector) latest() value { return s.behind(s.size()) }

// settle writes just the first k of the values that wait, and drops the others.
func (s *sector) settle(k int) {
	s.sure = s.behind(k)
	s.waiting = nil
}
