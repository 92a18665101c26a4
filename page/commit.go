package page

import (
	"bytes"
	"maps"
	"math"
	"slices"

	"larch/api"
)

// commit is what a commit stores, and what is there behind it.
type commit struct {
	root
	tree
	cells []cell
	spare []int // free sectors that no cell took yet, rising
	full  bool
}

// work answers the commit of what was written; nothing is stored yet, so that one without room changes nothing.
func (s *Store) work(notes string) (*commit, api.Errno) {
	if s.sequence == math.MaxUint32 {
		return nil, api.ErrFull
	}
	c := &commit{tree: s.tree, spare: slices.Sorted(maps.Keys(s.free))}
	dirty := s.Dirty()
	for _, p := range dirty {
		*c.place(p) = c.lay(s.written[p])
	}
	for _, i := range tablesOf(dirty) {
		c.index[i] = c.lay(c.below[i].value())
	}
	c.root = root{sequence: s.sequence + 1, top: c.lay(c.index.value()), notes: filled(notes)}
	if c.full {
		return nil, api.ErrFull
	}
	return c, api.OK
}

// lay gives a value the least sector that is free, and answers its number; noughts need none.
func (c *commit) lay(value []byte) int {
	if bytes.Equal(value, noughts()) {
		return 0
	}
	if len(c.spare) == 0 {
		c.full = true
		return 0
	}
	n := c.spare[0]
	c.spare = c.spare[1:]
	c.cells = append(c.cells, cell{number: n, value: value})
	return n
}

// tablesOf answers the tables of pages that rise.
func tablesOf(pages []int) []int {
	var l []int
	for _, p := range pages {
		l = append(l, p/perTable)
	}
	return slices.Compact(l)
}
