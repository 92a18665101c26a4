package page

import "larch/api"

// How many numbers a table has, and how many tables a top can tell.
const (
	perTable = api.Sector / numberSize
	tables   = api.MaxPages / perTable
)

// isPage holds for the numbers that pages have.
func isPage(p int) bool { return p >= 0 && p < api.MaxPages }

// noughts answers the bytes of a page that is not there.
func noughts() []byte { return make([]byte, api.Sector) }

// table is numbers of sectors; with 0, what it tells of is not there.
type table [perTable]int

func (t table) value() []byte {
	b := make([]byte, 0, api.Sector)
	for _, n := range t {
		b = appendNumber(b, numberSize, n)
	}
	return b
}

func tableOf(b []byte) table {
	var t table
	for i := range t {
		t[i], b = cutNumber(b, numberSize)
	}
	return t
}

// tree is what a root leads to: the top, which tells where the tables are, and these, which tell where the pages are.
type tree struct {
	index table
	below [tables]table
}

// place answers where the number of a page's sector stands.
func (t *tree) place(p int) *int { return &t.below[p/perTable][p%perTable] }

// sectors answers all that a root leads to, by a top in this sector.
func (t *tree) sectors(top int) []int {
	l := appendThere(nil, top)
	l = appendThere(l, t.index[:]...)
	for i := range t.below {
		l = appendThere(l, t.below[i][:]...)
	}
	return l
}

// appendThere puts those numbers behind l that tell of something.
func appendThere(l []int, numbers ...int) []int {
	for _, n := range numbers {
		if n != 0 {
			l = append(l, n)
		}
	}
	return l
}

// readTree answers what a root leads to, by a top in this sector.
func (r region) readTree(top int) (tree, api.Errno) {
	var t tree
	var e api.Errno
	if t.index, e = r.readTable(top); e != api.OK {
		return tree{}, e
	}
	for i, n := range t.index {
		if n == 0 {
			continue
		}
		// A top has no numbers behind those of the tables that there can be.
		if i >= tables {
			return tree{}, api.ErrPage
		}
		if t.below[i], e = r.readTable(n); e != api.OK {
			return tree{}, e
		}
	}
	return t, api.OK
}

// readTable answers the table in a sector; with 0, there is none, which is as one of noughts.
func (r region) readTable(n int) (table, api.Errno) {
	if n == 0 {
		return table{}, api.OK
	}
	if !r.has(n) {
		return table{}, api.ErrPage
	}
	b, e := r.fetch(n)
	if e != api.OK {
		return table{}, e
	}
	return tableOf(b), api.OK
}
