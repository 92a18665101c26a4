package pool_test

import (
	"encoding/binary"
	"math"
	"math/rand"
	"slices"
	"strings"

	"larch/api"
)

// A plain reading of the chapter's words, to hold the calls against, and what makes pools and bytes at random.

// plainEntry holds if an entry that is not zero has what its tag must have, and nothing else.
func plainEntry(l poolOf, x api.Entry) bool {
	to := func(i, tag int) bool { return i >= 0 && i < len(l) && l[i].Tag == tag }
	none := x.Text == "" && x.N == 0
	switch x.Tag {
	case api.TUtf8:
		bad := func(r byte) bool { return r < 33 || r > 126 }
		return len(x.Text) <= 255 && !slices.ContainsFunc([]byte(x.Text), bad) && x.N == 0 && x.A == 0 && x.B == 0
	case api.TInt:
		return x.N >= math.MinInt32 && x.N <= math.MaxInt32 && x.Text == "" && x.A == 0 && x.B == 0
	case api.TLong:
		return x.Text == "" && x.A == 0 && x.B == 0
	case api.TClass:
		return to(x.A, api.TUtf8) && none && x.B == 0
	case api.TName:
		return to(x.A, api.TUtf8) && to(x.B, api.TUtf8) && none
	case api.TField, api.TMethod:
		return to(x.A, api.TClass) && to(x.B, api.TName) && none
	}
	return false
}

// plainRight holds for right pools.
func plainRight(l poolOf) bool {
	if len(l) < 1 || len(l) > api.MaxPool {
		return false
	}
	zeros := map[int]bool{0: true}
	for i, x := range l {
		if x.Tag == api.TLong {
			zeros[i+1] = true
		}
	}
	if zeros[len(l)] {
		return false
	}
	for i, x := range l {
		if zeros[i] != (x == api.Entry{}) || !zeros[i] && !plainEntry(l, x) {
			return false
		}
	}
	return true
}

// plainSize answers how many bytes an entry has behind its tag, of those that b begins with; -1: there is no such tag.
func plainSize(tag byte, b []byte) int {
	switch tag {
	case api.TUtf8:
		if len(b) < 2 {
			return 2
		}
		return 2 + int(binary.BigEndian.Uint16(b))
	case api.TClass:
		return 2
	case api.TInt, api.TName, api.TField, api.TMethod:
		return 4
	case api.TLong:
		return 8
	}
	return -1
}

// plainMade answers the entry with a tag and just these bytes behind it.
func plainMade(tag byte, b []byte) api.Entry {
	x := api.Entry{Tag: int(tag)}
	switch tag {
	case api.TUtf8:
		x.Text = string(b[2:])
	case api.TInt:
		x.N = int(int32(binary.BigEndian.Uint32(b)))
	case api.TLong:
		x.N = int(binary.BigEndian.Uint64(b))
	case api.TClass:
		x.A = int(binary.BigEndian.Uint16(b))
	default:
		x.A, x.B = int(binary.BigEndian.Uint16(b)), int(binary.BigEndian.Uint16(b[2:]))
	}
	return x
}

// plainRead answers the pool whose bytes b begins with, and how many these are.
func plainRead(b []byte) (poolOf, int, api.Errno) {
	all := len(b)
	if all < 2 {
		return nil, 0, api.ErrShort
	}
	n := int(binary.BigEndian.Uint16(b))
	if n == 0 || n > api.MaxPool {
		return nil, 0, api.ErrPool
	}
	l := of()
	for b = b[2:]; len(l) < n; {
		if len(b) == 0 {
			return nil, 0, api.ErrShort
		}
		size := plainSize(b[0], b[1:])
		if size < 0 {
			return nil, 0, api.ErrPool
		}
		if len(b) < 1+size {
			return nil, 0, api.ErrShort
		}
		l = append(l, plainMade(b[0], b[1:1+size]))
		if b[0] == api.TLong {
			l = append(l, api.Entry{})
		}
		b = b[1+size:]
	}
	if len(l) > n || !plainRight(l) {
		return nil, 0, api.ErrPool
	}
	return l, all - len(b), api.OK
}

// plainText answers the text of a right pool's entry.
func plainText(l poolOf, i int) (string, api.Errno) {
	if i < 0 || i >= len(l) || l[i].Tag != api.TUtf8 {
		return "", api.ErrArg
	}
	return l[i].Text, api.OK
}

// plainConst answers what a right pool's entry means.
func plainConst(l poolOf, i int) (api.Const, api.Errno) {
	if i < 0 || i >= len(l) {
		return api.Const{}, api.ErrArg
	}
	x := l[i]
	switch x.Tag {
	case api.TInt, api.TLong:
		return api.Const{Tag: x.Tag, N: x.N}, api.OK
	case api.TClass:
		return classOf(l[x.A].Text), api.OK
	case api.TField:
		return fieldOf(l[l[x.A].A].Text, l[l[x.B].A].Text, l[l[x.B].B].Text), api.OK
	case api.TMethod:
		return methodOf(l[l[x.A].A].Text, l[l[x.B].A].Text, l[l[x.B].B].Text), api.OK
	}
	return api.Const{}, api.ErrArg
}

// plainPlace answers the first entry that holds, or that of the entries behind, which are put there.
func plainPlace(l *poolOf, holds func(api.Entry) bool, more ...api.Entry) int {
	if i := slices.IndexFunc(*l, holds); i >= 0 {
		return i
	}
	*l = append(*l, more...)
	return len(*l) - len(more)
}

// plainPut puts a constant that an entry can mean into a right pool: its six entries, as far as they are not there.
func plainPut(l poolOf, c api.Const) (poolOf, int, api.Errno) {
	for i := range l {
		if have, e := plainConst(l, i); e == api.OK && have == c {
			return l, i, api.OK
		}
	}
	l = l.clone()
	text := func(s string) int { return plainPlace(&l, func(x api.Entry) bool { return x == utf(s) }, utf(s)) }
	i := 0
	switch c.Tag {
	case api.TInt:
		l = append(l, num(c.N))
		i = len(l) - 1
	case api.TLong:
		l = append(l, long(c.N), api.Entry{})
		i = len(l) - 2
	default:
		isClass := func(x api.Entry) bool { return x.Tag == api.TClass && l[x.A].Text == c.Class }
		isName := func(x api.Entry) bool {
			return x.Tag == api.TName && l[x.A].Text == c.Name && l[x.B].Text == c.Type
		}
		i = plainPlace(&l, isClass, class(text(c.Class)))
		if c.Tag != api.TClass {
			kind := plainPlace(&l, isName, name(text(c.Name), text(c.Type)))
			l = append(l, api.Entry{Tag: c.Tag, A: i, B: kind})
			i = len(l) - 1
		}
	}
	if len(l) > api.MaxPool {
		return nil, 0, api.ErrLong
	}
	return l, i, api.OK
}

// anyText answers a text that may be in a pool, mostly one of a few.
func anyText(g *rand.Rand) string {
	if g.Intn(3) > 0 {
		return []string{"", "a", "b", "I", "()V", "a/B", "run"}[g.Intn(7)]
	}
	b := make([]byte, []int{1, 2, 5, 254, 255}[g.Intn(5)])
	for i := range b {
		b[i] = byte(33 + g.Intn(94))
	}
	return string(b)
}

// anyInt answers a number that four bytes hold.
func anyInt(g *rand.Rand) int {
	return []int{math.MinInt32, math.MaxInt32, 0, 1, -1, g.Intn(4), int(int32(g.Uint32()))}[g.Intn(7)]
}

// anyLong answers any number.
func anyLong(g *rand.Rand) int {
	return []int{math.MinInt, math.MaxInt, math.MaxInt32 + 1, anyInt(g), int(g.Uint64())}[g.Intn(5)]
}

// anyPool answers a right pool whose entries, up to some number of them, stand in any order.
func anyPool(g *rand.Rand, most int) poolOf {
	kinds := []int{api.TUtf8, api.TClass, api.TUtf8, api.TName}
	for range g.Intn(most) {
		kinds = append(kinds, tags()[g.Intn(7)])
	}
	g.Shuffle(len(kinds), func(i, j int) { kinds[i], kinds[j] = kinds[j], kinds[i] })
	l := of()
	for _, k := range kinds {
		l = append(l, api.Entry{Tag: k})
		if k == api.TLong {
			l = append(l, api.Entry{})
		}
	}
	some := func(tag int) int {
		i := g.Intn(len(l))
		for l[i].Tag != tag {
			i = g.Intn(len(l))
		}
		return i
	}
	for i := range l {
		switch x := &l[i]; x.Tag {
		case api.TUtf8:
			x.Text = anyText(g)
		case api.TInt:
			x.N = anyInt(g)
		case api.TLong:
			x.N = anyLong(g)
		case api.TClass:
			x.A = some(api.TUtf8)
		case api.TName:
			x.A, x.B = some(api.TUtf8), some(api.TUtf8)
		case api.TField, api.TMethod:
			x.A, x.B = some(api.TClass), some(api.TName)
		}
	}
	return l
}

// spoiled answers a pool with something changed, which may be right still.
func spoiled(g *rand.Rand, l poolOf) poolOf {
	l = l.clone()
	i := g.Intn(len(l))
	switch x := &l[i]; g.Intn(9) {
	case 0:
		x.Tag = g.Intn(14)
	case 1:
		x.Text = []string{"", "a", " ", "\x7f", strings.Repeat("b", 255+g.Intn(2)), x.Text + "c"}[g.Intn(6)]
	case 2:
		x.N = []int{0, 1, math.MaxInt32 + g.Intn(2), math.MinInt32 - g.Intn(2), anyLong(g)}[g.Intn(5)]
	case 3:
		x.A = g.Intn(len(l)+3) - 1
	case 4:
		x.B = g.Intn(len(l)+3) - 1
	case 5:
		*x = api.Entry{}
	case 6:
		l = slices.Delete(l, i, i+1)
	case 7:
		l = slices.Insert(l, i, l[g.Intn(len(l))])
	case 8:
		j := g.Intn(len(l))
		l[i], l[j] = l[j], l[i]
	}
	return l
}

// spoiledBytes answers bytes with something changed.
func spoiledBytes(g *rand.Rand, b []byte) []byte {
	b = slices.Clone(b)
	for range g.Intn(3) {
		switch i := g.Intn(len(b)); g.Intn(4) {
		case 0:
			b[i] = byte(g.Intn(256))
		case 1:
			b[i] = byte(int(b[i]) + g.Intn(3) - 1)
		case 2:
			b = slices.Insert(b, i, byte(g.Intn(14)))
		case 3:
			b[1] = byte(int(b[1]) + g.Intn(3) - 1)
		}
	}
	if g.Intn(3) == 0 {
		b = b[:g.Intn(len(b)+1)]
	}
	return b
}

// anyConst answers a constant that an entry can mean, mostly of a few texts.
func anyConst(g *rand.Rand) api.Const {
	switch g.Intn(5) {
	case 0:
		return numOf(anyInt(g))
	case 1:
		return longOf(anyLong(g))
	case 2:
		return classOf(anyText(g))
	case 3:
		return fieldOf(anyText(g), anyText(g), anyText(g))
	}
	return methodOf(anyText(g), anyText(g), anyText(g))
}
