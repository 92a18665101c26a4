package pool_test

import (
	"bytes"
	"fmt"
	"math"
	"slices"
	"strings"
	"testing"

	"larch/api"
	"larch/pool"
	"larch/word"
)

// poolOf is a list of entries, right or not.
type poolOf []api.Entry

func (l poolOf) clone() poolOf { return slices.Clone(l) }

// String tells the first entries, which are enough to know a pool by.
func (l poolOf) String() string {
	return fmt.Sprintf("%d entries %.300s", len(l), fmt.Sprint([]api.Entry(l[:min(len(l), 16)])))
}

func utf(s string) api.Entry    { return api.Entry{Tag: api.TUtf8, Text: s} }
func num(n int) api.Entry       { return api.Entry{Tag: api.TInt, N: n} }
func long(n int) api.Entry      { return api.Entry{Tag: api.TLong, N: n} }
func class(a int) api.Entry     { return api.Entry{Tag: api.TClass, A: a} }
func name(a, b int) api.Entry   { return api.Entry{Tag: api.TName, A: a, B: b} }
func field(a, b int) api.Entry  { return api.Entry{Tag: api.TField, A: a, B: b} }
func method(a, b int) api.Entry { return api.Entry{Tag: api.TMethod, A: a, B: b} }

// of answers the zero entry, and others behind it.
func of(l ...api.Entry) poolOf { return append(poolOf{{}}, l...) }

// filled answers a right pool of n entries.
func filled(n int) poolOf { return append(of(), slices.Repeat([]api.Entry{num(7)}, n-1)...) }

func is(t *testing.T, what string, got, want any) {
	t.Helper()
	if got != want {
		t.Errorf("%s: %v, want %v", what, got, want)
	}
}

// hasPool asks for a list (one without members may be nil).
func hasPool(t *testing.T, what string, got, want []api.Entry) {
	t.Helper()
	if !slices.Equal(got, want) {
		t.Errorf("%s: %v, want %v", what, poolOf(got), poolOf(want))
	}
}

func hasBytes(t *testing.T, what string, got, want []byte) {
	t.Helper()
	if !bytes.Equal(got, want) {
		t.Errorf("%s: %.80x, want %.80x", what, got, want)
	}
}

// two answers a number's two bytes, whatever the number.
func two(n int) []byte { return []byte{byte(n >> 8), byte(n)} }

// raw answers the bytes that a list has by the chapter's words, also if it is no pool, as far as they can tell it.
func raw(l []api.Entry) []byte {
	b := two(len(l))
	for _, x := range l {
		if x == (api.Entry{}) {
			continue
		}
		b = append(b, byte(x.Tag))
		switch x.Tag {
		case api.TUtf8:
			b = append(append(b, two(len(x.Text))...), x.Text...)
		case api.TInt:
			b = append(append(b, two(x.N>>16)...), two(x.N)...)
		case api.TLong:
			b = append(append(b, two(x.N>>48)...), two(x.N>>32)...)
			b = append(append(b, two(x.N>>16)...), two(x.N)...)
		case api.TClass:
			b = append(b, two(x.A)...)
		case api.TField, api.TMethod, api.TName:
			b = append(append(b, two(x.A)...), two(x.B)...)
		}
	}
	return b
}

// allTags is a right pool with entries of all tags; some of them point ahead.
func allTags() poolOf {
	return of(
		method(5, 9), utf("a/B"), num(-7), field(5, 10), class(2), long(-5), api.Entry{}, utf("()V"), name(11, 8),
		name(12, 13), utf("run"), utf("x"), utf("I"), class(12), long(math.MaxInt), api.Entry{},
	)
}

// rightPools are right pools at the edges that the chapter names.
func rightPools() map[string]poolOf {
	l := map[string]poolOf{
		"of the zero entry alone":        of(),
		"of MaxPool entries":             filled(api.MaxPool),
		"of one less":                    filled(api.MaxPool - 1),
		"with all tags":                  allTags(),
		"with the example's entries":     of(utf("a"), class(1), utf("b"), utf("()V"), name(3, 4), method(2, 5)),
		"with a long":                    of(long(0), api.Entry{}),
		"with longs side by side":        of(long(1), api.Entry{}, long(2), api.Entry{}, long(3), api.Entry{}),
		"with a long at the end":         of(num(1), long(2), api.Entry{}),
		"with the same entry twice":      of(utf("a"), utf("a"), class(1), class(2), class(1), num(0), num(0)),
		"with one text for all":          of(utf("a"), class(1), name(1, 1), field(2, 3), method(2, 3)),
		"that points ahead":              of(method(3, 2), name(5, 4), class(4), utf("a"), utf("b")),
		"whose last entry is pointed to": append(append(of(class(api.MaxPool-1)), filled(api.MaxPool - 2)[1:]...), utf("a")),
		"with a long as its last two":    append(filled(api.MaxPool-2), long(9), api.Entry{}),
	}
	for _, n := range []int{0, 1, 2, 254, 255} {
		l[fmt.Sprintf("with a text of %d bytes", n)] = of(utf(strings.Repeat("~", n)))
	}
	for b := 33; b <= 126; b++ {
		l[fmt.Sprintf("with a text of byte %d", b)] = of(utf("a"+string(rune(b))), utf(string(rune(b))+"a"))
	}
	for _, n := range []int{math.MinInt32, math.MinInt32 + 1, -65536, -256, -1, 0, 1, 255, math.MaxInt32 - 1, math.MaxInt32} {
		l[fmt.Sprintf("with the int %d", n)] = of(num(n))
	}
	for _, n := range []int{
		math.MinInt, math.MinInt + 1, math.MinInt32 - 1, math.MinInt32, -1, 0, 1, math.MaxInt32, math.MaxInt32 + 1,
		0x0102030405060708, math.MaxInt - 1, math.MaxInt,
	} {
		l[fmt.Sprintf("with the long %d", n)] = of(long(n), api.Entry{})
	}
	return l
}

// wrong is a pool that is none, and whether its bytes tell so, too.
type wrong struct {
	l    poolOf
	told bool
}

// wrongPools are lists that are no pools, each for one reason.
func wrongPools() map[string]wrong {
	l := map[string]wrong{
		"of no entries":                      {nil, true},
		"of no entries, not nil":             {poolOf{}, true},
		"of MaxPool and 1":                   {filled(api.MaxPool + 1), true},
		"of twice MaxPool":                   {filled(2 * api.MaxPool), true},
		"with a zero entry at 1":             {of(api.Entry{}), false},
		"with a zero entry behind an int":    {of(num(1), api.Entry{}), false},
		"with a zero entry between ints":     {of(num(1), api.Entry{}, num(2)), false},
		"with two zero entries at the end":   {of(long(1), api.Entry{}, api.Entry{}), false},
		"with two behind a long":             {of(long(1), api.Entry{}, api.Entry{}, num(1)), false},
		"with a long at the end":             {of(long(1)), true},
		"with a long at the end behind some": {of(num(1), long(2), api.Entry{}, long(3)), true},
		"of MaxPool with a long at the end":  {append(filled(api.MaxPool-1), long(1)), true},
		"with an int behind a long":          {of(long(1), num(2)), false},
		"with a text behind a long":          {of(long(1), utf("a"), utf("b")), false},
		"with a long behind a long":          {of(long(1), long(2)), false},
		"with longs and one zero entry":      {of(long(1), long(2), api.Entry{}), false},
		"with no tag behind a long":          {of(long(1), api.Entry{N: 1}), false},
		"with a text of 256 bytes":           {of(utf(strings.Repeat("a", 256))), true},
		"with a text of 257 bytes":           {of(utf(strings.Repeat("a", 257))), true},
		"with a text of 65535 bytes":         {of(utf(strings.Repeat("a", 65535))), true},
		"with a text of 65536 bytes":         {of(utf(strings.Repeat("a", 65536))), false},
	}
	addWrongFirst(l)
	addWrongTexts(l)
	addWrongTags(l)
	addWrongParts(l)
	addWrongPointers(l)
	return l
}

// addWrongFirst adds pools whose entry 0 is not the zero entry.
func addWrongFirst(all map[string]wrong) {
	for _, x := range []api.Entry{utf("a"), utf(""), num(0), num(1), class(1), name(1, 1), field(2, 3), {N: 1}, {Text: "a"}, {A: 1}, {B: 1}, {Tag: 2}} {
		all[fmt.Sprintf("with %v as its first", x)] = wrong{poolOf{x}, false}
		all[fmt.Sprintf("with %v as its first, and more", x)] = wrong{poolOf{x, utf("a"), class(1), name(1, 1)}, false}
	}
	all["with a long as its first"] = wrong{poolOf{long(1), {}}, false}
}

// addWrongTexts adds pools with bytes in texts that may not be there: in front, within and at the end.
func addWrongTexts(all map[string]wrong) {
	for b := range 256 {
		if b >= 33 && b <= 126 {
			continue
		}
		s := string([]byte{byte(b)})
		for _, text := range []string{s, s + "a", "a" + s, "a" + s + "b", strings.Repeat("a", 254) + s} {
			all[fmt.Sprintf("with the text %q", text)] = wrong{of(utf("ok"), utf(text)), true}
		}
	}
}

// noTags are numbers that no tag is.
func noTags() []int {
	l := []int{-1, -3, math.MaxInt, math.MinInt, 256, 1 << 32}
	for _, k := range tags() {
		l = append(l, k+256, k+1<<32, k+math.MinInt, -k)
	}
	for k := 1; k < 256; k++ {
		if !slices.Contains(tags(), k) {
			l = append(l, k)
		}
	}
	return l
}

// tags are those that there are.
func tags() []int {
	return []int{api.TUtf8, api.TInt, api.TLong, api.TClass, api.TField, api.TMethod, api.TName}
}

// addWrongTags adds pools with a tag that there is none of; entries without a tag that are not zero are such.
func addWrongTags(all map[string]wrong) {
	for _, k := range noTags() {
		told := k > 0 && k < 256
		all[fmt.Sprintf("with the tag %d", k)] = wrong{of(api.Entry{Tag: k}), told}
		for i, x := range []api.Entry{utf("a"), num(1), class(1), name(1, 1), field(2, 3)} {
			x.Tag = k
			all[fmt.Sprintf("with the tag %d, as the tag %d", k, i)] = wrong{of(utf("a"), class(1), name(1, 1), x), told}
		}
	}
	for _, x := range []api.Entry{{Text: "a"}, {N: 1}, {N: -1}, {A: 1}, {B: 1}, {Text: "a", N: 1, A: 1, B: 1}} {
		all[fmt.Sprintf("without a tag: %v", x)] = wrong{of(utf("a"), x), false}
	}
}

// addWrongParts adds pools with something in an entry that its tag may not have, and with ints that four bytes don't hold.
func addWrongParts(all map[string]wrong) {
	right := allTags()
	for i, x := range right {
		for part := range 4 {
			for _, n := range []int{1, 2, -1, math.MinInt} {
				y := x
				switch {
				case part == 0 && x.Tag != api.TUtf8:
					y.Text = "a"
				case part == 1 && x.Tag != api.TInt && x.Tag != api.TLong:
					y.N = n
				case part == 2 && (x.Tag < api.TClass):
					y.A = n
				case part == 3 && (x.Tag <= api.TClass):
					y.B = n
				default:
					continue
				}
				l := right.clone()
				l[i] = y
				all[fmt.Sprintf("with entry %d as %v", i, y)] = wrong{l, false}
			}
		}
	}
	for _, n := range []int{math.MaxInt32 + 1, math.MinInt32 - 1, math.MaxUint32, 1 << 32, -1 << 32, math.MaxInt, math.MinInt} {
		all[fmt.Sprintf("with the int %d", n)] = wrong{of(num(n)), false}
	}
}

// mayPoint answers which tag the entry must have that an entry with this tag points to, by A and by B.
func mayPoint(tag int) (int, int) {
	switch tag {
	case api.TClass:
		return api.TUtf8, 0
	case api.TName:
		return api.TUtf8, api.TUtf8
	}
	return api.TClass, api.TName
}

// addWrongPointers adds pools in which an entry points to another tag, to a zero entry, to itself, or to none.
func addWrongPointers(all map[string]wrong) {
	right := allTags()
	for i, x := range right {
		if x.Tag < api.TClass {
			continue
		}
		a, b := mayPoint(x.Tag)
		for _, to := range []int{-1, -2, len(right), len(right) + 1, 65535, 65536 + x.A, x.A - 65536, 1<<32 + x.A, math.MaxInt, math.MinInt} {
			addPointer(all, right, i, to)
		}
		for to, y := range right {
			if y.Tag != a {
				addA(all, right, i, to)
			}
			if b != 0 && y.Tag != b {
				addB(all, right, i, to)
			}
		}
	}
}

func addPointer(all map[string]wrong, right poolOf, i, to int) {
	addA(all, right, i, to)
	if right[i].Tag != api.TClass {
		addB(all, right, i, to)
	}
}

func addA(all map[string]wrong, right poolOf, i, to int) {
	l := right.clone()
	l[i].A = to
	all[fmt.Sprintf("with entry %d pointing to %d by A", i, to)] = wrong{l, to >= 0 && to < 65536}
}

func addB(all map[string]wrong, right poolOf, i, to int) {
	l := right.clone()
	l[i].B = to
	all[fmt.Sprintf("with entry %d pointing to %d by B", i, to)] = wrong{l, to >= 0 && to < 65536}
}

// 7.1.
func TestCheck(t *testing.T) {
	for what, l := range rightPools() {
		is(t, "Check of a pool "+what, pool.Check(l), api.OK)
	}
	for what, x := range wrongPools() {
		is(t, "Check of a pool "+what, pool.Check(x.l), api.ErrPool)
	}
}

// 7.1: of a pool of all tags each entry may point to every entry of the right tag, and to no other.
func TestCheckOfAllPointers(t *testing.T) {
	right := allTags()
	for i, x := range right {
		if x.Tag < api.TClass {
			continue
		}
		wantA, wantB := mayPoint(x.Tag)
		for a, to := range right {
			for b, other := range right {
				if x.Tag == api.TClass && b != 0 {
					continue
				}
				l := right.clone()
				l[i].A, l[i].B = a, b
				want := api.ErrPool
				if to.Tag == wantA && other.Tag == wantB {
					want = api.OK
				}
				is(t, fmt.Sprintf("Check with entry %d pointing to %d and %d", i, a, b), pool.Check(l), want)
			}
		}
	}
}

// stands asks where a reader is.
func stands(t *testing.T, what string, r *word.Reader, at, left int) {
	t.Helper()
	is(t, what+": At", r.At(), at)
	is(t, what+": Left", r.Left(), left)
}

// reads asks for the pool that comes, and that the reader goes just behind it.
func reads(t *testing.T, what string, r *word.Reader, want poolOf) {
	t.Helper()
	at, left, size := r.At(), r.Left(), len(raw(want))
	l, e := pool.Read(r)
	is(t, what+": its error", e, api.OK)
	hasPool(t, what, l, want)
	stands(t, what, r, at+size, left-size)
}

// readsNone asks for an error, with nothing beside it, and that the reader stays where it is.
func readsNone(t *testing.T, what string, r *word.Reader, want api.Errno) {
	t.Helper()
	at, left := r.At(), r.Left()
	l, e := pool.Read(r)
	is(t, what+": its error", e, want)
	is(t, what+": how many entries", len(l), 0)
	stands(t, what, r, at, left)
}

// within answers a reader that stands at b, which lies within other bytes.
func within(t *testing.T, b []byte) *word.Reader {
	t.Helper()
	r := word.Read(slices.Concat([]byte{0, 1, 9}, b, []byte{0, 1, 1}))
	_, e := r.Bytes(3)
	is(t, "the bytes ahead", e, api.OK)
	return r
}

// 7.1: alone, with bytes behind, and from a place within bytes.
func TestRead(t *testing.T) {
	for what, l := range rightPools() {
		what = "Read of a pool " + what
		reads(t, what, word.Read(raw(l)), l)
		reads(t, what+", with bytes behind", word.Read(append(raw(l), 1, 2, 3, 4, 5, 6, 7, 8, 9)), l)
		r := within(t, raw(l))
		reads(t, what+", within bytes", r, l)
		b, e := r.Bytes(3)
		is(t, what+": what is behind it", e, api.OK)
		hasBytes(t, what+": what is behind it", b, []byte{0, 1, 1})
	}
}

// 7.1: the bytes, written out.
func TestReadOfBytes(t *testing.T) {
	b := []byte{
		0, 9, 1, 0, 1, 'a', 7, 0, 1, 3, 0xff, 0xff, 0xff, 0xfe, 5, 0x80, 0, 0, 0, 0, 0, 0, 1,
		12, 0, 1, 0, 1, 9, 0, 2, 0, 6, 10, 0, 2, 0, 6,
	}
	l := of(utf("a"), class(1), num(-2), long(math.MinInt+1), api.Entry{}, name(1, 1), field(2, 6), method(2, 6))
	reads(t, "Read", word.Read(b), l)
	w := word.Make()
	is(t, "Write", pool.Write(w, l), api.OK)
	hasBytes(t, "Write", w.All(), b)
}

// 7.1: pools one behind the other.
func TestReadOneBehindTheOther(t *testing.T) {
	var b []byte
	var all []poolOf
	for _, l := range rightPools() {
		all = append(all, l)
		b = append(b, raw(l)...)
	}
	r := word.Read(b)
	for i, l := range all {
		reads(t, fmt.Sprintf("Read of pool %d", i), r, l)
	}
	readsNone(t, "Read of no more bytes", r, api.ErrShort)
}

// 7.1, P2: wrong pools, as far as their bytes tell it; the reader stays where it is.
func TestReadOfWrongPools(t *testing.T) {
	for what, x := range wrongPools() {
		if x.told {
			readsNone(t, "Read of a pool "+what, word.Read(raw(x.l)), api.ErrPool)
			readsNone(t, "Read of a pool "+what+", within bytes", within(t, raw(x.l)), api.ErrPool)
		}
	}
}

// 7.1, P2: bytes that end.
func TestReadOfBytesThatEnd(t *testing.T) {
	all := rightPools()
	for _, what := range []string{"with all tags", "with the example's entries", "with a text of 255 bytes", "with a long", "of MaxPool entries"} {
		b := raw(all[what])
		for n := range b {
			readsNone(t, fmt.Sprintf("Read of the first %d bytes of a pool %s", n, what), word.Read(b[:n]), api.ErrShort)
		}
		r := word.Read(append([]byte{1, 2, 3}, b[:len(b)-1]...))
		r.Bytes(3)
		readsNone(t, "Read of a pool "+what+" within bytes, without its last byte", r, api.ErrShort)
	}
}

// 7.1: how many entries there are is told first, whatever comes behind it.
func TestReadOfHowMany(t *testing.T) {
	for _, n := range []int{0, api.MaxPool + 1, api.MaxPool + 2, 2048, 4096, 32768, 65535} {
		for _, more := range [][]byte{nil, {0}, {1}, {2}, {1, 0, 1, 'a'}, raw(filled(2000))[2:]} {
			readsNone(t, fmt.Sprintf("Read of %d entries", n), word.Read(append(two(n), more...)), api.ErrPool)
		}
	}
	for _, n := range []int{2, 3, 255, 256, api.MaxPool} {
		readsNone(t, fmt.Sprintf("Read of %d entries that are not there", n), word.Read(two(n)), api.ErrShort)
	}
}

// 7.1: a tag that there is none of is found ahead of bytes that are missing behind it.
func TestReadTellsWhatIsFoundFirst(t *testing.T) {
	for k := range 256 {
		want := api.ErrPool
		if slices.Contains(tags(), k) {
			want = api.ErrShort
		}
		what := fmt.Sprintf("Read of the tag %d without bytes behind it", k)
		readsNone(t, what, word.Read([]byte{0, 2, byte(k)}), want)
		readsNone(t, what+", and entries missing", word.Read([]byte{0, 9, byte(k)}), want)
		readsNone(t, what+", behind others", word.Read(append(append([]byte{0, 40}, raw(allTags())[2:]...), byte(k))), want)
	}
}

// isOfTheWhole holds if neither how many entries there are nor a tag is wrong, and more entries may come behind.
func isOfTheWhole(l poolOf) bool {
	if len(l) == 0 || len(l) > api.MaxPool-2 || l[len(l)-1].Tag == api.TLong {
		return false
	}
	return !slices.ContainsFunc(l[1:], func(x api.Entry) bool { return x.Tag != 0 && !slices.Contains(tags(), x.Tag) })
}

// 7.1: what only the whole tells comes behind bytes that are missing anywhere, and behind a wrong tag anywhere.
func TestReadAsksOfTheWholeLast(t *testing.T) {
	for what, x := range wrongPools() {
		if !x.told || !isOfTheWhole(x.l) {
			continue
		}
		b := raw(x.l)
		readsNone(t, "Read without the last byte of a pool "+what, word.Read(b[:len(b)-1]), api.ErrShort)
		b = raw(append(x.l.clone(), utf("a"), num(1)))
		readsNone(t, "Read with an entry missing of a pool "+what, word.Read(b[:len(b)-5]), api.ErrShort)
		b = raw(append(x.l.clone(), api.Entry{Tag: 2}, num(1)))
		readsNone(t, "Read with a wrong tag behind a pool "+what, word.Read(b[:len(b)-5]), api.ErrPool)
	}
	readsNone(t, "Read of one text of 65535 bytes, all but one there", word.Read(append([]byte{0, 2, 1, 255, 255}, make([]byte, 65534)...)), api.ErrShort)
	readsNone(t, "Read of a text of wrong bytes, and of no entry behind it", word.Read([]byte{0, 3, 1, 0, 1, 0}), api.ErrShort)
	readsNone(t, "Read of a wrong text, and of a wrong tag behind it", word.Read([]byte{0, 3, 1, 0, 1, 0, 2}), api.ErrPool)
}

// 7.1: a long's second number would be beyond the last; without its bytes these are missed first.
func TestReadOfALongAtTheEnd(t *testing.T) {
	b := []byte{0, 2, 5, 0, 0, 0, 0, 0, 0, 0, 1}
	readsNone(t, "Read of a long at the end", word.Read(b), api.ErrPool)
	readsNone(t, "Read of a long at the end, with more behind", word.Read(append(b, 0, 0, 3, 1)), api.ErrPool)
	for n := 3; n < len(b); n++ {
		readsNone(t, fmt.Sprintf("Read of the first %d bytes of it", n), word.Read(b[:n]), api.ErrShort)
	}
	b[1] = 3
	reads(t, "Read of a long with its second number", word.Read(b), of(long(1), api.Entry{}))
	b[1] = 4
	readsNone(t, "Read of a long, and of one more that is not there", word.Read(b), api.ErrShort)
}

// P2: behind a refusal a reader is as it was, for all of its calls.
func TestReaderBehindARefusal(t *testing.T) {
	r := word.Read([]byte{9, 0, 2, 1, 0, 1, 32, 0, 2, 1, 0, 1, 33})
	r.U(1)
	readsNone(t, "Read of a wrong text", r, api.ErrPool)
	readsNone(t, "Read of it again", r, api.ErrPool)
	b, e := r.Bytes(6)
	is(t, "Bytes behind the refusal", e, api.OK)
	hasBytes(t, "Bytes behind the refusal", b, []byte{0, 2, 1, 0, 1, 32})
	reads(t, "Read of what is behind", r, of(utf("!")))
	readsNone(t, "Read of nothing", r, api.ErrShort)
}

// Rule 2: readers that no call made.
func TestReadOfNoReader(t *testing.T) {
	for _, r := range []*word.Reader{nil, {}, new(word.Reader)} {
		readsNone(t, "Read of no reader", r, api.ErrNil)
	}
	readsNone(t, "Read of a reader of nothing", word.Read(nil), api.ErrShort)
}

// Rule 4: a pool that was read is the caller's own, and so is each of them.
func TestReadHandsOut(t *testing.T) {
	b := raw(allTags())
	first, _ := pool.Read(word.Read(b))
	second, _ := pool.Read(word.Read(b))
	clear(first)
	hasPool(t, "the second", second, allTags())
	hasBytes(t, "the bytes", b, raw(allTags()))
	r := word.Read(b)
	third, _ := pool.Read(r)
	clear(b)
	hasPool(t, "the third, once the bytes were changed", third, allTags())
}

// 7.1: to a writer of nothing, and behind bytes.
func TestWrite(t *testing.T) {
	for what, l := range rightPools() {
		given := l.clone()
		w := word.Make()
		is(t, "Write of a pool "+what, pool.Write(w, l), api.OK)
		hasBytes(t, "Write of a pool "+what, w.All(), raw(l))
		hasPool(t, "what was handed to Write", l, given)
		w = word.Make()
		w.Bytes(1, 2, 3)
		is(t, "Write behind bytes of a pool "+what, pool.Write(w, l), api.OK)
		is(t, "Write twice of a pool "+what, pool.Write(w, l), api.OK)
		hasBytes(t, "Write twice behind bytes of a pool "+what, w.All(), slices.Concat([]byte{1, 2, 3}, raw(l), raw(l)))
		is(t, "U behind it", w.U(2, 258), api.OK)
		is(t, "Len behind it", w.Len(), 5+2*len(raw(l)))
	}
}

// 7.1, P2: of wrong pools nothing is written.
func TestWriteOfWrongPools(t *testing.T) {
	for what, x := range wrongPools() {
		w := word.Make()
		is(t, "Write of a pool "+what, pool.Write(w, x.l), api.ErrPool)
		is(t, "Write of a pool "+what+": Len", w.Len(), 0)
		w.Bytes(1, 2)
		is(t, "Write behind bytes of a pool "+what, pool.Write(w, x.l), api.ErrPool)
		hasBytes(t, "Write behind bytes of a pool "+what, w.All(), []byte{1, 2})
	}
}

// Rule 2: writers that no call made; that comes ahead of a pool that is none.
func TestWriteToNoWriter(t *testing.T) {
	for _, w := range []*word.Writer{nil, {}, new(word.Writer)} {
		for _, l := range []poolOf{of(), allTags(), nil, of(api.Entry{}), of(num(1 << 40))} {
			is(t, fmt.Sprintf("Write to no writer of %v", l), pool.Write(w, l), api.ErrNil)
		}
		is(t, "Len of no writer", w.Len(), 0)
	}
}
