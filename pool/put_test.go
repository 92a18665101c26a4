package pool_test

import (
	"fmt"
	"math"
	"slices"
	"strings"
	"testing"

	"larch/api"
	"larch/pool"
)

func numOf(n int) api.Const      { return api.Const{Tag: api.TInt, N: n} }
func longOf(n int) api.Const     { return api.Const{Tag: api.TLong, N: n} }
func classOf(s string) api.Const { return api.Const{Tag: api.TClass, Class: s} }

func fieldOf(class, name, kind string) api.Const {
	return api.Const{Tag: api.TField, Class: class, Name: name, Type: kind}
}

func methodOf(class, name, kind string) api.Const {
	return api.Const{Tag: api.TMethod, Class: class, Name: name, Type: kind}
}

// noNumbers are numbers that no entry of a list has, and those of its zero entries.
func noNumbers(l poolOf) []int {
	all := []int{-1, -2, len(l), len(l) + 1, 65536 + 1, 1<<32 + 1, math.MinInt, math.MinInt + 1, math.MaxInt}
	for i, x := range l {
		if x.Tag == 0 {
			all = append(all, i)
		}
	}
	return all
}

// hasText asks for what Text answers.
func hasText(t *testing.T, l poolOf, i int, want string, wanted api.Errno) {
	t.Helper()
	s, e := pool.Text(l, i)
	is(t, fmt.Sprintf("Text(%v, %d): its error", l, i), e, wanted)
	is(t, fmt.Sprintf("Text(%v, %d)", l, i), s, want)
}

// hasConst asks for what Const answers.
func hasConst(t *testing.T, l poolOf, i int, want api.Const, wanted api.Errno) {
	t.Helper()
	c, e := pool.Const(l, i)
	is(t, fmt.Sprintf("Const(%v, %d): its error", l, i), e, wanted)
	is(t, fmt.Sprintf("Const(%v, %d)", l, i), c, want)
}

// puts asks for what Put answers: the entries that are put behind l, and the number; and that l stays as it is.
func puts(t *testing.T, l poolOf, c api.Const, want int, more ...api.Entry) poolOf {
	t.Helper()
	given, what := l.clone(), fmt.Sprintf("Put(%v, %v)", l, c)
	got, i, e := pool.Put(l, c)
	is(t, what+": its error", e, api.OK)
	is(t, what+": the number", i, want)
	hasPool(t, what, got, append(l.clone(), more...))
	hasPool(t, what+": what was handed in", l, given)
	return got
}

// putsNone asks for an error, with nothing beside it.
func putsNone(t *testing.T, l poolOf, c api.Const, want api.Errno) {
	t.Helper()
	given, what := l.clone(), fmt.Sprintf("Put(%v, %v)", l, c)
	got, i, e := pool.Put(l, c)
	is(t, what+": its error", e, want)
	is(t, what+": the number", i, 0)
	is(t, what+": how many entries", len(got), 0)
	hasPool(t, what+": what was handed in", l, given)
}

// Example 1; and example 4 of the whole.
func TestExample(t *testing.T) {
	puts(t, of(), methodOf("a", "b", "()V"), 6, utf("a"), class(1), utf("b"), utf("()V"), name(3, 4), method(2, 5))
}

// 7.2: each entry of a pool with all tags.
func TestTextAndConst(t *testing.T) {
	l := allTags()
	texts := map[int]string{2: "a/B", 8: "()V", 11: "run", 12: "x", 13: "I"}
	consts := map[int]api.Const{
		1: methodOf("a/B", "run", "()V"), 3: numOf(-7), 4: fieldOf("a/B", "x", "I"), 5: classOf("a/B"), 6: longOf(-5),
		14: classOf("x"), 15: longOf(math.MaxInt),
	}
	for i := range l {
		if s, there := texts[i]; there {
			hasText(t, l, i, s, api.OK)
		} else {
			hasText(t, l, i, "", api.ErrArg)
		}
		if c, there := consts[i]; there {
			hasConst(t, l, i, c, api.OK)
		} else {
			hasConst(t, l, i, api.Const{}, api.ErrArg)
		}
	}
	hasPool(t, "what was handed in", l, allTags())
}

// 7.2: numbers that no entry has.
func TestTextAndConstOfNoEntry(t *testing.T) {
	for _, l := range []poolOf{allTags(), of(), of(long(1), api.Entry{}), of(utf("a")), filled(api.MaxPool)} {
		for _, i := range noNumbers(l) {
			hasText(t, l, i, "", api.ErrArg)
			hasConst(t, l, i, api.Const{}, api.ErrArg)
		}
	}
}

// 7.2: texts, ints and longs at their edges.
func TestTextAndConstAtTheEdges(t *testing.T) {
	for _, s := range []string{"", "!", "~", strings.Repeat("~", 255)} {
		hasText(t, of(utf(s)), 1, s, api.OK)
		hasConst(t, of(utf(s), class(1)), 2, classOf(s), api.OK)
		hasConst(t, of(utf(s), class(1), name(1, 1), field(2, 3)), 4, fieldOf(s, s, s), api.OK)
	}
	for _, n := range []int{math.MinInt32, -1, 0, 1, math.MaxInt32} {
		hasConst(t, of(num(n)), 1, numOf(n), api.OK)
	}
	for _, n := range []int{math.MinInt, math.MinInt32 - 1, -1, 0, 1, math.MaxInt32 + 1, math.MaxInt} {
		hasConst(t, of(long(n), api.Entry{}), 1, longOf(n), api.OK)
	}
}

// 7.2, 7.3: a pool that is none is told ahead of a number and of a constant that may not be.
func TestCallsOfWrongPools(t *testing.T) {
	for what, x := range wrongPools() {
		given := x.l.clone()
		for _, i := range []int{-1, 0, 1, 2, len(x.l) - 1, len(x.l), math.MaxInt, math.MinInt} {
			s, e := pool.Text(x.l, i)
			is(t, fmt.Sprintf("Text(%d) of a pool %s: its error", i, what), e, api.ErrPool)
			is(t, fmt.Sprintf("Text(%d) of a pool %s", i, what), s, "")
			c, e := pool.Const(x.l, i)
			is(t, fmt.Sprintf("Const(%d) of a pool %s: its error", i, what), e, api.ErrPool)
			is(t, fmt.Sprintf("Const(%d) of a pool %s", i, what), c, api.Const{})
		}
		for _, c := range []api.Const{numOf(7), classOf("a"), methodOf("a", "b", "()V"), numOf(1 << 40), {}, classOf(" ")} {
			got, i, e := pool.Put(x.l, c)
			is(t, fmt.Sprintf("Put(%v) into a pool %s: its error", c, what), e, api.ErrPool)
			is(t, fmt.Sprintf("Put(%v) into a pool %s: the number", c, what), i, 0)
			is(t, fmt.Sprintf("Put(%v) into a pool %s: how many entries", c, what), len(got), 0)
		}
		hasPool(t, "what was handed in, a pool "+what, x.l, given)
	}
}

// 7.3: each kind of constant, into a pool of the zero entry alone.
func TestPutIntoNothing(t *testing.T) {
	for _, n := range []int{math.MinInt32, -1, 0, 1, math.MaxInt32} {
		puts(t, of(), numOf(n), 1, num(n))
	}
	for _, n := range []int{math.MinInt, math.MinInt32 - 1, -1, 0, 1, math.MaxInt32 + 1, math.MaxInt} {
		puts(t, of(), longOf(n), 1, long(n), api.Entry{})
	}
	for _, s := range []string{"", "a", "!~", strings.Repeat("~", 255)} {
		puts(t, of(), classOf(s), 2, utf(s), class(1))
	}
	puts(t, of(), fieldOf("a", "b", "I"), 6, utf("a"), class(1), utf("b"), utf("I"), name(3, 4), field(2, 5))
	puts(t, of(), methodOf("a", "b", "I"), 6, utf("a"), class(1), utf("b"), utf("I"), name(3, 4), method(2, 5))
}

// 7.3: texts of one constant that are the same, empty ones among them, are put once.
func TestPutOfTheSameTexts(t *testing.T) {
	puts(t, of(), fieldOf("a", "a", "a"), 4, utf("a"), class(1), name(1, 1), field(2, 3))
	puts(t, of(), fieldOf("", "", ""), 4, utf(""), class(1), name(1, 1), field(2, 3))
	puts(t, of(), methodOf("a", "b", "b"), 5, utf("a"), class(1), utf("b"), name(3, 3), method(2, 4))
	puts(t, of(), methodOf("a", "a", "b"), 5, utf("a"), class(1), utf("b"), name(1, 3), method(2, 4))
	puts(t, of(), methodOf("a", "b", "a"), 5, utf("a"), class(1), utf("b"), name(3, 1), method(2, 4))
	puts(t, of(), methodOf("a", "", "I"), 6, utf("a"), class(1), utf(""), utf("I"), name(3, 4), method(2, 5))
}

// 7.3: constants that are there already.
func TestPutOfWhatIsThere(t *testing.T) {
	l := allTags()
	for i := range l {
		if c, e := pool.Const(l, i); e == api.OK {
			puts(t, l, c, i)
		}
	}
	full := append(append(of(), slices.Repeat([]api.Entry{num(7)}, api.MaxPool-6)...), num(8), long(9), api.Entry{}, utf("a"), class(api.MaxPool-2))
	is(t, "a full pool: how many entries", len(full), api.MaxPool)
	puts(t, full, numOf(7), 1)
	puts(t, full, numOf(8), api.MaxPool-5)
	puts(t, full, longOf(9), api.MaxPool-4)
	puts(t, full, classOf("a"), api.MaxPool-1)
}

// 7.3: a part of the texts and entries of a method is there, in all ways; the others are put in order.
func TestPutOfWhatIsThereInPart(t *testing.T) {
	c := methodOf("a", "b", "()V")
	puts(t, of(utf("a")), c, 6, class(1), utf("b"), utf("()V"), name(3, 4), method(2, 5))
	puts(t, of(utf("b")), c, 6, utf("a"), class(2), utf("()V"), name(1, 4), method(3, 5))
	puts(t, of(utf("()V")), c, 6, utf("a"), class(2), utf("b"), name(4, 1), method(3, 5))
	puts(t, of(utf("b"), utf("a")), c, 6, class(2), utf("()V"), name(1, 4), method(3, 5))
	puts(t, of(utf("()V"), utf("a")), c, 6, class(2), utf("b"), name(4, 1), method(3, 5))
	puts(t, of(utf("()V"), utf("b")), c, 6, utf("a"), class(3), name(2, 1), method(4, 5))
	puts(t, of(utf("()V"), utf("b"), utf("a")), c, 6, class(3), name(2, 1), method(4, 5))
	puts(t, of(utf("a"), class(1)), c, 6, utf("b"), utf("()V"), name(3, 4), method(2, 5))
	puts(t, of(class(2), utf("a"), utf("b")), c, 6, utf("()V"), name(3, 4), method(1, 5))
	puts(t, of(class(2), utf("a"), utf("()V"), utf("b")), c, 6, name(4, 3), method(1, 5))
	puts(t, of(utf("b"), utf("()V"), name(1, 2)), c, 6, utf("a"), class(4), method(5, 3))
	puts(t, of(name(2, 3), utf("b"), utf("()V"), utf("a")), c, 6, class(4), method(5, 1))
	puts(t, of(class(2), utf("a"), name(4, 5), utf("b"), utf("()V")), c, 6, method(1, 3))
	puts(t, of(utf("a"), class(1), utf("b"), utf("()V"), name(3, 4), field(2, 5)), c, 7, method(2, 5))
	puts(t, of(utf("a")), classOf("a"), 2, class(1))
	puts(t, of(utf("A")), classOf("a"), 3, utf("a"), class(2))
}

// 7.3: what is there, but is not quite what is put.
func TestPutOfWhatIsNearlyThere(t *testing.T) {
	l := of(utf("a"), class(1), utf("b"), utf("()V"), name(3, 4), method(2, 5))
	puts(t, l, fieldOf("a", "b", "()V"), 7, field(2, 5))
	puts(t, l, methodOf("b", "b", "()V"), 8, class(3), method(7, 5))
	puts(t, l, methodOf("a", "a", "()V"), 8, name(1, 4), method(2, 7))
	puts(t, l, methodOf("a", "b", "b"), 8, name(3, 3), method(2, 7))
	puts(t, l, methodOf("a", "()V", "b"), 8, name(4, 3), method(2, 7))
	puts(t, l, methodOf("a", "c", "()V"), 9, utf("c"), name(7, 4), method(2, 8))
	puts(t, of(num(5)), longOf(5), 2, long(5), api.Entry{})
	puts(t, of(long(5), api.Entry{}), numOf(5), 3, num(5))
	puts(t, of(num(5)), numOf(-5), 2, num(-5))
	puts(t, of(num(0)), longOf(0), 2, long(0), api.Entry{})
	puts(t, of(long(3), api.Entry{}), classOf(""), 4, utf(""), class(3))
}

// 7.3: several entries mean the constant: the first of them, in the pool's order, counts; so with texts.
func TestPutOfWhatSeveralMean(t *testing.T) {
	puts(t, of(num(1), num(2), num(2), num(1)), numOf(2), 2)
	puts(t, of(long(2), api.Entry{}, num(2), long(2), api.Entry{}, num(2)), numOf(2), 3)
	puts(t, of(utf("a"), utf("a"), class(2), class(1)), classOf("a"), 3)
	puts(t, of(class(4), class(3), utf("a"), utf("a")), classOf("a"), 1)
	puts(t, of(utf("b"), utf("a"), utf("a")), classOf("a"), 4, class(2))
	twice := of(utf("a"), utf("b"), utf("a"), utf("b"), class(3), class(1), name(4, 4), name(2, 2))
	puts(t, twice, fieldOf("a", "b", "b"), 9, field(5, 7))
	puts(t, append(twice, field(6, 8), field(5, 7)), fieldOf("a", "b", "b"), 9)
	puts(t, append(twice, method(6, 8), field(6, 7), field(5, 7)), fieldOf("a", "b", "b"), 10)
	puts(t, twice, fieldOf("b", "a", "b"), 11, class(2), name(1, 2), field(9, 10))
}

// noConsts are constants that no entry means.
func noConsts() []api.Const {
	l := []api.Const{
		{}, {N: 1}, {Class: "a"}, {Class: "a", Name: "b", Type: "I"}, {Tag: api.TUtf8}, {Tag: api.TUtf8, Class: "a"},
		{Tag: api.TUtf8, Name: "a"}, {Tag: api.TName}, {Tag: api.TName, Name: "b", Type: "()V"},
		numOf(math.MaxInt32 + 1), numOf(math.MinInt32 - 1), numOf(1 << 32), numOf(math.MaxInt), numOf(math.MinInt),
	}
	for _, k := range noTags() {
		l = append(l, api.Const{Tag: k}, api.Const{Tag: k, N: 7}, api.Const{Tag: k, Class: "a", Name: "b", Type: "()V"})
	}
	for _, n := range []int{0, 7} {
		for _, k := range []int{api.TInt, api.TLong} {
			l = append(l, api.Const{Tag: k, N: n, Class: "a"}, api.Const{Tag: k, N: n, Name: "a"}, api.Const{Tag: k, N: n, Type: "a"})
		}
	}
	for _, c := range []api.Const{classOf("a"), fieldOf("a", "b", "I"), methodOf("a", "b", "()V")} {
		c.N = 1
		l = append(l, c)
		c.N = math.MinInt
		l = append(l, c)
	}
	l = append(l, api.Const{Tag: api.TClass, Class: "a", Name: "b"}, api.Const{Tag: api.TClass, Class: "a", Type: "I"}, api.Const{Tag: api.TClass, Name: "a"})
	for _, s := range []string{strings.Repeat("a", 256), strings.Repeat("a", 70000), " ", "a b", "a\x7f", "\x00", "\x80", "ä", "\n", "a\xff"} {
		l = append(l, classOf(s), fieldOf(s, "b", "I"), fieldOf("a", s, "I"), fieldOf("a", "b", s))
		l = append(l, methodOf(s, "b", "I"), methodOf("a", s, "I"), methodOf("a", "b", s))
	}
	return l
}

// 7.3.
func TestPutOfNoConstant(t *testing.T) {
	for _, c := range noConsts() {
		putsNone(t, of(), c, api.ErrArg)
		putsNone(t, allTags(), c, api.ErrArg)
	}
}

// 7.3: a constant that no entry means is told ahead of a pool that has no room for it.
func TestPutOfNoConstantIntoAFullPool(t *testing.T) {
	full := filled(api.MaxPool)
	for _, c := range noConsts() {
		_, i, e := pool.Put(full, c)
		is(t, fmt.Sprintf("Put(%v) into a full pool: its error", c), e, api.ErrArg)
		is(t, fmt.Sprintf("Put(%v) into a full pool: the number", c), i, 0)
	}
}

// 7.3: constants, and how many entries more they make in a pool that has nothing of them.
func TestPutAtTheBound(t *testing.T) {
	needs := map[api.Const]int{
		numOf(1): 1, longOf(1): 2, classOf("a"): 2, fieldOf("a", "b", "I"): 6, methodOf("a", "b", "I"): 6,
		methodOf("a", "a", "a"): 4,
	}
	for c, need := range needs {
		for size := api.MaxPool - 8; size <= api.MaxPool; size++ {
			l := filled(size)
			if size+need > api.MaxPool {
				putsNone(t, l, c, api.ErrLong)
				continue
			}
			got, i, e := pool.Put(l, c)
			what := fmt.Sprintf("Put(%v) into %d entries", c, size)
			is(t, what+": its error", e, api.OK)
			is(t, what+": how many entries", len(got), size+need)
			is(t, what+": Check", pool.Check(got), api.OK)
			hasConst(t, got, i, c, api.OK)
		}
	}
}

// 7.3: with a part of it there, it needs less.
func TestPutInPartAtTheBound(t *testing.T) {
	have := of(class(2), utf("a"), name(4, 5), utf("b"), utf("I"))
	just := append(have, filled(api.MaxPool - len(have))[1:]...)
	is(t, "how many entries", len(just), api.MaxPool-1)
	puts(t, just, methodOf("a", "b", "I"), api.MaxPool-1, method(1, 3))
	puts(t, just, classOf("b"), api.MaxPool-1, class(4))
	putsNone(t, just, methodOf("b", "b", "I"), api.ErrLong)
	putsNone(t, just, methodOf("a", "a", "I"), api.ErrLong)
	putsNone(t, just, classOf("c"), api.ErrLong)
	full := append(just.clone(), num(7))
	putsNone(t, full, methodOf("a", "b", "I"), api.ErrLong)
	putsNone(t, full, classOf("b"), api.ErrLong)
	puts(t, full, classOf("a"), 1)
}

// Rule 4: what Put hands out is the caller's own, also if nothing was put; what is handed in is not kept.
func TestPutHandsOut(t *testing.T) {
	for _, c := range []api.Const{classOf("a"), classOf("b"), longOf(3)} {
		room := make(poolOf, 3, 20)
		copy(room, of(utf("a"), class(1)))
		behind := room[:20]
		got, _, _ := pool.Put(room, c)
		hasPool(t, "what lies behind what was handed in", behind[3:], make(poolOf, 17))
		want := slices.Clone(got)
		clear(room)
		hasPool(t, "once what was handed in was changed", got, want)
		room = of(utf("a"), class(1))
		got, _, _ = pool.Put(room, c)
		clear(got)
		_ = append(got, num(1), num(2), num(3))
		hasPool(t, "once what was handed out was changed", room, of(utf("a"), class(1)))
	}
}

// Rule 4: two answers share nothing.
func TestPutTwiceApart(t *testing.T) {
	l := of(utf("a"), class(1))
	first, _, _ := pool.Put(l, numOf(1))
	second, _, _ := pool.Put(l, numOf(2))
	third, _, _ := pool.Put(first, numOf(3))
	fourth, _, _ := pool.Put(first, numOf(4))
	hasPool(t, "the first", first, of(utf("a"), class(1), num(1)))
	hasPool(t, "the second", second, of(utf("a"), class(1), num(2)))
	hasPool(t, "the third", third, of(utf("a"), class(1), num(1), num(3)))
	hasPool(t, "the fourth", fourth, of(utf("a"), class(1), num(1), num(4)))
}
