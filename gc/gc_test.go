package gc_test

import (
	"math/rand"
	"slices"
	"testing"

	"larch/api"
)

// Tests of 16.1 and 16.2: ordinary heaps, and those at the edges.

func TestExample(t *testing.T) {
	l, roots := heapOf("a:3 b c"), valuesOf("1")
	reachIs(t, l, roots, []int{1, 3}, api.OK)
	sweepIs(t, l, roots, heapOf("a:3 - c"), 1, api.OK)
	canonIs(t, l, roots, heapOf("a:2 c"), roots, api.OK)
	sameIs(t, l, roots, heapOf("a:3 - c"), roots, true, api.OK)
}

// Heaps by texts: what is reached, the swept heap, how many went, the canon, and its values.
func TestByTexts(t *testing.T) {
	for _, x := range []struct {
		l, roots string
		order    []int
		swept    string
		gone     int
		canon    string
		values   string
	}{
		{"", "", nil, "", 0, "", ""},
		{"", "1 0 -1 i1 l2 n0 t5", nil, "", 0, "", "0 0 0 i1 l2 n0 t5"},
		{"a", "", nil, "", 1, "", ""},
		{"a", "1", []int{1}, "a", 0, "a", "1"},
		{"a", "1 1 1", []int{1}, "a", 0, "a", "1 1 1"},
		{"a b c", "", nil, "", 3, "", ""},
		{"a b c", "2", []int{2}, "- b", 2, "b", "1"},
		{"a b c", "3 1", []int{3, 1}, "a - c", 1, "c a", "1 2"},
		{"a b c", "3 2 1 2 3", []int{3, 2, 1}, "a b c", 0, "c b a", "1 2 3 2 1"},
		{"a - c - - d", "1", []int{1}, "a", 2, "a", "1"},
		{"a - c - - d", "3", []int{3}, "- - c", 2, "c", "1"},
		{"a - c - - d", "2 4 5", nil, "", 3, "", "0 0 0"},
		{"a - c - - d", "6 4", []int{6}, "- - - - - d", 2, "d", "1 0"},
		{"a:1", "1", []int{1}, "a:1", 0, "a:1", "1"},
		{"a:2 b:1", "2", []int{2, 1}, "a:2 b:1", 0, "b:2 a:1", "1"},
		{"a:2 b:3 c:1 d:1", "2", []int{2, 3, 1}, "a:2 b:3 c:1", 1, "b:2 c:3 a:1", "1"},
		{"a:2,3 b:4 c:5 d e", "1", []int{1, 2, 3, 4, 5}, "a:2,3 b:4 c:5 d e", 0, "a:2,3 b:4 c:5 d e", "1"},
		{"a:3,2 b:4 c:5 d e", "1", []int{1, 3, 2, 5, 4}, "a:3,2 b:4 c:5 d e", 0, "a:2,3 c:4 b:5 e d", "1"},
		{"a:4 b:3 c d", "1 2", []int{1, 2, 4, 3}, "a:4 b:3 c d", 0, "a:3 b:4 d c", "1 2"},
		{"a:4,2 b:3 c d", "1 2", []int{1, 2, 4, 3}, "a:4,2 b:3 c d", 0, "a:3,2 b:4 d c", "1 2"},
		{"a:0,4,-1,2,1 - c:2", "1 3", []int{1, 3}, "a:0,4,-1,2,1 - c:2", 0, "a:0,0,0,0,1 c:0", "1 2"},
		{"a:i2,l3,n2,t3 b c", "1", []int{1}, "a:i2,l3,n2,t3", 2, "a:i2,l3,n2,t3", "1"},
		{"a:i2,3 b c:l1,i3,2", "i2 1 l2", []int{1, 3, 2}, "a:i2,3 b c:l1,i3,2", 0, "a:i2,2 c:l1,i3,3 b", "i2 1 l2"},
		{"- - c:5 - e:3", "5", []int{5, 3}, "- - c:5 - e:3", 0, "e:2 c:1", "1"},
	} {
		l, roots := heapOf(x.l), valuesOf(x.roots)
		reachIs(t, l, roots, x.order, api.OK)
		sweepIs(t, l, roots, heapOf(x.swept), x.gone, api.OK)
		canonIs(t, l, roots, heapOf(x.canon), valuesOf(x.values), api.OK)
		asPlain(t, l, roots)
	}
}

// A value of each kind, with numbers at the edges, as a root and as a word.
func TestValues(t *testing.T) {
	for _, text := range []string{"a b:i1 - d:2 e", "a - c - e", "- b c:2 d e:3"} {
		l := heapOf(text)
		for _, kind := range []int{api.KTop, api.KInt, api.KLong, api.KNull, api.KRef, 5, 8, 12, 260, -1, -4, 1<<32 + api.KRef, mostLong, leastLong} {
			for _, n := range []int{0, 1, 2, 3, 4, 5, 6, 7, -1, -2, -5, 4096, 4097, 1<<32 + 1, 1<<32 + 5, 1 << 62, leastLong, leastLong + 1, leastLong + 5, mostLong, mostLong - 1} {
				v := api.Value{Kind: kind, N: n}
				leads := kind == api.KRef && n >= 1 && n <= 5 && l[n-1].Type != ""
				isLed(t, l, v, leads)
				m := with(l, 5, api.Object{Type: "x", Words: []api.Value{{Kind: api.KInt, N: 4}, v, ref(5)}})
				asPlain(t, m, valuesOf("5"))
				asPlain(t, m, []api.Value{v, ref(5), v})
			}
		}
	}
}

// isLed holds a value alone against whether it leads to an object.
func isLed(t *testing.T, l []api.Object, v api.Value, leads bool) {
	t.Helper()
	order, e := plainReach(l, []api.Value{v})
	if e != api.OK || leads != (len(order) > 0) || leads && order[0] != v.N {
		t.Fatalf("%v in %s: %v %v, want %v", v, told(l, nil), order, e, leads)
	}
	asPlain(t, l, []api.Value{v})
	asPlain(t, l, []api.Value{v, v})
}

// All right heaps that are not great, with all roots.
func TestAll(t *testing.T) {
	for what, l := range right() {
		if !isRight(l) {
			t.Fatalf("%s: %s is not right", what, told(l, nil))
		}
		for _, values := range roots() {
			asPlain(t, l, values)
		}
	}
}

// Random heaps, with random values.
func TestRandom(t *testing.T) {
	r := rand.New(rand.NewSource(161))
	for range 6000 {
		l := randomHeap(r, 10, 4)
		asPlain(t, l, randomValues(r, len(l), 3))
	}
	for range 40 {
		l := randomHeap(r, 60, 6)
		asPlain(t, l, randomValues(r, len(l), 5))
	}
}

// small hands out all heaps of two objects, or an object and a free one, with words of a few values.
func small(yield func([]api.Object) bool) {
	words := []string{"", "0", "1", "2", "3", "i1", "1,1", "1,2", "2,1", "2,2", "2,i2", "i1,2", "0,1", "3,2"}
	for _, x := range words {
		for _, y := range words {
			for _, l := range [][]api.Object{{{Type: "a", Words: valuesOf(x)}, {Type: "b", Words: valuesOf(y)}}, {{}, {Type: "b", Words: valuesOf(y)}}} {
				if !yield(l) {
					return
				}
			}
		}
	}
}

func TestSmall(t *testing.T) {
	for l := range small {
		for _, text := range []string{"", "1", "2", "1 2", "2 1", "i1 2", "3 1", "0 2 2"} {
			asPlain(t, l, valuesOf(text))
		}
	}
}

// numbers are those from the first to the last, up or down.
func numbers(first, last int) []int {
	l := []int{first}
	for n := first; n != last; {
		if n < last {
			n++
		} else {
			n--
		}
		l = append(l, n)
	}
	return l
}

func TestGreat(t *testing.T) {
	l := great()
	for what, x := range l {
		if !isRight(x) {
			t.Fatalf("%s is not right", what)
		}
	}
	reachIs(t, l["a chain"], valuesOf("1"), numbers(1, 4096), api.OK)
	reachIs(t, l["a chain"], valuesOf("4000"), numbers(4000, 4096), api.OK)
	reachIs(t, l["a great ring"], valuesOf("3 1"), append([]int{3, 1, 4, 2}, numbers(5, 4096)...), api.OK)
	reachIs(t, l["a chain back"], valuesOf("4096"), numbers(4096, 1), api.OK)
	reachIs(t, l["one that leads to all"], valuesOf("1"), append([]int{1}, numbers(4096, 2)...), api.OK)
	reachIs(t, l["as many words as may be"], valuesOf("2"), numbers(2, 4096), api.OK)
	reachIs(t, l["in one"], valuesOf("1"), []int{1}, api.OK)
	reachIs(t, l["a chain"], slices.Repeat(valuesOf("4096 0 4095"), 50000), []int{4096, 4095}, api.OK)
	for _, x := range l {
		sweepIs(t, x, nil, nil, len(x), api.OK)
		sweepIs(t, x, []api.Value{ref(len(x) + 1)}, nil, len(x), api.OK)
	}
	for _, what := range []string{"a chain", "a great ring", "as many words as may be", "one that leads to all", "in one"} {
		sweepIs(t, l[what], valuesOf("1"), l[what], 0, api.OK)
	}
	sweepIs(t, l["a chain back"], valuesOf("77"), l["a chain back"][:77], 4019, api.OK)
	sweepIs(t, l["a chain"], valuesOf("4096"), append(make([]api.Object, 4095), l["a chain"][4095]), 4095, api.OK)
}

func TestCanonOfGreat(t *testing.T) {
	l := great()
	chain := with(l["a chain"], 4096, api.Object{Type: "c4095", Words: valuesOf("0")})
	canonIs(t, l["a chain"], valuesOf("1"), chain, valuesOf("1"), api.OK)
	canonIs(t, l["a great ring"], valuesOf("1"), l["a great ring"], valuesOf("1"), api.OK)
	canonIs(t, l["in one"], valuesOf("1"), l["in one"], valuesOf("1"), api.OK)
	canonIs(t, l["in one"], valuesOf("0 1 2"), l["in one"], valuesOf("0 1 0"), api.OK)
	var back []api.Object
	for k := range 4096 {
		back = append(back, api.Object{Type: l["a chain back"][4095-k].Type, Words: []api.Value{ref((k + 2) % 4097)}})
	}
	canonIs(t, l["a chain back"], valuesOf("4096"), back, valuesOf("1"), api.OK)
	values := slices.Repeat(valuesOf("0 4096 i7 4097"), 30000)
	end := []api.Object{{Type: "c4095", Words: valuesOf("0")}}
	canonIs(t, l["a chain"], values, end, slices.Repeat(valuesOf("0 1 i7 0"), 30000), api.OK)
	sameIs(t, l["a chain"], valuesOf("1"), chain, valuesOf("1"), true, api.OK)
	sameIs(t, l["a chain"], valuesOf("1"), l["a great ring"], valuesOf("1"), false, api.OK)
	sameIs(t, l["a chain"], values, end, values, false, api.OK)
	sameIs(t, l["a chain"], values, end, slices.Repeat(valuesOf("-1 1 i7 2"), 30000), true, api.OK)
}

// Same, by texts: a heap and values, another one, and whether their canons are alike.
func TestSame(t *testing.T) {
	for _, x := range []struct {
		l, a, m, b string
		want       bool
	}{
		{"", "", "", "", true},
		{"", "", "a b:1", "", true},
		{"a", "0", "b:1", "7", true},
		{"a:3 b c", "1", "a:3 b c", "1", true},
		{"a:3 b c", "1", "a:3 - c", "1", true},
		{"a:3 b c", "1", "a:2 c", "1", true},
		{"a:3 b c", "1", "c b a:1", "3", true},
		{"a:3 b c", "1 3", "c b a:1", "3 1", true},
		{"a:3 b c", "1 3", "c b a:1", "1 3", false},
		{"a:3 b c", "1", "a:3 b c", "1 1", false},
		{"a:3 b c", "1", "a:3 b c", "1 3", false},
		{"a:3 b c", "1", "a:3 b c", "1 0", false},
		{"a:3 b c", "1", "a:3 b c", "", false},
		{"a:3 b c", "1 i3", "a:3 b c", "1 l3", false},
		{"a:3 b c", "1 i3", "a:3 b c", "1 i2", false},
		{"a:3 b c", "1 i3", "a:2 c", "1 i3", true},
		{"a:3 b c", "1", "a:3 b d", "1", false},
		{"a:3 b c", "1", "c:3 b c", "1", false},
		{"a:3 b c", "1", "a:3 x:y c", "1", true},
		{"a:3 b c", "1", "a:3,0 b c", "1", false},
		{"a:3 b c", "1", "a b c", "1", false},
		{"a:3 b c", "1", "a:0 b c", "1", false},
		{"a:3 b c", "1", "a:i3 b c", "1", false},
		{"a:3 b c", "1", "a:2 b c", "1", false},
		{"a:3 b b", "1", "a:2 b b", "1", true},
		{"a:3 b b", "1 2", "a:2 b b", "1 2", false},
		{"a:3 b b", "1 2", "a:2 b b", "1 3", true},
		{"a:i3 b", "1", "a:i2 b", "1", false},
		{"a:i3 b", "1", "a:l3 b", "1", false},
		{"a:0 b", "1", "a:7 b", "1", true},
		{"a:0 b", "1", "a:2 b", "1", false},
		{"a:0 b", "1", "a:n0 b", "1", false},
		{"a b", "1 2", "a a", "1 2", false},
		{"a a", "1 2", "a a", "2 1", true},
		{"a a", "1 1", "a a", "2 2", true},
		{"a a", "1 1", "a a", "1 2", false},
		{"a a", "1 2 1", "a a", "2 1 2", true},
		{"a a", "1 2 1", "a a", "2 1 1", false},
		{"a:1", "1", "a:2 a:1", "1", false},
		{"a:1 a:2", "1 2", "a:2 a:1", "1 2", false},
		{"a:2 a:1", "1 2", "a:2 a:1", "2 1", true},
		{"a:2,3 b c", "1", "a:3,2 c b", "1", true},
		{"a:2,3 b c", "1", "a:3,2 b c", "1", false},
		{"a:2,2 b", "1", "a:2,3 b b", "1", false},
		{"a:2,3 b:4 b:5 c c", "1", "a:2,3 b:4 b:4 c", "1", false},
	} {
		l, m, a, b := heapOf(x.l), heapOf(x.m), valuesOf(x.a), valuesOf(x.b)
		sameIs(t, l, a, m, b, x.want, api.OK)
		sameAsPlain(t, l, a, m, b)
		sameIs(t, l, a, l, a, true, api.OK)
	}
}

// All small heaps against one another, and random ones.
func TestSameOfAll(t *testing.T) {
	var all [][]api.Object
	for l := range small {
		all = append(all, l)
	}
	alikes := 0
	for k, l := range all {
		for i := k % 7; i <= k; i += 7 {
			for _, texts := range [][2]string{{"1", "1"}, {"1", "2"}, {"2", "2"}, {"1 2", "2 1"}} {
				if sameAsPlain(t, l, valuesOf(texts[0]), all[i], valuesOf(texts[1])) {
					alikes++
				}
			}
		}
	}
	if alikes < 100 {
		t.Errorf("just %d were alike", alikes)
	}
	r := rand.New(rand.NewSource(162))
	alikes = 0
	for range 20000 {
		l, m := randomHeap(r, 3, 2), randomHeap(r, 3, 2)
		if sameAsPlain(t, l, randomValues(r, len(l), 2), m, randomValues(r, len(m), 2)) {
			alikes++
		}
	}
	if alikes < 500 {
		t.Errorf("just %d of the random ones were alike", alikes)
	}
}

// A heap in which one thing is another one is the same just where that is not reached.
func TestSameOfChanged(t *testing.T) {
	r := rand.New(rand.NewSource(163))
	differ := 0
	for range 4000 {
		l := randomHeap(r, 7, 4)
		if len(l) == 0 {
			continue
		}
		a := randomValues(r, len(l), 3)
		k := r.Intn(len(l))
		x := api.Object{Type: l[k].Type, Words: slices.Clone(l[k].Words)}
		switch n := len(x.Words); {
		case x.Type == "":
			x.Type = "new"
		case n == 0 || r.Intn(4) == 0:
			x.Type += "'"
		case r.Intn(3) == 0:
			x.Words = x.Words[:n-1]
		case r.Intn(2) == 0:
			x.Words[r.Intn(n)].Kind = r.Intn(6)
		default:
			x.Words[r.Intn(n)].N = r.Intn(len(l) + 2)
		}
		if !sameAsPlain(t, l, a, with(l, k+1, x), a) {
			differ++
		}
	}
	if differ < 500 {
		t.Errorf("just %d differ", differ)
	}
}
