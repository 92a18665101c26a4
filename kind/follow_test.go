package kind_test

import (
	"math/rand"
	"slices"
	"strconv"
	"testing"

	"larch/api"
	"larch/kind"
)

// Tests of what follows: 10.3 to 10.6.

func TestLeadBack(t *testing.T) {
	r := rand.New(rand.NewSource(103))
	read, told := 0, 0
	for range 50000 {
		s := mutated(r, randomDesc(r))
		if x, e := kind.Parse(s); e == api.OK {
			read++
			if again, e := kind.Print(x); again != s || e != api.OK {
				t.Fatalf("Print of what Parse(%q) reads: %q %v", s, again, e)
			}
		}
		x := api.Type{Kind: r.Intn(7) - 1, Name: []string{"", s, mutated(r, randomName(r))}[r.Intn(3)]}
		if s, e := kind.Print(x); e == api.OK {
			told++
			if again, e := kind.Parse(s); again != x || e != api.OK {
				t.Fatalf("Parse of what Print(%v) tells: %v %v", x, again, e)
			}
		}
	}
	if read < 1000 || told < 1000 {
		t.Errorf("just %d were read, and %d told", read, told)
	}
}

// upwardList makes a list whose classes go up to an end: each names one behind it, or one that is not there, or none. Object, if it is there, is the end.
func upwardList(r *rand.Rand, n int) []api.Class {
	var l []api.Class
	for i := range n {
		super := []string{"", "Object", "none", "n" + strconv.Itoa(i+1+r.Intn(n))}[min(r.Intn(8), 3)]
		l = append(l, api.Class{Name: "n" + strconv.Itoa(i), Super: super})
	}
	if r.Intn(2) == 0 {
		l = append(l, api.Class{Name: "Object"})
	}
	r.Shuffle(len(l), func(i, k int) { l[i], l[k] = l[k], l[i] })
	return l
}

func TestOrder(t *testing.T) {
	r := rand.New(rand.NewSource(104))
	types := []api.Type{of(api.KTop), of(api.KInt), of(api.KLong), of(api.KNull), ref("[I"), ref("[J"), ref("[B"), ref("[[I"), ref("[[B"), ref("Object"), ref("none"), ref("[LObject;"), ref("[[LObject;")}
	for i := range 8 {
		name := "n" + strconv.Itoa(i)
		types = append(types, ref(name), ref("[L"+name+";"), ref("[[L"+name+";"))
	}
	for range 100 {
		l := upwardList(r, 8)
		for _, x := range types {
			if !kind.May(l, x, x) {
				t.Fatalf("%v may not stand for itself", x)
			}
			below := slices.DeleteFunc(slices.Clone(types), func(w api.Type) bool { return !kind.May(l, w, x) })
			over := slices.DeleteFunc(slices.Clone(types), func(y api.Type) bool { return !kind.May(l, x, y) })
			for _, w := range below {
				for _, y := range over {
					if !kind.May(l, w, y) {
						t.Fatalf("with %v: %v may stand for %v, that for %v, but the first not for the last", l, w, x, y)
					}
				}
			}
		}
	}
}

func TestAboveEnds(t *testing.T) {
	r := rand.New(rand.NewSource(105))
	for range 3000 {
		n := 1 + r.Intn(90)
		l := make([]api.Class, n)
		for i := range l {
			l[i] = api.Class{Name: strconv.Itoa(r.Intn(n)), Super: strconv.Itoa(r.Intn(n + n/8))}
		}
		name := strconv.Itoa(r.Intn(n))
		up := kind.Above(l, name)
		slices.Sort(up)
		if len(slices.Compact(up)) != len(up) || slices.Contains(up, name) || len(up) > n {
			t.Fatalf("Above(%v, %s): %v", l, name, up)
		}
	}
}

func TestElementsLeadBack(t *testing.T) {
	r := rand.New(rand.NewSource(106))
	done := 0
	for range 20000 {
		s := randomDesc(r)
		x, e := kind.Parse(s)
		list, f := kind.Parse("[" + s)
		if e != api.OK || f != api.OK {
			continue
		}
		done++
		if y, e := kind.Elem(list); y != x || e != api.OK {
			t.Fatalf("the elements of [%s: %v %v, want %v", s, y, e, x)
		}
	}
	if done < 1000 {
		t.Errorf("just %d arrays", done)
	}
}
