package shape_test

import (
	"math/rand"
	"slices"
	"testing"

	"larch/api"
	"larch/kind"
	"larch/shape"
)

// Tests of what follows: 11.3 to 11.6.

// stronger answers types that may stand for those of b, each in its place, but no long for a KTop, which is another width.
func stronger(r *rand.Rand, list []api.Class, b, all []api.Type) []api.Type {
	var a []api.Type
	for _, y := range b {
		x := y
		for range r.Intn(60) {
			z := pick(r, all)
			if kind.May(list, z, y) && (z.Kind != api.KLong || y.Kind == api.KLong) {
				x = z
			}
		}
		a = append(a, x)
	}
	return a
}

// 11.3
func TestWeaker(t *testing.T) {
	r := rand.New(rand.NewSource(113))
	all, c, types := ops(known), manyConstants(), types(allTypes)
	done, others := map[int]int{}, 0
	for range 150000 {
		k, b := randomStep(r, all, c)
		to, e := shape.Step(k.list, k.class, k.back, k.instr, b, k.most)
		if e != api.OK {
			continue
		}
		a := api.Frame{Locals: stronger(r, k.list, b.Locals, types), Stack: stronger(r, k.list, b.Stack, types)}
		if !shape.May(k.list, a, b) {
			t.Fatalf("%v may not stand for %v", a, b)
		}
		from, e := shape.Step(k.list, k.class, k.back, k.instr, a, k.most)
		if e != api.OK || !shape.May(k.list, from, to) {
			t.Fatalf("%v with %v: of %s comes %s, but of %s %s %v", k.instr, k.list, frameText(b), frameText(to), frameText(a), frameText(from), e)
		}
		done[k.instr.Op]++
		if !same(a, b) {
			others++
		}
	}
	for _, op := range all {
		if done[op] < 20 {
			t.Errorf("%d was done just %d times", op, done[op])
		}
	}
	if others < 10000 {
		t.Errorf("just %d frames were others", others)
	}
}

// 11.4 and 11.5
func TestSizes(t *testing.T) {
	r := rand.New(rand.NewSource(114))
	all, c := ops(known), manyConstants()
	grown := map[int]int{}
	for range 100000 {
		k, f := randomStep(r, all, c)
		g, e := shape.Step(k.list, k.class, k.back, k.instr, f, k.most)
		if e != api.OK {
			continue
		}
		if len(g.Locals) != len(f.Locals) {
			t.Fatalf("%v: %d locals, and %d behind it", k.instr, len(f.Locals), len(g.Locals))
		}
		if shape.Words(g) > k.most {
			t.Fatalf("%v: %d words, of %d that there may be", k.instr, shape.Words(g), k.most)
		}
		more := shape.Words(g) - shape.Words(f)
		if more > 2 && (k.instr.Op < 182 || k.instr.Op > 184) {
			t.Fatalf("%v of %v: %d words more", k.instr, f, more)
		}
		grown[more]++
	}
	if grown[2] < 1000 || grown[1] < 1000 || grown[-3] < 1000 {
		t.Errorf("how much stacks grew: %v", grown)
	}
}

// randomFrame makes a frame of so many types.
func randomFrame(r *rand.Rand, types []api.Type, locals, stack int) api.Frame {
	var f api.Frame
	for range locals {
		f.Locals = append(f.Locals, pick(r, types))
	}
	for range stack {
		f.Stack = append(f.Stack, pick(r, types))
	}
	return f
}

// 11.6: each frame may stand for itself, whatever its types and the list.
func TestMayOfItself(t *testing.T) {
	r := rand.New(rand.NewSource(116))
	all := append(types(allTypes), api.Type{Kind: 7}, api.Type{Kind: -1, Name: "a"}, ref(""), ref("[V"), api.Type{Kind: api.KInt, Name: "a"})
	lists := [][]api.Class{nil, family(), classes("a<b b<a"), classes("a<a"), classes("Object<a a<Object a<b")}
	for range 20000 {
		f := randomFrame(r, all, r.Intn(6), r.Intn(6))
		if !shape.May(pick(r, lists), f, f) {
			t.Fatalf("%v may not stand for itself", f)
		}
	}
	if !shape.May(nil, api.Frame{}, api.Frame{Locals: []api.Type{}, Stack: []api.Type{}}) {
		t.Error("an empty frame may not stand for one without lists")
	}
}

// 11.6: what may stand for a frame that may stand for a third may stand for that, with lists that go up to an end.
func TestOrder(t *testing.T) {
	r := rand.New(rand.NewSource(117))
	all := types(allTypes)
	others := 0
	for range 30000 {
		l := randomList(r)
		c := randomFrame(r, all, r.Intn(4), r.Intn(4))
		b := api.Frame{Locals: stronger(r, l, c.Locals, all), Stack: stronger(r, l, c.Stack, all)}
		a := api.Frame{Locals: stronger(r, l, b.Locals, all), Stack: stronger(r, l, b.Stack, all)}
		if !shape.May(l, a, b) || !shape.May(l, b, c) || !shape.May(l, a, c) {
			t.Fatalf("with %v: %v, %v, %v", l, a, b, c)
		}
		if !same(a, b) && !same(b, c) {
			others++
		}
	}
	if others < 1000 {
		t.Errorf("just %d were others", others)
	}
}

// All pairs of frames of one type: a third one leads nowhere else.
func TestOrderOfEachType(t *testing.T) {
	l, all := family(), types(allTypes)
	one := func(x api.Type) api.Frame { return api.Frame{Stack: []api.Type{x}, Locals: []api.Type{x}} }
	for _, x := range all {
		above := slices.DeleteFunc(slices.Clone(all), func(y api.Type) bool { return !shape.May(l, one(x), one(y)) })
		for _, y := range above {
			for _, z := range all {
				if shape.May(l, one(y), one(z)) && !shape.May(l, one(x), one(z)) {
					t.Errorf("%v may stand for %v, that for %v", x, y, z)
				}
			}
		}
	}
}
