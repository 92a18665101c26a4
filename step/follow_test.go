package step_test

import (
	"math/rand"
	"slices"
	"testing"

	"larch/api"
	"larch/call"
	"larch/code"
	"larch/kind"
	"larch/link"
	"larch/step"
	"larch/verify"
)

// Tests of 18.3 to 18.6: what follows.

// plainFits holds if a value is of a type, with a heap.
func plainFits(all []api.Class, l []api.Object, v api.Value, x api.Type) bool {
	null := api.Value{Kind: api.KRef}
	switch x.Kind {
	case api.KTop:
		return true
	case api.KInt:
		return v.Kind == api.KInt && v.N >= leastInt && v.N <= mostInt
	case api.KLong:
		return v.Kind == api.KLong
	case api.KNull:
		return v == null
	}
	if v.Kind != api.KRef || v.N < 0 || v.N > len(l) || v.N > 0 && l[v.N-1].Type == "" {
		return false
	}
	return v.N == 0 || plainStands(all, l[v.N-1].Type, x.Name)
}

// wordTypes answers the types of an object's words, of which an array has so many.
func wordTypes(all []api.Class, name string, n int) []api.Type {
	var l []api.Type
	if name[0] == '[' {
		x, _ := kind.Elem(classType(name))
		return slices.Repeat([]api.Type{x}, n)
	}
	for _, f := range plainFields(all, name) {
		x, _ := kind.Parse(f.Type)
		l = append(l, x)
	}
	return l
}

// staticTypes are the types of a program's statics.
func staticTypes(p *link.Program) []api.Type {
	var l []api.Type
	for _, f := range p.Statics() {
		x, _ := kind.Parse(f.Type)
		l = append(l, x)
	}
	return l
}

// wordsFit holds if all words of a heap, and all statics, fit.
func wordsFit(p *link.Program, l []api.Object, statics []api.Value) bool {
	all := allOf(p)
	fit := func(v api.Value, x api.Type) bool { return plainFits(all, l, v, x) }
	for _, x := range l {
		if x.Type != "" && !slices.EqualFunc(x.Words, wordTypes(all, x.Type, len(x.Words)), fit) {
			return false
		}
		if x.Type == "[B" && slices.ContainsFunc(x.Words, func(v api.Value) bool { return v.N < -128 || v.N > 127 }) {
			return false
		}
	}
	return slices.EqualFunc(statics, staticTypes(p), fit)
}

// randomFit is a value of a type.
func randomFit(r *rand.Rand, all []api.Class, l []api.Object, x api.Type) api.Value {
	n := pick(r, []int{0, 0, 0, 1, 1, 2, -1, -2, 3, 5, 127, -128, mostInt, leastInt, r.Intn(1 << 20)})
	switch x.Kind {
	case api.KTop: // whatever it is, it fits
		return api.Value{Kind: r.Intn(6), N: n}
	case api.KInt:
		return api.Value{Kind: api.KInt, N: n}
	case api.KLong:
		return api.Value{Kind: api.KLong, N: pick(r, []int{n, n, mostLong, leastLong, 1 << 32, r.Int()})}
	case api.KNull:
		return api.Value{Kind: api.KRef}
	}
	numbers := []int{0}
	for k := range l {
		if v := (api.Value{Kind: api.KRef, N: k + 1}); plainFits(all, l, v, x) {
			numbers = append(numbers, k+1, k+1)
		}
	}
	return api.Value{Kind: api.KRef, N: pick(r, numbers)}
}

// randomFits are values of types.
func randomFits(r *rand.Rand, all []api.Class, l []api.Object, types []api.Type) []api.Value {
	var out []api.Value
	for _, x := range types {
		out = append(out, randomFit(r, all, l, x))
	}
	return out
}

// randomScene is a heap and statics that fit.
func randomScene(r *rand.Rand, p *link.Program) scene {
	all := allOf(p)
	names := []string{"a", "b", "c", "other", "Bad", "Worse", "side", "Throwable", "Null", "Object", "Main", "[I", "[J", "[B", "[La;", "[Lb;", "[[I", "[[La;", "[LObject;", "nowhere", "[Lnowhere;"}
	var l []api.Object
	for range r.Intn(24) {
		if r.Intn(8) == 0 {
			l = append(l, api.Object{})
		}
		l = append(l, api.Object{Type: pick(r, names)})
	}
	for k, x := range l {
		if x.Type != "" {
			l[k].Words = randomFits(r, all, l, wordTypes(all, x.Type, r.Intn(5)))
		}
		for i := range l[k].Words {
			if x.Type == "[B" {
				l[k].Words[i].N = r.Intn(256) - 128
			}
		}
	}
	return scene{heap: l, statics: randomFits(r, all, l, staticTypes(p))}
}

// differs counts the objects in which two heaps differ.
func differs(l, m []api.Object) int {
	n := 0
	for k := range max(len(l), len(m)) {
		if !sameObjects(slices.Clone(l[min(k, len(l)):min(k+1, len(l))]), m[min(k, len(m)):min(k+1, len(m))]) {
			n++
		}
	}
	return n
}

// ground is a program with what the verifier knows of b's method, by the places of its instructions.
type ground struct {
	*link.Program
	all    []api.Class
	frames map[int]api.Frame
	places []int
}

func groundOf(p *link.Program) ground {
	g := ground{p, allOf(p), map[int]api.Frame{}, nil}
	frames, _ := verify.Frames(g.all, g.all[inB], 0)
	l, _ := code.Decode(g.all[inB].Methods[0].Code.Bytes)
	for k, i := range l {
		g.frames[i.At] = frames[k]
		g.places = append(g.places, i.At)
	}
	return g
}

// met counts what steps came to.
type met struct {
	ops     map[int]int // the instructions that went
	kinds   map[int]int
	names   map[string]int
	changed map[int]int // how many objects changed
}

func newMet() met {
	return met{map[int]int{}, map[int]int{}, map[string]int{}, map[int]int{}}
}

// fittingStep does a step of a call that fits, and asks for all that follows.
func (m met) fittingStep(t *testing.T, g ground, s scene) result {
	t.Helper()
	r := steps(t, g.Program, s)
	if r.e != api.OK {
		t.Fatalf("18.3: a step of %v: %v", s, r.e)
	}
	i, _, _ := plainInstr(g.Program, s.call)
	m.ops[i.Op]++
	m.kinds[r.effect.Kind]++
	m.changed[differs(s.heap, r.heap)]++
	if r.effect.Kind == api.EThrow {
		m.names[r.effect.Name]++
	}
	switch r.effect.Kind {
	case api.EThrow, api.EFull:
		if !r.scene.same(s) {
			t.Fatalf("18.5: a step of %v: %v", s, r)
		}
	case api.EGo:
		if !g.fits(r.heap, r.call) || m.ops[i.Op]%20 == 0 && !call.Fits(g.Program, r.heap, r.call) {
			t.Fatalf("18.3: a step of %v comes to what does not fit: %v", s, r)
		}
	}
	if !wordsFit(g.Program, r.heap, r.statics) || !plainRight(r.heap) {
		t.Fatalf("18.3: a step of %v comes to words that do not fit: %v", s, r)
	}
	if differs(s.heap, r.heap) > 1 {
		t.Fatalf("18.6: a step of %v: %v", s, r)
	}
	return r
}

// fits holds if a call of b's method fits: as call.Fits tells, which takes longer.
func (g ground) fits(l []api.Object, c api.Call) bool {
	f, ok := g.frames[c.At]
	fit := func(v api.Value, x api.Type) bool { return plainFits(g.all, l, v, x) }
	return ok && c.Class == inB && c.Method == 0 && slices.EqualFunc(c.Locals, f.Locals, fit) && slices.EqualFunc(c.Stack, f.Stack, fit)
}

// answerOf answers the type of what an effect's call answers.
func answerOf(p *link.Program, effect api.Effect) api.Type {
	if effect.Kind == api.ESys {
		return api.Type{Kind: map[bool]int{true: api.KInt}[effect.Method == 2]}
	}
	m, _ := p.Method(effect.Class, effect.Method)
	_, back, _ := kind.Method(m.Type)
	return back
}

// begins asks whether the call that an effect tells can begin, and fits.
func begins(t *testing.T, p *link.Program, r result) {
	t.Helper()
	c, e := call.Begin(p, r.effect.Class, r.effect.Method, r.effect.Args...)
	if e != api.OK || !call.Fits(p, r.heap, c) {
		t.Fatalf("the call of %v does not fit: %v", r, e)
	}
}

// goOn answers the scene with which a thread would go on behind a step, and whether it does.
func (m met) goOn(t *testing.T, rnd *rand.Rand, g ground, r result) (scene, bool) {
	t.Helper()
	s := r.scene
	switch r.effect.Kind {
	case api.EBack, api.EFull:
		return s, false
	case api.EThrow:
		v, l := r.effect.Value, s.heap
		if r.effect.Name != "" {
			var e api.Errno
			if l, v, e = step.Throw(g.Program, l, r.effect.Name); e != api.OK {
				return s, false
			}
		}
		at, ok := call.Catch(g.Program, s.call, l[v.N-1].Type)
		if !ok {
			return s, false
		}
		s.heap, s.call.At, s.call.Stack = l, at, []api.Value{v}
	case api.ECall, api.ESys:
		if r.effect.Kind == api.ECall {
			begins(t, g.Program, r)
		}
		if x := answerOf(g.Program, r.effect); x.Kind != api.KTop {
			s.call = call.Push(s.call, randomFit(rnd, g.all, s.heap, x))
		}
	}
	if !g.fits(s.heap, s.call) {
		t.Fatalf("what comes of %v does not fit: %v", r, s)
	}
	return s, true
}

// 18.3 to 18.6: at each instruction of many methods, with values that fit there.
func TestEachInstructionOfMany(t *testing.T) {
	t.Parallel()
	m := newMet()
	soundOnes(t, 18, 1200, func(r *rand.Rand, p *link.Program) {
		g := groundOf(p)
		for _, at := range g.places {
			for range 2 {
				s := randomScene(r, p)
				s.call = g.randomCall(r, s.heap, at)
				if !wordsFit(p, s.heap, s.statics) || r.Intn(20) == 0 && !call.Fits(p, s.heap, s.call) {
					t.Fatalf("%v does not fit", s)
				}
				m.goOn(t, r, g, m.fittingStep(t, g, s))
			}
		}
	})
	m.isMuch(t)
	for _, s := range opNames() {
		if i := code.Plain(api.Instr{Op: opOf(s)}); m.ops[i.Op] == 0 {
			t.Errorf("%s was not met", s)
		}
	}
}

// randomCall is a call that fits at a place.
func (g ground) randomCall(r *rand.Rand, l []api.Object, at int) api.Call {
	f := g.frames[at]
	return api.Call{Class: inB, At: at, Locals: randomFits(r, g.all, l, f.Locals), Stack: randomFits(r, g.all, l, f.Stack), Lock: r.Intn(3)}
}

// isMuch asks whether all effects were met, and all that is thrown.
func (m met) isMuch(t *testing.T) {
	t.Helper()
	for kind := api.EGo; kind <= api.EFull; kind++ {
		if kind != api.EFull && m.kinds[kind] < 20 {
			t.Errorf("effect %d was met %d times", kind, m.kinds[kind])
		}
	}
	for _, name := range []string{"", "Arithmetic", "Null", "Index", "Negative", "Cast", "Store"} {
		if m.names[name] == 0 {
			t.Errorf("%q was not thrown", name)
		}
	}
	if m.changed[0] == 0 || m.changed[1] == 0 || len(m.changed) > 2 {
		t.Errorf("changed objects: %v", m.changed)
	}
}

// 18.3 to 18.6: many methods from their beginning on, step by step, as a thread goes.
func TestManyMethodsStepByStep(t *testing.T) {
	t.Parallel()
	m := newMet()
	soundOnes(t, 183, 400, func(r *rand.Rand, p *link.Program) {
		g := groundOf(p)
		x, _ := p.Method(inB, 0)
		types, _, _ := kind.Method(x.Type)
		if x.Access&api.AStatic == 0 {
			types = slices.Insert(types, 0, classType("b"))
		}
		s := randomScene(r, p)
		c, e := call.Begin(p, inB, 0, randomFits(r, g.all, s.heap, types)...)
		if e != api.OK || !g.fits(s.heap, c) {
			t.Fatalf("%v does not begin: %v", x, c)
		}
		s.call = c
		for ok, n := true, 0; ok && n < 60; n++ {
			s, ok = m.goOn(t, r, g, m.fittingStep(t, g, s))
		}
	})
	if m.kinds[api.EBack] < 80 || m.kinds[api.EGo] < 2000 {
		t.Errorf("what was met: %v", m.kinds)
	}
}

// 18.3: a heap that is full, or nearly so.
func TestFittingStepsWithoutRoom(t *testing.T) {
	t.Parallel()
	m := newMet()
	for _, instr := range []string{"new {class a}", "new {class c}", "new {class side}", "newarray 8", "newarray 10", "newarray 11", "anewarray {class [I}"} {
		for _, n := range []string{"i0", "i1", "i3", "i4", "i7", "i8", "i-1"} {
			in := "| " + n
			if instr[:4] == "new " {
				in = "|"
			}
			x, s := doing(t, instr, in)
			g := groundOf(x.Program)
			for _, l := range [][]api.Object{manyObjects(4096), manyObjects(4095), manyWords(65536), manyWords(65536 - 3), manyWords(65536 - 7)} {
				s.heap, s.statics = l, valuesOf("i0 l0 0 i0")
				m.fittingStep(t, g, s)
			}
		}
	}
	if m.kinds[api.EFull] < 20 || m.kinds[api.EGo] < 20 || m.kinds[api.EThrow] < 5 {
		t.Errorf("what was met: %v", m.kinds)
	}
}

// 18.4: steps done again, and with other steps of other programs between, come to the same.
func TestStepsAreFunctions(t *testing.T) {
	t.Parallel()
	text := `iconst_5, newarray 10, astore_1, iconst_0, istore_2, top: = T [I I |, iload_2, iconst_5, if_icmpge @out, aload_1, iload_2, iload_2, iload_2, imul, iastore,
		getstatic {field a s I}, aload_1, iload_2, iaload, iadd, putstatic {field a s I}, iinc 2 1, goto @top, out: = T [I I |, return`
	x, y := programOf(t, static("()V", 4, 3, "aconst_null, astore_0, "+text)), programOf(t, static("()V", 4, 3, text))
	run := func(between bool) ([]scene, scene) {
		var l []scene
		s := scene{statics: step.Statics(x.Program), call: api.Call{Class: inB, Locals: valuesOf("t0 t0 t0")}}
		for n := range 500 {
			if between {
				ask(y.Program, scene{statics: valuesOf("i7 l7 0 i7"), call: api.Call{Class: inB, At: y.at(0, "top"), Locals: valuesOf("t0 0 i" + []string{"1", "9"}[n%2])}})
			}
			r := steps(t, x.Program, s)
			if r.effect.Kind == api.EBack {
				return l, s
			}
			is(t, "effect", r.effect.Kind, api.EGo)
			s = r.scene
			l = append(l, s)
		}
		t.Fatal("it does not end")
		return nil, s
	}
	l, last := run(false)
	is(t, "the sum", last.statics[0], valueOf("i30"))
	if !sameObjects(last.heap, heapOf("[I:i0,i1,i4,i9,i16")) {
		t.Errorf("the array: %v", last.heap)
	}
	again, _ := run(true)
	if !slices.EqualFunc(l, again, scene.same) {
		t.Error("done again it comes to something else")
	}
}

// another is a value of another kind.
func another(r *rand.Rand, v api.Value) api.Value {
	kind := pick(r, []int{api.KInt, api.KLong, api.KRef, api.KNull, api.KTop})
	if kind == v.Kind {
		return another(r, v)
	}
	return api.Value{Kind: kind, N: pick(r, []int{0, 1, 2, 3, 5, 8, 13, -1, leastInt, mostInt})}
}

// spoiled is a scene in which something of the call, or of the statics, is too short or of another kind.
func spoiled(r *rand.Rand, s scene) scene {
	c := &s.call
	switch n, k := len(c.Stack), len(c.Locals); r.Intn(5) {
	case 0:
		c.Stack = c.Stack[n-r.Intn(n+1):]
	case 1:
		if n > 0 {
			v := &c.Stack[n-1-r.Intn(min(n, 3))]
			*v = another(r, *v)
		}
	case 2:
		v := &c.Locals[r.Intn(k)]
		*v = another(r, *v)
	case 3:
		c.Locals = c.Locals[:r.Intn(k)]
	case 4:
		s.statics = s.statics[:r.Intn(len(s.statics)+1)]
	}
	return s
}

// Calls that do not fit: whatever they are, a step ends, as the chapter's words tell.
func TestRandomWrongs(t *testing.T) {
	t.Parallel()
	told := map[api.Errno]int{}
	soundOnes(t, 189, 300, func(r *rand.Rand, p *link.Program) {
		g := groundOf(p)
		for _, at := range g.places {
			for range 3 {
				s := randomScene(r, p)
				s.call = g.randomCall(r, s.heap, at)
				told[steps(t, p, spoiled(r, s)).e]++
			}
		}
	})
	if told[api.OK] < 2000 || told[api.ErrStack] < 1000 {
		t.Errorf("what was told: %v", told)
	}
}
