package step_test

import (
	"slices"
	"testing"

	"larch/api"
	"larch/link"
	"larch/step"
)

// Tests of 18.1: statics and fields. An a has x I, y J, r La;, l [I; a b z I, x J behind them; a c w Lb; behind these.

func TestStatics(t *testing.T) {
	goes(t, "getstatic {field a s I}", "|", "| i10")
	goes(t, "getstatic {field a t J}", "i1 |", "i1 | l20")
	goes(t, "getstatic {field b u La;}", "|", "| 1")
	goes(t, "getstatic {field other v I}", "|", "| i30")
	goes(t, "putstatic {field a s I}", "| i-5", "|", "s0=i-5")
	goes(t, "putstatic {field a t J}", "| l9223372036854775807", "|", "s1=l9223372036854775807")
	goes(t, "putstatic {field b u La;}", "| 3", "|", "s2=3")
	goes(t, "putstatic {field b u La;}", "i7 | 0", "i7 |", "s2=0")
	goes(t, "putstatic {field other v I}", "| i5", "|", "s3=i5")
	// Found in a class above.
	goes(t, "getstatic {field b s I}", "|", "| i10")
	goes(t, "getstatic {field c t J}", "|", "| l20")
	goes(t, "getstatic {field c u La;}", "|", "| 1")
	goes(t, "putstatic {field c s I}", "| i5", "|", "s0=i5")
	goes(t, "putstatic {field b t J}", "| l5", "|", "s1=l5")
}

// Statics that are too few, and of another kind; those of others count for nothing.
func TestStaticsThatAreNotThere(t *testing.T) {
	for _, x := range []struct {
		instr, in, value string
		slot             int
	}{
		{"getstatic {field a s I}", "|", "i10", 0}, {"getstatic {field a t J}", "|", "l20", 1}, {"getstatic {field b u La;}", "|", "1", 2}, {"getstatic {field other v I}", "|", "i30", 3},
		{"putstatic {field a s I}", "| i1", "", 0}, {"putstatic {field a t J}", "| l1", "", 1}, {"putstatic {field b u La;}", "| 1", "", 2}, {"putstatic {field other v I}", "| i1", "", 3},
	} {
		p, s := doing(t, x.instr, x.in)
		for n := range 6 {
			s.statics = slices.Concat(valuesOf(standardStatics), valuesOf("i5 l6"))[:n]
			r := steps(t, p.Program, s)
			is(t, x.instr+" of too few", r.e, map[bool]api.Errno{true: api.OK, false: api.ErrStack}[n > x.slot])
		}
		if x.value == "" {
			continue
		}
		for _, v := range valuesOf("i10 l20 1 0 n0 t0") {
			s.statics = valuesOf("t0 t0 t0 t0")
			s.statics[x.slot] = v
			r := steps(t, p.Program, s)
			is(t, x.instr+" of another kind", r.e == api.OK, v.Kind == valueOf(x.value).Kind)
		}
	}
}

func TestFields(t *testing.T) {
	goes(t, "getfield {field a x I}", "| 1", "| i5")
	goes(t, "getfield {field a y J}", "| 1", "| l6")
	goes(t, "getfield {field a r La;}", "| 1", "| 2")
	goes(t, "getfield {field a l [I}", "| 1", "| 5")
	goes(t, "getfield {field other k I}", "| 4", "| i7")
	goes(t, "getfield {field Bad code I}", "| 12", "| i3")
	goes(t, "putfield {field a x I}", "| 1 i9", "|", "1.0=i9")
	goes(t, "putfield {field a y J}", "| 1 l9", "|", "1.1=l9")
	goes(t, "putfield {field a r La;}", "| 1 3", "|", "1.2=3")
	goes(t, "putfield {field a r La;}", "| 1 0", "|", "1.2=0")
	goes(t, "putfield {field a r La;}", "| 1 1", "|", "1.2=1")
	goes(t, "putfield {field a l [I}", "| 1 0", "|", "1.3=0")
	goes(t, "putfield {field other k I}", "| 4 i-1", "|", "4.0=i-1")
}

// In objects of classes below, found in a class above, and a field that hides one above.
func TestFieldsAboveAndBelow(t *testing.T) {
	goes(t, "getfield {field a x I}", "| 2", "| i7")
	goes(t, "getfield {field a x I}", "| 3", "| i1")
	goes(t, "getfield {field b x J}", "| 2", "| l10")
	goes(t, "getfield {field b x J}", "| 3", "| l5")
	goes(t, "getfield {field c x J}", "| 3", "| l5")
	goes(t, "getfield {field b y J}", "| 2", "| l8")
	goes(t, "getfield {field c y J}", "| 3", "| l2")
	goes(t, "getfield {field c z I}", "| 3", "| i4")
	goes(t, "getfield {field c w Lb;}", "| 3", "| 2")
	goes(t, "getfield {field Worse code I}", "| 16", "| i8")
	goes(t, "putfield {field a x I}", "| 3 i9", "|", "3.0=i9")
	goes(t, "putfield {field c x J}", "| 3 l9", "|", "3.5=l9")
	goes(t, "putfield {field b z I}", "| 3 i9", "|", "3.4=i9")
	goes(t, "putfield {field c w Lb;}", "| 3 3", "|", "3.6=3")
	goes(t, "putfield {field Bad code I}", "| 16 i9", "|", "16.0=i9")
}

func TestFieldsOfNull(t *testing.T) {
	for _, x := range []struct{ kind, value string }{{"a x I", "i1"}, {"a y J", "l1"}, {"a r La;", "1"}, {"a l [I", "5"}, {"b x J", "l1"}, {"c w Lb;", "0"}} {
		throws(t, "getfield {field "+x.kind+"}", "i7 | 0", "Null")
		throws(t, "putfield {field "+x.kind+"}", "i7 | 0 "+x.value, "Null")
	}
}

// An object that does not have the member, or has one of another kind there.
func TestFieldsThatAreNotThere(t *testing.T) {
	for _, x := range []struct{ instr, in string }{{"getfield {field b z I}", "| 2"}, {"putfield {field b z I}", "| 2 i1"}} {
		for _, words := range []string{"", ":i1", ":i1,l2,0,0", ":i1,l2,0,0,l3", ":i1,l2,0,0,3,l6", ":i1,l2,0,0,t0", ":i1,l2,0,0,n0,l6"} {
			p, s := doing(t, x.instr, x.in)
			isResult(t, x.instr, steps(t, p.Program, s.changed("2=b"+words)), result{e: api.ErrStack})
		}
		p, s := doing(t, x.instr, x.in)
		is(t, x.instr, steps(t, p.Program, s.changed("2=b:i1,l2,0,0,i5")).e, api.OK)
		is(t, x.instr, steps(t, p.Program, s.changed("2=b:t1,t2,t0,t0,i5,t0,t0,t0")).e, api.OK)
	}
}

// programOfFields makes a program whose class b has these fields, and no methods.
func programOfFields(t *testing.T, fields string) *link.Program {
	t.Helper()
	b, _ := classOf("b<a", fields)
	p, _, e := link.Make(listOf(b))
	if e != api.OK {
		t.Fatalf("no program of %s", fields)
	}
	return p
}

// 18.2: a zero for each static, in order.
func TestStaticsOfPrograms(t *testing.T) {
	for fields, want := range map[string]string{
		"static u La;": "i0 l0 0 i0", "": "i0 l0 i0", "x I, y J": "i0 l0 i0", "static u I": "i0 l0 i0 i0", "static u J": "i0 l0 l0 i0", "static u [I": "i0 l0 0 i0",
		"static p I, q J, static q2 J, static p3 [[La;, o I, static p4 LObject;, static p5 I, static p6 [B": "i0 l0 i0 l0 0 0 i0 0 i0",
	} {
		p := programOfFields(t, fields)
		for range 2 { // the second time with the first answer changed
			l := step.Statics(p)
			if !slices.Equal(l, valuesOf(want)) {
				t.Errorf("Statics with %s: %v, want %s", fields, l, want)
			}
			scribble(3, [][]api.Value{l})
		}
	}
	c, _ := classOf("only<Object", "x I, y J", written{api.AStatic, "main", "()V", 0, 0, "return"})
	p, _, e := link.Make([]api.Class{c})
	is(t, "program", e, api.OK)
	is(t, "without statics", len(step.Statics(p)), 0)
	for what, p := range noPrograms() {
		is(t, what, len(step.Statics(p)), 0)
	}
}

// noPrograms are those that no call made.
func noPrograms() map[string]*link.Program {
	return map[string]*link.Program{"nil": nil, "a plain one": {}}
}

// throwsNew asks Throw.
func throwsNew(t *testing.T, p *link.Program, l []api.Object, name string) ([]api.Object, api.Value, api.Errno) {
	t.Helper()
	var want result
	want.e = api.ErrNone
	if slices.ContainsFunc(p.All(), func(c api.Class) bool { return c.Name == name }) {
		want = plainNew(p, l, name)
	}
	for range 2 { // the second time with all of the first answer changed
		in := scene{heap: l}.copied()
		m, v, e := step.Throw(p, in.heap, name)
		r := result{scene: scene{heap: m}, e: e}
		if e == api.OK {
			r.call.Stack = []api.Value{v}
		}
		if !r.same(want) || e != api.OK && (v != api.Value{} || len(m) > 0) {
			t.Fatalf("Throw of %q: %v %v, want %v", name, r, v, want)
		}
		in.isUntouched(t, scene{heap: l})
		isOwn(t, in, r)
	}
	return want.heap, append(want.call.Stack, api.Value{})[0], want.e
}

// plainNew answers what comes of a new object of a class: it lies on the stack.
func plainNew(p *link.Program, l []api.Object, name string) (r result) {
	if !plainRight(l) {
		return result{e: api.ErrStack}
	}
	defer func() {
		if recover() != nil {
			r = result{e: api.ErrFull}
		}
	}()
	w := &plainly{scene: scene{heap: l}.copied(), p: p, all: p.All()}
	w.bornClass(name)
	return result{scene: w.scene}
}

// 18.2: Throw with each class, and with names that no class has.
func TestThrow(t *testing.T) {
	p := programOf(t).Program
	for _, c := range p.All() {
		for text, n := range map[string]int{"": 1, "a:i1,l2,0,0": 2, "- a:i1,l2,0,0": 1, "other:i1 - - [I": 2, standardHeap: 11} {
			l, v, e := throwsNew(t, p, heapOf(text), c.Name)
			is(t, "its error", e, api.OK)
			is(t, "the reference", v, api.Value{Kind: api.KRef, N: n})
			is(t, "its Type", l[n-1].Type, c.Name)
			if !slices.Equal(l[n-1].Words, p.Zeros(c.Name)) {
				t.Errorf("the words of a new %s: %v", c.Name, l[n-1].Words)
			}
		}
	}
	for _, name := range []string{"", "nowhere", "[I", "[La;", "LNull;", "null", "Null ", " Null", "I", "object", "[LNull;"} {
		for _, l := range [][]api.Object{nil, heapOf(standardHeap), manyObjects(4096), manyObjects(4097), heapOf("a -")} {
			_, _, e := throwsNew(t, p, l, name)
			is(t, name, e, api.ErrNone)
		}
	}
	for what, p := range noPrograms() {
		_, _, e := throwsNew(t, p, nil, "Null")
		is(t, what, e, api.ErrNone)
	}
}

func TestThrowWithoutRoom(t *testing.T) {
	p := programOf(t).Program
	for name, words := range map[string]int{"Null": 0, "Throwable": 0, "Bad": 1, "c": 7} {
		throwing := func(l []api.Object, want api.Errno) {
			t.Helper()
			_, _, e := throwsNew(t, p, l, name)
			is(t, name, e, want)
		}
		throwing(manyObjects(4095), api.OK)
		throwing(manyObjects(4096), api.ErrFull)
		throwing(append(manyObjects(4095), api.Object{}, api.Object{Type: "a"}), api.ErrStack) // one too many, though there is room
		throwing(manyObjects(4097), api.ErrStack)
		throwing(manyWords(65536-words), api.OK)
		if words > 0 {
			throwing(manyWords(65537-words), api.ErrFull)
		}
		throwing(manyWords(65537), api.ErrStack)
		throwing(heapOf("a -"), api.ErrStack)
		throwing(heapOf("-:i1 a"), api.ErrStack)
	}
}
