package verify_test

import (
	"reflect"
	"slices"
	"strings"
	"testing"

	"larch/api"
	"larch/class"
	"larch/verify"
)

// Tests of 12.1 (Class) and 12.2 (Frames, Calls).

// classIs asks for a class.
func classIs(t *testing.T, l []api.Class, c api.Class, n int, want api.Errno) {
	t.Helper()
	for k := range c.Methods {
		asks(t, l, c, k)
	}
	if got, e := verify.Class(l, c); got != n || e != want {
		t.Errorf("Class of %d methods: %d %v, want %d %v", len(c.Methods), got, e, n, want)
	}
}

func TestClass(t *testing.T) {
	sound, not := static("()V", 0, 0, "nop, return"), static("()V", 0, 0, "nop, nop, pop, return")
	classIs(t, nil, makeOf().class, 0, api.OK)
	for n := 1; n <= 6; n++ {
		all := slices.Repeat([]written{sound}, n)
		classIs(t, nil, makeOf(all...).class, n, api.OK)
		for k := range all {
			some := slices.Clone(all)
			some[k] = not
			classIs(t, nil, makeOf(some...).class, k, api.ErrVerify)
			for j := k + 1; j < n; j++ { // the first one is told
				some[j] = not
			}
			classIs(t, nil, makeOf(some...).class, k, api.ErrVerify)
		}
	}
	all := slices.Repeat([]written{sound}, api.MaxItems)
	if n, e := verify.Class(nil, makeOf(all...).class); n != api.MaxItems || e != api.OK {
		t.Errorf("Class of %d methods: %d %v", len(all), n, e)
	}
	all[api.MaxItems-1] = not
	if n, e := verify.Class(nil, makeOf(all...).class); n != api.MaxItems-1 || e != api.ErrVerify {
		t.Errorf("Class of %d methods, the last one not sound: %d %v", len(all), n, e)
	}
}

// Each way in which a method is not sound is told by its number, not by a place.
func TestClassTellsNumbers(t *testing.T) {
	for _, s := range []string{"nop, nop, nop, nop, pop, return", "sipush 7, return", "return, nop", "goto @on, on: return", "return, = I |, return", "iconst_0, ireturn", "from: nop, return, try @from @end @from"} {
		x := makeOf(static("()V", 0, 0, "return"), static("()V", 0, 0, "return"), static("()V", 0, 0, s), static("()V", 0, 0, "return"))
		classIs(t, x.list, x.class, 2, api.ErrVerify)
	}
	x := makeOf(static("()V", 0, 0, "return"), static("I", 0, 0, "return"))
	classIs(t, x.list, x.class, 1, api.ErrVerify)
	y := makeOf(static("()V", 0, 0, "return"), static("()V", 0, 0, "return"))
	y.class.Methods[1].Code.Bytes = []byte{0xff}
	classIs(t, y.list, y.class, 1, api.ErrVerify)
	y.class.Methods[1].Code.Bytes = nil // the class is not right
	classIs(t, y.list, y.class, 0, api.ErrVerify)
	classIs(t, nil, api.Class{}, 0, api.ErrVerify)
	classIs(t, nil, api.Class{Name: "a", Pool: []api.Entry{{}}}, 0, api.ErrVerify)
}

// The same method in other classes, with other lists.
func TestClassWithLists(t *testing.T) {
	x := makeOf(static("(Lb;)V", 1, 1, "aload_0, getfield {field a f I}, pop, return"))
	for s, ok := range map[string]bool{
		"": false, "b<a": true, "a<b": false, "b<x x<a": true, "b<x x<b": false, "b<b": false, "b<x b<a": false, "b<a b<x": true, "b<a a<b": true, "b<x x<y y<x": false,
		"b<a a<Object Object": true, "b<Object Object<a": true, "x<a b<x": true, "b<a b<a": true, "a a b": false,
	} {
		n, e := verify.Class(classes(s), x.class)
		_, want := asks(t, classes(s), x.class, 0)
		if ok != (e == api.OK) || want != e || ok && n != 1 || !ok && n != 0 {
			t.Errorf("with %q: %d %v %v", s, n, e, want)
		}
	}
	many := classes("b<c0")
	for k := range 300 {
		many = append(many, api.Class{Name: "c" + strings.Repeat("x", k), Super: "c" + strings.Repeat("x", k+1)})
	}
	many[0].Super, many[300].Super = "c", "a"
	if n, e := verify.Method(many, x.class, 0); n != 6 || e != api.OK {
		t.Errorf("with a long list: %d %v", n, e)
	}
	many[300].Super = "c"
	if n, e := verify.Method(many, x.class, 0); n != 1 || e != api.ErrVerify {
		t.Errorf("with a long ring: %d %v", n, e)
	}
}

// framesAre asks for the frames of method 0.
func framesAre(t *testing.T, m written, want ...string) {
	t.Helper()
	x := makeOf(m)
	isSound(t, x)
	l, e := verify.Frames(x.list, x.class, 0)
	var got []string
	for _, f := range l {
		got = append(got, frameText(f))
	}
	if e != api.OK || !slices.Equal(got, want) {
		t.Errorf("Frames of %s: %q %v, want %q", m.text, got, e, want)
	}
}

func TestFrames(t *testing.T) {
	framesAre(t, static("()V", 0, 0, "return"), "|")
	framesAre(t, static("()V", 0, 2, "nop, return"), "T T |", "T T |")
	framesAre(t, written{kind: "(IJ[La;)V", stack: 2, locals: 6, text: "iload_1, istore_2, aload_0, pop, return"},
		"a I J T [La; T |", "a I J T [La; T | I", "a I I T [La; T |", "a I I T [La; T | a", "a I I T [La; T |")
	framesAre(t, static("(I)I", 2, 1, "top: = I |, iload_0, ifle @out, iinc 0 -1, goto @top, out: = T |, iconst_0, ireturn"),
		"I |", "I | I", "I |", "I |", "T |", "T | I")
	framesAre(t, static("(Lb;)V", 1, 1, "= a |, aload_0, = T | Object, pop, return"), "a |", "T | Object", "T |")
	framesAre(t, static("()V", 1, 1, "from: nop, to: return, at: = T | Object, pop, return, try @from @to @at Bad"), "T |", "T |", "T | Object", "T |")
	framesAre(t, static("()J", 4, 2, "lconst_0, lstore_0, lload_0, lconst_1, ladd, lreturn"), "T T |", "T T | J", "J T |", "J T | J", "J T | J J", "J T | J")
	framesAre(t, static("(I)V", 2, 1, "iconst_3, anewarray {class b}, iload_0, aaload, astore_0, return"),
		"I |", "I | I", "I | [Lb;", "I | [Lb; I", "I | b", "b |")
	framesAre(t, static("(I)V", 1, 1, "iload_0, tableswitch @a 1 @b @a, a: = I |, return, b: = T |, return"), "I |", "I | I", "I |", "T |")
	framesAre(t, static("()V", 1, 0, "return, = | N, athrow, = | I, pop, return"), "|", "| N", "| I", "|")
}

// Frames hands out memory of the caller's own, of which no two lists share any.
func TestFramesAreTheCallersOwn(t *testing.T) {
	x := makeOf(static("(ILb;)V", 3, 2, "nop, = I a | , iload_0, iload_0, = I a | I I, nop, iadd, = T a | I, pop, nop, return"))
	before := class.Copy(x.class)
	l, e := verify.Frames(x.list, x.class, 0)
	if e != api.OK {
		t.Fatal(e)
	}
	bad := api.Type{Kind: 9, Name: "changed"}
	for k, f := range l {
		other, _ := verify.Frames(x.list, x.class, 0)
		for _, types := range []*[]api.Type{&f.Locals, &f.Stack} {
			for i := range *types {
				(*types)[i] = bad
			}
			_ = append(*types, bad, bad, bad)
		}
		if !reflect.DeepEqual(class.Copy(x.class), before) {
			t.Fatalf("frame %d is a part of the class", k)
		}
		for j := k + 1; j < len(l); j++ {
			if !sameFrames(l[j:j+1], other[j:j+1]) {
				t.Fatalf("frame %d is a part of frame %d", k, j)
			}
		}
	}
	again, _ := verify.Frames(x.list, x.class, 0)
	if len(again) != len(l) || slices.Contains(again[0].Locals, bad) {
		t.Error("what was handed out is kept")
	}
}

// Frames answers Method's errors, and no frames beside them.
func TestFramesErrors(t *testing.T) {
	x := makeOf(static("()V", 1, 0, "nop, iconst_0, pop, pop, return"), static("()V", 0, 0, "return"))
	for k, want := range map[int]api.Errno{-1: api.ErrNone, 0: api.ErrVerify, 1: api.OK, 2: api.ErrNone} {
		f, e := verify.Frames(x.list, x.class, k)
		if e != want || (len(f) != 0) != (e == api.OK) {
			t.Errorf("Frames(%d): %v %v", k, f, e)
		}
	}
}

// callsAre asks for the constants of method 0.
func callsAre(t *testing.T, c api.Class, want ...string) {
	t.Helper()
	var l []api.Const
	for _, s := range want {
		l = append(l, constant(s))
	}
	asks(t, family(), c, 0)
	if got, e := verify.Calls(c, 0); e != api.OK || !slices.Equal(got, l) {
		t.Errorf("Calls of %s: %v %v, want %v", told(c, 0), got, e, l)
	}
}

// callsRefused asks for constants that are not answered.
func callsRefused(t *testing.T, c api.Class) {
	t.Helper()
	asks(t, family(), c, 0)
	if got, e := verify.Calls(c, 0); e != api.ErrVerify || len(got) != 0 {
		t.Errorf("Calls of %s: %v %v", told(c, 0), got, e)
	}
}

// 12.2: the Ops from 177 to 185, each with constants of each tag.
func TestCallsOfOps(t *testing.T) {
	constants := []string{"int 5", "long 5", "class b", "field b f I", "method b m ()V", "field b f 1", "method 1 m x"}
	for op := 177; op <= 185; op++ {
		for _, s := range constants {
			x := makeOf(static("()V", 1, 0, "ldc {"+s+"}, return"))
			n := x.class.Methods[0].Code.Bytes[1]
			x.class.Methods[0].Code.Bytes = []byte{byte(op), 0, n, 0xb1}
			switch op {
			case 177:
				x.class.Methods[0].Code.Bytes = []byte{18, n, 0xb1}
				callsAre(t, x.class)
			case 185:
				callsRefused(t, x.class)
			default:
				callsAre(t, x.class, s)
			}
		}
	}
	for _, op := range []string{"ldc {int 5}", "ldc2_w {long 5}", "new {class b}", "anewarray {class b}", "checkcast {class b}", "instanceof {class b}", "ldc_w {field a f I}"} {
		callsAre(t, makeOf(static("()V", 1, 0, op+", return")).class)
	}
}

// 12.2: entries that are no constants, and numbers that no entry has.
func TestCallsOfWhatIsNotThere(t *testing.T) {
	x := makeOf(static("()V", 1, 0, "getstatic {field a f I}, pop, invokestatic {method a m ()V}, return"))
	put(&x.class, "long 7")
	b := x.class.Methods[0].Code.Bytes
	for n := range 300 {
		tag := 0
		if n < len(x.class.Pool) {
			tag = x.class.Pool[n].Tag
		}
		there := tag == api.TInt || tag == api.TLong || tag == api.TClass || tag == api.TField || tag == api.TMethod
		for _, at := range []int{1, 5} {
			own := slices.Clone(b)
			own[at], own[at+1] = byte(n/256), byte(n%256)
			c := class.Copy(x.class)
			c.Methods[0].Code.Bytes = own
			if !there {
				callsRefused(t, c)
			} else if l, e := verify.Calls(c, 0); e != api.OK || len(l) == 0 || len(l) > 2 {
				t.Errorf("Calls of %d (tag %d): %v %v", n, tag, l, e)
			}
		}
	}
}

// 12.2: in order, each once.
func TestCallsInOrder(t *testing.T) {
	callsAre(t, makeOf(static("()V", 2, 1, "return")).class)
	callsAre(t, makeOf(static("()V", 2, 1, "invokestatic {method c m ()V}, getstatic {field b f I}, aconst_null, getfield {field a f I}, aconst_null, invokevirtual {method a m ()V}, return")).class,
		"method c m ()V", "field b f I", "field a f I", "method a m ()V")
	callsAre(t, makeOf(static("()V", 2, 1, "getstatic {field a f I}, invokestatic {method a m ()V}, putstatic {field a f I}, invokestatic {method a m ()V}, getstatic {field a g I}, getstatic {field a f I}, return")).class,
		"field a f I", "method a m ()V", "field a g I")
	callsAre(t, makeOf(static("()V", 2, 1, "getstatic {field a m ()V}, invokestatic {method a m ()V}, return")).class, "field a m ()V", "method a m ()V") // of another tag
	callsAre(t, makeOf(static("()V", 2, 1, "return, nop, getstatic {field a f I}, nop")).class, "field a f I")                                            // also where the walk does not come
	callsAre(t, makeOf(static("x", 0, 0, "pop, pop, invokespecial {method a f I}, areturn, pop")).class, "method a f I")                                  // and if the method is not sound
}

// 12.2: the same constant by two numbers.
func TestCallsOfTheSameConstant(t *testing.T) {
	x := makeOf(static("()V", 2, 1, "getstatic {field a f I}, pop, getstatic {field a g I}, pop, getstatic {field a f I}, pop, return"))
	c := &x.class
	callsAre(t, *c, "field a f I", "field a g I")
	b := c.Methods[0].Code.Bytes
	first := int(b[2])
	for _, more := range []api.Entry{c.Pool[first], {Tag: api.TField, A: len(c.Pool) + 3, B: c.Pool[first].B}} {
		own := class.Copy(*c)
		at := len(own.Pool)
		own.Pool = append(own.Pool, more, api.Entry{Tag: api.TInt, N: 1}, api.Entry{Tag: api.TInt, N: 1}, api.Entry{Tag: api.TClass, A: own.Pool[own.Pool[first].A].A})
		own.Methods[0].Code.Bytes[10] = byte(at)
		if own.Methods[0].Code.Bytes[8] != 178 {
			t.Fatal("the third getstatic is elsewhere")
		}
		callsAre(t, own, "field a f I", "field a g I")
		own.Methods[0].Code.Bytes[2] = byte(at)
		callsAre(t, own, "field a f I", "field a g I")
		own.Methods[0].Code.Bytes[6] = byte(at + 1)
		callsAre(t, own, "field a f I", "int 1")
		own.Methods[0].Code.Bytes[10] = byte(at + 2) // the same int
		callsAre(t, own, "field a f I", "int 1")
	}
}

// 12.2: a code that is none, and a class that is not right otherwise.
func TestCallsOfWrongClasses(t *testing.T) {
	x := makeOf(static("()V", 1, 0, "getstatic {field a f I}, pop, return"), static("()V", 0, 0, "return"))
	b := x.class.Methods[0].Code.Bytes
	for _, bad := range [][]byte{nil, {}, b[:2], append(slices.Clone(b), 0xff), append(slices.Clone(b), 178), append(slices.Clone(b), 0xa7, 0, 9), append(make([]byte, api.MaxCode), 0xb1)} {
		callsRefused(t, x.coded(func(d *api.Code) { d.Bytes = bad }).class)
	}
	for k, change := range []func(c *api.Class){
		func(c *api.Class) { c.Name = "none" }, func(c *api.Class) { c.Super = "none" }, func(c *api.Class) { c.Fields = []api.Field{{Access: 7}} },
		func(c *api.Class) { c.Methods[0].Access = -1 }, func(c *api.Class) { c.Methods[0].Type = "none" }, func(c *api.Class) { c.Methods[0].Code.Stack = -1 },
		func(c *api.Class) { c.Methods[1].Code.Bytes = nil }, func(c *api.Class) { c.Methods[0].Code.Maps = []api.Map{{At: -1}} },
		func(c *api.Class) { c.Methods[0].Code.Handlers = []api.Handler{{Class: -1}} },
	} {
		c := class.Copy(x.class)
		change(&c)
		if class.Check(c) == api.OK {
			t.Errorf("%d: the class is right", k)
		}
		callsAre(t, c, "field a f I")
	}
	for k, change := range []func(c *api.Class){
		func(c *api.Class) { c.Pool = nil }, func(c *api.Class) { c.Pool[0] = api.Entry{Tag: api.TInt} }, func(c *api.Class) { c.Pool = append(c.Pool, api.Entry{Tag: 2}) },
	} {
		c := class.Copy(x.class)
		change(&c)
		callsRefused(t, c) // such a pool has no constants
		if l, e := verify.Calls(c, 1); len(l) != 0 || e != api.OK {
			t.Errorf("%d: Calls of a method that names none: %v %v", k, l, e)
		}
	}
}
