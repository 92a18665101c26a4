package verify_test

import (
	"fmt"
	"math"
	"reflect"
	"slices"
	"strings"
	"testing"

	"larch/api"
	"larch/class"
	"larch/verify"
)

// Tests of 12.1: what is asked ahead of the walk, and the chapter's examples.

// sameFrames holds if two lists of frames are the same.
func sameFrames(a, b []api.Frame) bool {
	return slices.EqualFunc(a, b, func(x, y api.Frame) bool { return slices.Equal(x.Locals, y.Locals) && slices.Equal(x.Stack, y.Stack) })
}

// copyOf answers a list of classes in memory of its own.
func copyOf(l []api.Class) []api.Class {
	var own []api.Class
	for _, c := range l {
		own = append(own, class.Copy(c))
	}
	return own
}

// asks asks for method k in every way, holds all answers against the plain reading, and answers what Method did.
func asks(t *testing.T, l []api.Class, c api.Class, k int) (int, api.Errno) {
	t.Helper()
	ownList, own := copyOf(l), class.Copy(c)
	frames, place, want := plainMethod(l, c, k)
	at, e := verify.Method(l, c, k)
	if at != place || e != want {
		t.Fatalf("Method(%s, %d): %d %v, want %d %v", told(c, k), k, at, e, place, want)
	}
	f, e := verify.Frames(l, c, k)
	if e != want || !sameFrames(f, frames) || e != api.OK && len(f) != 0 {
		t.Fatalf("Frames(%s, %d): %v %v, want %v %v", told(c, k), k, f, e, frames, want)
	}
	number, wrong := plainClass(l, c)
	if n, e := verify.Class(l, c); n != number || e != wrong {
		t.Fatalf("Class(%s): %d %v, want %d %v", told(c, k), n, e, number, wrong)
	}
	calls, wrong := plainCalls(c, k)
	if x, e := verify.Calls(c, k); e != wrong || !slices.Equal(x, calls) || e != api.OK && len(x) != 0 {
		t.Fatalf("Calls(%s, %d): %v %v, want %v %v", told(c, k), k, x, e, calls, wrong)
	}
	if !reflect.DeepEqual(class.Copy(c), own) || !reflect.DeepEqual(copyOf(l), ownList) {
		t.Fatalf("%s was changed", told(c, k))
	}
	return at, want
}

// told tells a method for a fault's text.
func told(c api.Class, k int) string {
	if k < 0 || k >= len(c.Methods) {
		return fmt.Sprintf("%d methods", len(c.Methods))
	}
	m := c.Methods[k]
	return fmt.Sprintf("%s, stack %d, locals %d, % x, maps %v, handlers %v", m.Type, m.Code.Stack, m.Code.Locals, m.Code.Bytes, m.Code.Maps, m.Code.Handlers)
}

// isSound asks for a class whose method 0 is sound.
func isSound(t *testing.T, x made) {
	t.Helper()
	at, e := asks(t, x.list, x.class, 0)
	if e != api.OK || at != len(x.class.Methods[0].Code.Bytes) {
		t.Errorf("%s: %d %v, want that it is sound", told(x.class, 0), at, e)
	}
}

// isRefused asks for a class whose method 0 is not sound, at a place.
func isRefused(t *testing.T, x made, at int) {
	t.Helper()
	if got, e := asks(t, x.list, x.class, 0); e != api.ErrVerify || got != at {
		t.Errorf("%s: %d %v, want that it is refused at %d", told(x.class, 0), got, e, at)
	}
}

// goes asks for a method as it is written: it is refused where the label bad stands; without one it is sound.
func goes(t *testing.T, m written) {
	t.Helper()
	x := makeOf(m)
	if at, ok := x.labels[0]["bad"]; ok {
		isRefused(t, x, at)
	} else {
		isSound(t, x)
	}
}

// changed answers a class whose method 0 is another one.
func (x made) changed(change func(m *api.Method)) made {
	x.class = class.Copy(x.class)
	change(&x.class.Methods[0])
	return x
}

// coded answers a class whose method 0 has another code.
func (x made) coded(change func(d *api.Code)) made {
	return x.changed(func(m *api.Method) { change(&m.Code) })
}

func TestExamples(t *testing.T) {
	isSound(t, makeOf(static("()V", 0, 0, "return")))
	isRefused(t, makeOf(static("()V", 0, 0, "pop, return")), 0)
	c := api.Class{Name: "a", Methods: []api.Method{{Access: api.AStatic, Name: "m", Type: "()V", Code: api.Code{Bytes: []byte{0xb1}}}}}
	c.Pool = []api.Entry{{}, {Tag: api.TUtf8, Text: "a"}, {Tag: api.TClass, A: 1}, {Tag: api.TUtf8, Text: "m"}, {Tag: api.TUtf8, Text: "()V"}, {Tag: api.TUtf8, Text: "Code"}}
	if n, e := verify.Method(nil, c, 0); n != 1 || e != api.OK {
		t.Errorf("b1: %d %v", n, e)
	}
	c.Methods[0].Code.Bytes = []byte{0x57, 0xb1}
	if n, e := verify.Method(nil, c, 0); n != 0 || e != api.ErrVerify {
		t.Errorf("57 b1: %d %v", n, e)
	}
}

// three is a class of three methods, the one in the middle of which is not sound.
func three() made {
	return makeOf(static("()V", 0, 0, "return"), static("()V", 0, 0, "nop, pop, return"), static("()I", 1, 0, "iconst_0, ireturn"))
}

// 12.1: k is no method's place.
func TestNoSuchMethod(t *testing.T) {
	x := three()
	wrong := class.Copy(x.class)
	wrong.Pool = nil
	for _, c := range []api.Class{x.class, wrong, {}, {Methods: []api.Method{}}} {
		for _, k := range []int{math.MinInt, -65536, -2, -1, 3, 4, 255, 256, 257, 1 << 32, 1<<32 + 1, math.MaxInt} {
			at, e := asks(t, x.list, c, k)
			if at != 0 || e != api.ErrNone {
				t.Errorf("Method of %d methods, %d: %d %v", len(c.Methods), k, at, e)
			}
			if _, e := verify.Calls(c, k); e != api.ErrNone {
				t.Errorf("Calls of %d methods, %d: %v", len(c.Methods), k, e)
			}
		}
	}
	for k, want := range [][2]int{{1, 0}, {1, int(api.ErrVerify)}, {2, 0}} {
		if at, e := asks(t, x.list, x.class, k); at != want[0] || int(e) != want[1] {
			t.Errorf("Method %d: %d %v", k, at, e)
		}
		if at, e := asks(t, x.list, wrong, k); at != 0 || e != api.ErrVerify {
			t.Errorf("Method %d of a class that is not right: %d %v", k, at, e)
		}
	}
	if _, e := asks(t, nil, api.Class{}, 0); e != api.ErrNone {
		t.Errorf("a method of none: %v", e)
	}
}

// 12.1: a class that is not right, wherever, has no sound method.
func TestClassThatIsNotRight(t *testing.T) {
	sound := func() api.Class {
		x := makeOf(static("()V", 0, 0, "nop, return"), static("()V", 1, 1, "iconst_0, istore_0, = I |, return"))
		x.class.Fields = []api.Field{{Name: "m", Type: "()V"}} // texts that are there
		return x.class
	}
	if n, e := verify.Class(nil, sound()); n != 2 || e != api.OK {
		t.Fatalf("the class is none: %d %v", n, e)
	}
	for what, change := range map[string]func(c *api.Class){
		"no pool":                  func(c *api.Class) { c.Pool = nil },
		"a pool with a bad entry":  func(c *api.Class) { c.Pool = append(c.Pool, api.Entry{Tag: 99}) },
		"a pool with a bad text":   func(c *api.Class) { c.Pool = append(c.Pool, api.Entry{Tag: api.TUtf8, Text: " "}) },
		"a pool that is too long":  func(c *api.Class) { c.Pool = append(c.Pool, make([]api.Entry, api.MaxPool)...) },
		"no such name":             func(c *api.Class) { c.Name = "none" },
		"no such super":            func(c *api.Class) { c.Super = "none" },
		"a field's access":         func(c *api.Class) { c.Fields[0].Access = 1 },
		"a field's name":           func(c *api.Class) { c.Fields[0].Name = "none" },
		"too many fields":          func(c *api.Class) { c.Fields = make([]api.Field, api.MaxItems+1) },
		"this method's access":     func(c *api.Class) { c.Methods[0].Access = 1 },
		"this method's name":       func(c *api.Class) { c.Methods[0].Name = "none" },
		"this method's type":       func(c *api.Class) { c.Methods[0].Type = "(I)V" },
		"this method's stack":      func(c *api.Class) { c.Methods[0].Code.Stack = api.MaxStack + 1 },
		"this method's stack < 0":  func(c *api.Class) { c.Methods[0].Code.Stack = -1 },
		"this method's locals":     func(c *api.Class) { c.Methods[0].Code.Locals = api.MaxStack + 1 },
		"this method's locals < 0": func(c *api.Class) { c.Methods[0].Code.Locals = -1 },
		"this method's bytes":      func(c *api.Class) { c.Methods[0].Code.Bytes = nil },
		"another method's access":  func(c *api.Class) { c.Methods[1].Access = -8 },
		"another method's name":    func(c *api.Class) { c.Methods[1].Name = "none" },
		"another method's stack":   func(c *api.Class) { c.Methods[1].Code.Stack = api.MaxStack + 1 },
		"another method's bytes":   func(c *api.Class) { c.Methods[1].Code.Bytes = []byte{} },
		"another method's map":     func(c *api.Class) { c.Methods[1].Code.Maps[0].Locals[0] = api.Type{Kind: api.KInt, Name: "a"} },
		"another method's handler": func(c *api.Class) { c.Methods[1].Code.Handlers = []api.Handler{{To: 1, Class: 1}} },
		"too many methods": func(c *api.Class) {
			c.Methods = append(c.Methods, slices.Repeat(c.Methods[:1], api.MaxItems-1)...)
		},
	} {
		c := sound()
		change(&c)
		for k := range c.Methods[:2] {
			if at, e := asks(t, nil, c, k); at != 0 || e != api.ErrVerify {
				t.Errorf("%s: method %d: %d %v", what, k, at, e)
			}
		}
		if n, e := verify.Class(nil, c); n != 0 || e != api.ErrVerify {
			t.Errorf("%s: Class: %d %v", what, n, e)
		}
	}
}

// 12.1: a class that has too many bytes, and one that has just as many as it may.
func TestClassThatIsTooLong(t *testing.T) {
	x := makeOf(slices.Repeat([]written{static("()V", 0, 0, "return")}, 9)...)
	for k := range x.class.Methods {
		x.class.Methods[k].Code.Bytes = append(make([]byte, api.MaxCode-1), 0xb1)
	}
	if _, e := asks(t, nil, x.class, 0); e != api.ErrVerify {
		t.Errorf("a class that is too long: %v", e)
	}
	if n, e := verify.Class(nil, x.class); n != 0 || e != api.ErrVerify {
		t.Errorf("Class of one that is too long: %d %v", n, e)
	}
	x.class.Methods = x.class.Methods[:8]
	last := &x.class.Methods[7].Code
	last.Bytes = []byte{0xb1}
	b, e := class.Print(x.class)
	if e != api.OK {
		t.Fatal(e)
	}
	more := api.MaxFile - len(b)
	last.Bytes = append(make([]byte, more), 0xb1)
	if n, e := verify.Class(nil, x.class); n != 8 || e != api.OK {
		t.Errorf("Class of one that is just as long as it may be: %d %v", n, e)
	}
	last.Bytes = append(make([]byte, more+1), 0xb1)
	if n, e := verify.Class(nil, x.class); n != 0 || e != api.ErrVerify {
		t.Errorf("Class of one that is longer by a byte: %d %v", n, e)
	}
}

// 12.1: bytes that are no code.
func TestBytesThatAreNoCode(t *testing.T) {
	x := makeOf(static("()V", 1, 0, "return"))
	for _, b := range [][]byte{
		nil, {}, {0xff}, {0xb9}, {0xb1, 0xff}, {0xb1, 0xa7}, {0xb1, 0xa7, 0}, {0x10}, {0x57, 0xb2, 0}, {0xa7, 0, 4, 0xb1}, {0xa7, 0, 1, 0xb1},
		{0xa7, 0xff, 0xff, 0xb1}, {0xb1, 0xba, 0, 0, 0, 0}, {3, 0xaa, 0, 0, 0, 0, 0, 12}, {0x57, 11, 0xb1}, append(make([]byte, api.MaxCode), 0xb1),
	} {
		isRefused(t, x.coded(func(d *api.Code) { d.Bytes = b }), 0)
	}
	isSound(t, x.coded(func(d *api.Code) { d.Bytes = append(make([]byte, api.MaxCode-1), 0xb1) }))
}

// 12.1: a Type that is no method's descriptor.
func TestTypeThatIsNone(t *testing.T) {
	for _, s := range []string{
		"I", "V", "x", "(", ")", "()", ")V", "(V)V", "(I", "(I)", "()VV", "()B", "(B)V", "(L;)V", "(La)V", "(X)V", "()v", "[I", "La;", "((I)V", "([V)V",
		"(" + strings.Repeat("I", 33) + ")V", "(" + strings.Repeat("J", 17) + ")V", "(" + strings.Repeat("[", 9) + "I)V",
	} {
		isRefused(t, makeOf(static(s, 1, 64, "return")), 0)
		isRefused(t, makeOf(static(s, 1, 64, "nop, pop, return")), 0)
	}
	for _, s := range []string{"()V", "(I)V", "(" + strings.Repeat("I", 32) + ")V", "(" + strings.Repeat("J", 16) + ")V", "(" + strings.Repeat("[", 8) + "I)V"} {
		isSound(t, makeOf(static(s, 1, 64, "return")))
		isSound(t, makeOf(written{access: 0, kind: s, stack: 1, locals: 64, text: "return"}))
	}
}

// 12.1: fewer locals than the method begins with, just as many, and more.
func TestHowManyLocals(t *testing.T) {
	for s, n := range map[string]int{"()V": 0, "(I)V": 1, "(J)V": 2, "(La;J[I)V": 4, "(JJI)V": 5, "(" + strings.Repeat("J", 16) + ")V": 32} {
		for _, access := range []int{0, api.AStatic, api.ASync, api.AStatic | api.ASync} {
			least := n
			if access&api.AStatic == 0 {
				least++
			}
			for locals := range api.MaxStack + 2 {
				x := makeOf(written{access: access, kind: s, locals: locals, text: "nop, return"})
				if locals >= least && locals <= api.MaxStack {
					isSound(t, x)
				} else {
					isRefused(t, x, 0)
				}
			}
		}
	}
}

// 12.1: where a map is.
func TestPlacesOfMaps(t *testing.T) {
	x := makeOf(static("()V", 1, 0, "nop, sipush 7, pop, bipush 1, pop, return"))
	begins := []int{0, 1, 4, 5, 7, 8}
	stack := map[int]string{4: "I", 7: "I"}
	for at := range 12 {
		one := x.coded(func(d *api.Code) { d.Maps = []api.Map{{At: at, Stack: types(stack[at])}} })
		if slices.Contains(begins, at) {
			isSound(t, one)
		} else {
			isRefused(t, one, 0)
		}
	}
	for _, at := range []int{-1, 9, 256, 257, 65535, 65536, 1 << 32} {
		isRefused(t, x.coded(func(d *api.Code) { d.Maps = []api.Map{{At: at}} }), 0)
		isRefused(t, x.coded(func(d *api.Code) { d.Maps = []api.Map{{At: 0}, {At: 5}, {At: at}} }), 0)
	}
	isSound(t, x.coded(func(d *api.Code) { d.Maps = []api.Map{{At: 0}, {At: 5}, {At: 8}} }))
	isRefused(t, x.coded(func(d *api.Code) { d.Maps = []api.Map{{At: 0}, {At: 2}, {At: 8}} }), 0)
	isRefused(t, x.coded(func(d *api.Code) { d.Maps = []api.Map{{At: 5}, {At: 0}} }), 0)
	isRefused(t, x.coded(func(d *api.Code) { d.Maps = []api.Map{{At: 5}, {At: 5}} }), 0)
}

// 12.1: a map that is not right is told ahead of the walk, also if no way leads to it, and whatever the walk would meet.
func TestMapsAheadOfTheWalk(t *testing.T) {
	for m, ok := range map[string]bool{
		"= T T |": true, "= T |": false, "= |": false, "= T T T |": false,
		"= I J T |": false, "= T J |": false, "= J T |": true, "= I I |": true,
		"= T T | T": false, "= T T | I T": false, "= T T | T I": false, "= T T | I T I": false,
		"= T T | I I I": true, "= T T | I I I I": false, "= T T | J I": true, "= T T | I J": true, "= T T | J J": false, "= T T | I J I": false,
		"= T T | a N [I": true, "= T T | a N [I b": false, "= T T | J": true, "= T T | I I": true,
	} {
		x := makeOf(static("()V", 3, 2, "nop, return, "+m+", return"))
		y := makeOf(static("()V", 3, 2, "nop, bad: pop, return, "+m+", return"))
		if ok {
			isSound(t, x)
			isRefused(t, y, 1)
		} else {
			isRefused(t, x, 0)
			isRefused(t, y, 0)
		}
	}
	for stack := range 5 {
		x := makeOf(static("()V", stack, 0, "return, = | J I, return"))
		if stack >= 3 {
			isSound(t, x)
		} else {
			isRefused(t, x, 0)
		}
	}
}

// many is a code that handlers lie over in tests.
const many = "nop, sipush 7, pop, bipush 1, pop, return, at: = | Throwable, pop, return"

// 12.1: from where to where a handler is.
func TestRangesOfHandlers(t *testing.T) {
	x := makeOf(static("()V", 1, 0, many))
	begins, end := []int{0, 1, 4, 5, 7, 8, 9, 10}, 11
	for from := range 14 {
		for to := range 14 {
			one := x.coded(func(d *api.Code) { d.Handlers = []api.Handler{{From: from, To: to, At: 9}} })
			two := x.coded(func(d *api.Code) { d.Handlers = []api.Handler{{From: 1, To: 5, At: 9}, {From: from, To: to, At: 9}} })
			three := x.coded(func(d *api.Code) { d.Handlers = []api.Handler{{From: from, To: to, At: 9}, {From: 1, To: 5, At: 9}} })
			if from < to && slices.Contains(begins, from) && (slices.Contains(begins, to) || to == end) {
				isSound(t, one)
				isSound(t, two)
				isSound(t, three)
			} else {
				isRefused(t, one, 0)
				isRefused(t, two, 0)
				isRefused(t, three, 0)
			}
		}
	}
	for _, n := range []int{-1, 65535, 65536, 1 << 32, 1<<32 + 4, math.MinInt, math.MaxInt} {
		isRefused(t, x.coded(func(d *api.Code) { d.Handlers = []api.Handler{{From: n, To: 4, At: 9}} }), 0)
		isRefused(t, x.coded(func(d *api.Code) { d.Handlers = []api.Handler{{From: 0, To: n, At: 9}} }), 0)
		isRefused(t, x.coded(func(d *api.Code) { d.Handlers = []api.Handler{{From: 0, To: 4, At: n}} }), 0)
	}
}

// 12.1: where a handler begins, and what lies on the stack there.
func TestMapsOfHandlers(t *testing.T) {
	x := makeOf(static("()V", 1, 0, many))
	for at := range 14 {
		one := x.coded(func(d *api.Code) { d.Handlers = []api.Handler{{From: 0, To: 4, At: at}} })
		if at == 9 {
			isSound(t, one)
		} else {
			isRefused(t, one, 0)
		}
	}
	for stack, ok := range map[string]bool{
		"": false, "Throwable": true, "Object": true, "I": false, "J": false, "N": false, "T": false, "Bad": false, "a": false, "[I": false, "other": false,
		"[LThrowable;": false, "Throwable Throwable": false, "I Throwable": false, "Throwable I": false, "Throwable Object Throwable": false,
	} {
		y := makeOf(static("()V", 5, 0, "from: nop, to: return, at: = | "+stack+", return, try @from @to @at"))
		z := makeOf(static("()V", 5, 0, "from: nop, to: pop, return, at: = | "+stack+", return, try @from @to @at"))
		if ok {
			isSound(t, y)
			isRefused(t, z, 1)
		} else {
			isRefused(t, y, 0)
			isRefused(t, z, 0)
		}
	}
}

// 12.1: a handler of a class, and what lies on the stack where it begins.
func TestClassesOfHandlers(t *testing.T) {
	for _, x := range []struct{ class, stacks, not string }{
		{"Throwable", "Throwable Object", "Bad Worse a N I J [I none"},
		{"Bad", "Bad Throwable Object", "Worse a N I J [I none"},
		{"Worse", "Worse Bad Throwable Object", "a other N I J [I none"},
		{"Object", "", "Object Throwable Bad a"},
		{"a", "", "a Object Throwable"},
		{"none", "", "none Object Throwable"},
		{"[I", "", "[I Object Throwable"},
		{"[LThrowable;", "", "[LThrowable, [LObject, Object Throwable"},
		{"[LBad;", "", "[LBad, [LThrowable, Throwable Object"},
		{"LThrowable;", "", "LThrowable, Throwable Object"},
		{"1", "", "1 Throwable Object"},
		{"Throwable;", "", "Throwable, Throwable Object"},
		{"[", "", "[ Throwable Object"},
	} {
		method := func(stack string) made {
			return makeOf(static("()V", 2, 0, "from: nop, to: return, at: = | "+stack+", return, try @from @to @at "+x.class))
		}
		for _, s := range strings.Fields(x.stacks) {
			isSound(t, method(s))
		}
		for _, s := range strings.Fields(x.not) {
			isRefused(t, method(s), 0)
		}
	}
}

// 12.1: a handler's class by its number: one that there is not, and one of another tag.
func TestNumbersOfHandlers(t *testing.T) {
	x := makeOf(static("()V", 1, 0, "from: nop, to: return, at: = | Throwable, return, try @from @to @at Bad"))
	c := &x.class
	for _, s := range []string{"int 5", "long 5", "field Bad f I", "method Bad m ()V", "class Worse"} {
		put(c, s)
	}
	sound := 0
	for n := -3; n < len(c.Pool)+3; n++ {
		one := x.coded(func(d *api.Code) { d.Handlers[0].Class = n })
		name := ""
		if n > 0 && n < len(c.Pool) && c.Pool[n].Tag == api.TClass {
			name = c.Pool[c.Pool[n].A].Text
		}
		if n == 0 || name == "Throwable" || name == "Bad" || name == "Worse" {
			isSound(t, one)
			sound++
		} else {
			isRefused(t, one, 0)
		}
	}
	if sound != 4 {
		t.Errorf("%d were sound", sound)
	}
	for _, n := range []int{math.MinInt, -65536, 65535, 65536, 1 << 32, math.MaxInt} {
		isRefused(t, x.coded(func(d *api.Code) { d.Handlers[0].Class = n }), 0)
	}
}

// 12.1: a class's constant that is the pool's first one.
func TestFirstNumberOfHandlers(t *testing.T) {
	x := makeOf(static("()V", 1, 0, "from: nop, to: return, at: = | Throwable, return, try @from @to @at"))
	l := []api.Entry{{}, {Tag: api.TClass, A: 2}, {Tag: api.TUtf8, Text: "Bad"}}
	for _, y := range x.class.Pool[1:] { // all others stand two places behind
		if y.Tag == api.TClass {
			y.A += 2
		}
		l = append(l, y)
	}
	x.class.Pool = l
	isSound(t, x)
	x.class.Methods[0].Code.Handlers[0].Class = 1
	isSound(t, x)
	x.class.Pool[2].Text = "other"
	isRefused(t, x, 0)
}

// 12.1: a name in the list that is no class's name is no handler's class, even where the list has it below Throwable.
func TestHandlersNamesThatAreNone(t *testing.T) {
	for name, ok := range map[string]bool{"1": false, "LBad;": false, "Bad;": false, "B-d": false, "$B": false, "B$": true, strings.Repeat("b", 60): true, strings.Repeat("b", 61): false} {
		x := makeOf(static("()V", 1, 0, "from: nop, to: return, at: = | "+name+", return, try @from @to @at "+name))
		x.list = classes("Object Throwable<Object " + name + "<Throwable")
		if ok {
			isSound(t, x)
		} else {
			isRefused(t, x, 0)
		}
	}
}

// 12.1: handlers hang on the list.
func TestHandlersWithLists(t *testing.T) {
	bad := makeOf(static("()V", 1, 0, "from: nop, to: return, at: = | Bad, return, try @from @to @at Bad"))
	all := makeOf(static("()V", 1, 0, "from: nop, to: return, at: = | Throwable, return, try @from @to @at"))
	top := makeOf(static("()V", 1, 0, "from: nop, to: return, at: = | none, return, try @from @to @at"))
	for s, want := range map[string][3]bool{
		"":                            {false, true, false},
		"Bad<Throwable":               {true, true, false},
		"Bad<Object":                  {false, true, false},
		"Bad<x x<Throwable":           {true, true, false},
		"Bad<x Bad<Throwable":         {false, true, false},
		"Bad<Throwable Bad<x":         {true, true, false},
		"Bad<x x<Bad":                 {false, true, false},
		"Bad<Bad":                     {false, true, false},
		"Bad<x x<Throwable Throwable": {true, true, false},
		"Throwable<Bad":               {false, true, false},
		"Throwable<Bad Bad<Throwable": {true, true, false},
		"Throwable<none":              {false, true, true},
	} {
		for k, x := range []made{bad, all, top} {
			if want[k] {
				isSound(t, x.with(classes(s)))
			} else {
				isRefused(t, x.with(classes(s)), 0)
			}
		}
	}
}

// 12.1: as many handlers and maps as there may be, and one more.
func TestMostHandlersAndMaps(t *testing.T) {
	x := makeOf(static("()V", 1, 0, many))
	for n, ok := range map[int]bool{api.MaxItems: true, api.MaxItems + 1: false} {
		y := x.coded(func(d *api.Code) { d.Handlers = slices.Repeat([]api.Handler{{From: 0, To: 9, At: 9}}, n) })
		z := makeOf(static("()V", 1, 0, strings.Repeat("nop, = |, ", n)+"return"))
		if ok {
			isSound(t, y)
			isSound(t, z)
		} else {
			isRefused(t, y, 0)
			isRefused(t, z, 0)
		}
	}
}
