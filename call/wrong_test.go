package call_test

import (
	"reflect"
	"testing"

	"larch/api"
	"larch/call"
)

// Tests of what is refused: with which error, and that all else is zero beside it.

// Numbers of classes and of methods that there are not, in a program whose class b has two methods.
var (
	noClasses = []int{leastLong, leastInt, -18, -1, 0, 1, 2, 8, 9, 11, 13, 14, 17, 18, 32, mostInt, mostLong, 1<<32 + inB}
	noMethods = []int{leastLong, leastInt, -2, -1, 2, 3, 256, mostInt, mostLong, 1 << 32}
)

// isNone asks that Begin and Now tell ErrNone, whatever else they are given.
func isNone(t *testing.T, x made, class, k int) {
	t.Helper()
	for _, s := range []string{"", "i5", "i5 i6", "l5", "0", "n0", "t0"} {
		c, e := begin(t, x.Program, class, k, valuesOf(s)...)
		isCall(t, "Begin", c, e, api.Call{}, api.ErrNone)
	}
	for _, at := range []int{0, 1, -1, 99, leastLong, mostLong} {
		i, next, e := now(t, x.Program, api.Call{Class: class, Method: k, At: at, Locals: valuesOf("i5"), Stack: valuesOf("1")})
		if !reflect.DeepEqual(i, api.Instr{}) || next != 0 || e != api.ErrNone {
			t.Errorf("Now of %d %d at %d: %v %d %v", class, k, at, i, next, e)
		}
	}
}

// Classes and methods that there are not, also those of the house; of programs that have nothing all are.
func TestNoSuchMethod(t *testing.T) {
	x := programOf(t, static("(I)V", 0, 1, "nop, return"), static("()V", 0, 0, "return"))
	for _, class := range noClasses {
		for _, k := range append([]int{0, 1}, noMethods...) {
			isNone(t, x, class, k)
		}
	}
	for _, k := range noMethods {
		isNone(t, x, inB, k)
	}
	isNone(t, x, 10, 1)
	for name, p := range none() {
		y := made{Program: p}
		for _, class := range append([]int{10, inB}, noClasses...) {
			for _, k := range append([]int{0, 1}, noMethods...) {
				isNone(t, y, class, k)
			}
		}
		if c, e := call.Begin(p, inB, 1); !reflect.DeepEqual(c, api.Call{}) || e != api.ErrNone {
			t.Errorf("%s: %v %v", name, c, e)
		}
	}
	for _, l := range [][]api.Value{nil, {}, valuesOf("i5")} { // and what there is
		want := map[bool]api.Errno{true: api.OK, false: api.ErrStack}[len(l) == 1]
		_, e := begin(t, x.Program, inB, 0, l...)
		is(t, "Begin", e, want)
	}
}

// Beside an error all else is just zero: no list, not even an empty one with room.
func TestZeroBesideErrors(t *testing.T) {
	x := programOf(t, owned("(IJ)V", 1, 4, "nop, sipush 1, pop, return"), static("()V", 0, 0, "return"))
	p, lots := x.Program, marked("i1 l2 t0 3|")
	for k, f := range []func() (api.Call, api.Errno){
		func() (api.Call, api.Errno) { return call.Begin(p, 99, 0, valuesOf("1 i2 l3")...) },
		func() (api.Call, api.Errno) { return call.Begin(p, inB, 2, valuesOf("1 i2 l3")...) },
		func() (api.Call, api.Errno) { return call.Begin(p, inB, 0, valuesOf("1 i2 i3")...) },
		func() (api.Call, api.Errno) { return call.Begin(p, inB, 0, valuesOf("1 i2")...) },
		func() (api.Call, api.Errno) { return call.Begin(p, inB, 0, valuesOf("1 i2 l3 l4")...) },
		func() (api.Call, api.Errno) { return call.Begin(p, inB, 1, valuesOf("1")...) },
		func() (api.Call, api.Errno) { c, _, e := call.Pop(lots); return c, e },
		func() (api.Call, api.Errno) {
			c, _, e := call.Pop(api.Call{Stack: make([]api.Value, 0, 9)})
			return c, e
		},
		func() (api.Call, api.Errno) { return call.Set(lots, 4, valuesOf("i1")[0]) },
		func() (api.Call, api.Errno) { return call.Set(lots, -1, valuesOf("i1")[0]) },
		func() (api.Call, api.Errno) { return call.Set(lots, 3, valuesOf("l1")[0]) },
		func() (api.Call, api.Errno) { return call.Set(api.Call{Lock: 7}, 0, valuesOf("i1")[0]) },
	} {
		if c, e := f(); !reflect.DeepEqual(c, api.Call{}) || e == api.OK {
			t.Errorf("%d: %v %v", k, c, e)
		}
	}
	for _, at := range []int{2, 3, 6, -1} {
		c := x.at(0, "end", "1 i1 l2 t0|")
		c.At = at
		if i, next, e := call.Now(p, c); !reflect.DeepEqual(i, api.Instr{}) || next != 0 || e != api.ErrCode {
			t.Errorf("Now at %d: %v %d %v", at, i, next, e)
		}
	}
	isCall(t, "the call that was refused", lots, api.OK, marked("i1 l2 t0 3|"), api.OK)
}

// What is refused, and what is answered, changes nothing of a program.
func TestProgramsStay(t *testing.T) {
	x := programOf(t, owned("(IJ)V", 1, 4, "a: nop, b: iconst_1, c: tableswitch @d 5 @d, d: = b I J T |, try @a @b @h Bad, return, h: = b I J T | Bad, athrow"))
	was := x.All()
	l := heapOf("b Worse")
	for range 3 {
		c, _ := begin(t, x.Program, inB, 0, valuesOf("1 i2 l3")...)
		begin(t, x.Program, inB, 0, valuesOf("1 i2")...)
		i, _, _ := call.Now(x.Program, x.at(0, "c", ""))
		scribble(1, c.Locals)
		i.Cases[0] = api.Case{Key: 9, To: 9}
		nowEverywhere(t, x, 0)
		catches(t, x, 0, "Worse", "a b", "h no")
		is(t, "fits", fits(t, x.Program, l, x.at(0, "h", "1 i1 l1 t0 | 2")), true)
		if !reflect.DeepEqual(x.All(), was) {
			t.Fatal("the program is another one")
		}
	}
}
