package call_test

import (
	"slices"
	"strings"
	"testing"

	"larch/api"
	"larch/link"
)

// Tests of 17.3: Catch.

// thrown are names of classes, of some that there are not, and of arrays.
func thrown() []string {
	return append(strings.Fields("Bad Worse side Throwable Object Null Index Arithmetic sys a b c Main nowhere [I [B [LBad; [LThrowable; Bad; LBad; bad"), "", " ", "[")
}

// catches asks Catch where labels are, for classes; "no" is where none is caught.
func catches(t *testing.T, x made, k int, class string, labels, wanted string) {
	t.Helper()
	l, want := strings.Fields(labels), strings.Fields(wanted)
	for n, label := range l {
		at, ok := catch(t, x.Program, x.at(k, label, "i1|i2"), class)
		if want[n] == "no" && (at != 0 || ok) || want[n] != "no" && (at != x.labels[k][want[n]] || !ok) {
			t.Errorf("Catch of %s at %s: %d %v, want %s", class, label, at, ok, want[n])
		}
	}
}

// catchesEverywhere asks Catch at all places of a method, and beside them, for all classes.
func catchesEverywhere(t *testing.T, x made, k int) {
	t.Helper()
	for _, name := range thrown() {
		for at := -2; at <= x.labels[k]["end"]+2; at++ {
			catch(t, x.Program, api.Call{Class: inB, Method: k, At: at}, name)
		}
		for _, at := range []int{leastLong, leastInt, mostInt, mostLong, 1 << 32} {
			catch(t, x.Program, api.Call{Class: inB, Method: k, At: at}, name)
		}
	}
}

func TestCatchWithNoHandlers(t *testing.T) {
	x := programOf(t, static("()V", 1, 0, "a: nop, b: = |, goto @c, c: = |, return"))
	for _, s := range thrown() {
		catches(t, x, 0, s, "a b c end", "no no no no")
	}
	catchesEverywhere(t, x, 0)
}

// ends are what handlers do, and the maps that they begin with.
const ends = ", return, any: = | Throwable, athrow, bad: = | Bad, athrow, worse: = | Throwable, pop, return, object: = | Object, pop, return"

// A handler has At from From on, up to To and not with it.
func TestCatchBetween(t *testing.T) {
	x := programOf(t, static("()V", 1, 0, "try @b @d @any, a: nop, b: nop, c: nop, d: nop"+ends))
	for _, s := range thrown() { // of the class 0, whatever is thrown
		catches(t, x, 0, s, "a b c d any end", "no any any no no no")
	}
	catchesEverywhere(t, x, 0)
	x = programOf(t, static("()V", 1, 0, "try @a @end @any, a: nop, b: nop"+ends))
	for _, s := range thrown() { // from the first one on, up to the end; it has itself, too
		catches(t, x, 0, s, "a b any bad end", "any any any any no")
	}
	catchesEverywhere(t, x, 0)
	x = programOf(t, static("()V", 1, 0, "try @c @d @object, a: nop, c: sipush 5, d: pop"+ends))
	for at, want := range map[int]bool{0: false, 1: true, 2: true, 3: true, 4: false} { // also where no instruction begins
		if to, ok := catch(t, x.Program, api.Call{Class: inB, At: at}, "side"); ok != want || ok && to != x.labels[0]["object"] {
			t.Errorf("at %d: %d %v", at, to, ok)
		}
	}
	catchesEverywhere(t, x, 0)
}

// A handler's class catches itself and those below it.
func TestCatchOfClasses(t *testing.T) {
	for _, x := range []struct{ class, to, caught string }{
		{"Throwable", "any", "Throwable Bad Worse side Null Index Arithmetic"}, {"Bad", "bad", "Bad Worse"}, {"Worse", "worse", "Worse"},
		{"Bad", "object", "Bad Worse"}, {"Null", "any", "Null"}, {"side", "worse", "side"}, {"Throwable", "object", "Throwable Bad Worse side Null Index Arithmetic"},
	} {
		m := programOf(t, static("()V", 1, 0, "try @b @c @"+x.to+" "+x.class+", a: nop, b: nop, c: nop"+ends))
		for _, s := range thrown() {
			want := "no"
			if slices.Contains(strings.Fields(x.caught), s) {
				want = x.to
			}
			catches(t, m, 0, s, "a b c", "no "+want+" no")
		}
		catchesEverywhere(t, m, 0)
	}
}

// Of several handlers the first one in order counts, not the nearest one, nor that of the nearest class.
func TestCatchInOrder(t *testing.T) {
	text := "try @b @d @bad Bad, try @c @e @worse Worse, try @b @e @any, a: nop, b: nop, c: nop, d: nop, e: nop" + ends
	x := programOf(t, static("()V", 1, 0, text))
	catches(t, x, 0, "Bad", "a b c d e", "no bad bad any no")
	catches(t, x, 0, "Worse", "a b c d e", "no bad bad worse no")
	catches(t, x, 0, "side", "a b c d e", "no any any any no")
	catches(t, x, 0, "nowhere", "a b c d e", "no any any any no")
	catchesEverywhere(t, x, 0)
	text = "try @b @e @any, try @b @d @bad Bad, try @a @e @worse Worse, a: nop, b: nop, c: nop, d: nop, e: nop" + ends
	x = programOf(t, static("()V", 1, 0, text))
	catches(t, x, 0, "Bad", "a b c d e", "no any any any no")
	catches(t, x, 0, "Worse", "a b c d e", "worse any any any no")
	catches(t, x, 0, "side", "a b c d e", "no any any any no")
	catchesEverywhere(t, x, 0)
	text = "try @a @b @any Worse, try @a @b @worse Worse, try @a @b @bad Bad, try @a @b @object Throwable, a: nop, b: nop" + ends
	x = programOf(t, static("()V", 1, 0, text))
	catches(t, x, 0, "Worse", "a b", "any no")
	catches(t, x, 0, "Bad", "a b", "bad no")
	catches(t, x, 0, "side", "a b", "object no")
	catches(t, x, 0, "Object", "a b", "no no")
	catchesEverywhere(t, x, 0)
}

// Handlers' classes are those of the pool of the call's own class, and methods have their own handlers.
func TestCatchOfEachMethod(t *testing.T) {
	x := programOf(t,
		static("()V", 1, 0, "a: nop, try @a @end @bad Bad"+ends), static("(I)V", 1, 1, "a: nop, return"),
		written{api.ASync, "m", "(J)V", 1, 3, "try @a @end @any Worse, a: nop, return, any: = b T T | Throwable, pop, return"},
	)
	catches(t, x, 0, "Bad", "a", "bad")
	catches(t, x, 1, "Bad", "a", "no")
	catches(t, x, 2, "Bad", "a", "no")
	catches(t, x, 2, "Worse", "a any", "any any")
	for _, name := range thrown() {
		catch(t, x.Program, api.Call{Class: 10}, name) // the main of the first class
	}
	for k := range 3 {
		catchesEverywhere(t, x, k)
	}
}

// As many handlers as there may be.
func TestCatchOfManyHandlers(t *testing.T) {
	x := programOf(t, static("()V", 1, 0, "a: nop, b: nop, c: nop"+strings.Repeat(", try @a @b @worse Worse", 254)+", try @b @c @bad Bad, try @a @c @any"+ends))
	is(t, "handlers", len(x.methods[0].Code.Handlers), 256)
	catches(t, x, 0, "Worse", "a b c", "worse bad no")
	catches(t, x, 0, "side", "a b c", "any any no")
	catchesEverywhere(t, x, 0)
}

// In methods, classes and programs that there are not nothing is caught.
func TestCatchOfNothing(t *testing.T) {
	x := programOf(t, static("()V", 1, 0, "a: nop, try @a @end @any"+ends))
	for _, class := range []int{leastLong, -1, 0, 1, 9, 11, 13, 17, 18, mostLong} {
		for _, k := range []int{leastLong, -1, 0, 1, mostLong} {
			if at, ok := catch(t, x.Program, api.Call{Class: class, Method: k}, "Bad"); at != 0 || ok {
				t.Errorf("%d %d: %d %v", class, k, at, ok)
			}
			for what, p := range none() {
				if at, ok := catch(t, p, api.Call{Class: class, Method: k}, "Bad"); at != 0 || ok {
					t.Errorf("%s: %d %d: %d %v", what, class, k, at, ok)
				}
			}
		}
	}
	for _, p := range []*link.Program{nil, {}} {
		if at, ok := catch(t, p, x.at(0, "a", ""), "Bad"); at != 0 || ok {
			t.Errorf("%d %v", at, ok)
		}
	}
}
