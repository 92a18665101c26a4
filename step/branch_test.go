package step_test

import (
	"strconv"
	"strings"
	"testing"

	"larch/api"
)

// Tests of 18.1: branches, and what goes back to the caller.

// leads asks where a branch leads to, from a stack.
func leads(t *testing.T, instr, in, label string) {
	t.Helper()
	x, s := doing(t, instr, in)
	locals, _, _ := strings.Cut(in, "|")
	goesFrom(t, x, s, instr+" of "+in, label, locals+"|")
}

// Each condition, at the numbers beside.
func TestConditionsOfOne(t *testing.T) {
	for _, x := range []struct{ instr, holds string }{
		{"ifeq @there", "n y n"}, {"ifne @there", "y n y"}, {"iflt @there", "y n n"}, {"ifge @there", "n y y"}, {"ifgt @there", "n n y"}, {"ifle @there", "y y n"},
	} {
		for k, holds := range wordsOf(x.holds) {
			label := map[string]string{"y": "there", "n": "next"}[holds]
			for _, n := range [][]int{{-1, leastInt}, {0, 0}, {1, mostInt}}[k] {
				leads(t, x.instr, "i7 | i"+strconv.Itoa(n), label)
			}
		}
	}
}

func TestConditionsOfTwo(t *testing.T) {
	for _, x := range []struct{ instr, holds string }{
		{"if_icmpeq @there", "n y n"}, {"if_icmpne @there", "y n y"}, {"if_icmplt @there", "y n n"}, {"if_icmpge @there", "n y y"}, {"if_icmpgt @there", "n n y"},
		{"if_icmple @there", "y y n"},
	} {
		for k, holds := range wordsOf(x.holds) {
			label := map[string]string{"y": "there", "n": "next"}[holds]
			for _, in := range [][]string{{"i4 i5", "i-2147483648 i2147483647", "i-1 i0"}, {"i5 i5", "i-2147483648 i-2147483648", "i0 i0"}, {"i6 i5", "i2147483647 i-2147483648", "i0 i-1"}}[k] {
				leads(t, x.instr, "| "+in, label)
			}
		}
	}
}

// Of references just the numbers count.
func TestConditionsOfReferences(t *testing.T) {
	for _, x := range []struct {
		in   string
		same bool
	}{{"0 0", true}, {"0 1", false}, {"1 0", false}, {"1 1", true}, {"1 2", false}, {"5 5", true}, {"5 6", false}, {"7 19", false}} {
		labels := map[bool]string{true: "there", false: "next"}
		leads(t, "if_acmpeq @there", "| "+x.in, labels[x.same])
		leads(t, "if_acmpne @there", "| "+x.in, labels[!x.same])
	}
	leads(t, "ifnull @there", "| 0", "there")
	leads(t, "ifnull @there", "| 1", "next")
	leads(t, "ifnull @there", "| 5", "next")
	leads(t, "ifnonnull @there", "| 0", "next")
	leads(t, "ifnonnull @there", "1 | 1", "there")
	leads(t, "ifnonnull @there", "| 20", "there")
}

func TestJumps(t *testing.T) {
	leads(t, "goto @there", "|", "there")
	leads(t, "goto @here", "i1 l2 t0 |", "here")
	leads(t, "goto @next", "3 |", "next")
	x := programOf(t, static("()V", 1, 0, "nop, back: = |, nop, nop, here: goto @back"))
	s := standard()
	s.call = api.Call{Class: inB, At: x.at(0, "here")}
	goesFrom(t, x, s, "goto", "back", "|")
}

// switching asks where a switch leads to, of numbers.
func switching(t *testing.T, instr string, labels map[int]string) {
	t.Helper()
	x := programOf(t, static("(I)V", 1, 1, "iload_0, here: "+instr+", a: = I |, return, b: = I |, nop, return, c: = I |, nop, nop, return, d: = T |, return"))
	s := standard().calledWith("i5 | i0")
	s.call.Class, s.call.At = inB, x.at(0, "here")
	for n, label := range labels {
		s.call.Stack[0].N = n
		goesFrom(t, x, s, instr+" of "+strconv.Itoa(n), label, "i5 |")
	}
}

// Each key, those beside them, and the bounds of an int.
func TestTables(t *testing.T) {
	switching(t, "tableswitch @d -2 @a @b @a @c", map[int]string{-3: "d", -2: "a", -1: "b", 0: "a", 1: "c", 2: "d", leastInt: "d", mostInt: "d"})
	switching(t, "tableswitch @a 7 @c", map[int]string{6: "a", 7: "c", 8: "a", -7: "a", 0: "a"})
	switching(t, "tableswitch @d 2147483646 @a @b", map[int]string{mostInt: "b", mostInt - 1: "a", mostInt - 2: "d", leastInt: "d", -1: "d"})
	switching(t, "tableswitch @d -2147483648 @a @b", map[int]string{leastInt: "a", leastInt + 1: "b", leastInt + 2: "d", mostInt: "d", 0: "d"})
}

func TestSearches(t *testing.T) {
	switching(t, "lookupswitch @d -5:@a 0:@b 7:@c 9:@a", map[int]string{-6: "d", -5: "a", -4: "d", -1: "d", 0: "b", 1: "d", 6: "d", 7: "c", 8: "d", 9: "a", 10: "d", 5: "d", leastInt: "d", mostInt: "d"})
	switching(t, "lookupswitch @c", map[int]string{0: "c", 1: "c", -1: "c", leastInt: "c", mostInt: "c"})
	switching(t, "lookupswitch @d -2147483648:@a 2147483647:@b", map[int]string{leastInt: "a", mostInt: "b", leastInt + 1: "d", mostInt - 1: "d", 0: "d"})
}

// What goes back leaves all as it was.
func TestAnswers(t *testing.T) {
	for _, x := range []struct{ instr, in, value string }{
		{"ireturn", "i5 l6 t0 | i7", "i7"}, {"ireturn", "| i-2147483648", "i-2147483648"}, {"lreturn", "i5 | l8", "l8"}, {"lreturn", "| l9223372036854775807", "l9223372036854775807"},
		{"areturn", "| 3", "3"}, {"areturn", "| 0", "0"}, {"areturn", "5 | 5", "5"}, {"areturn", "| 1 3", "3"}, {"ireturn", "| i4 l5 i6", "i6"}, {"lreturn", "| l4 l5", "l5"},
	} {
		stays(t, x.instr, x.in, api.Effect{Kind: api.EBack, Value: valueOf(x.value)})
	}
	stays(t, "return", "|", api.Effect{Kind: api.EBack})
	stays(t, "return", "i5 l6 t0 | i7 l8 3", api.Effect{Kind: api.EBack})
}
