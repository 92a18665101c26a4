package step_test

import (
	"strconv"
	"testing"

	"larch/api"
)

// Tests of 18.1: arithmetic.

func TestSumsOfInts(t *testing.T) {
	for _, x := range []struct{ instr, in, out string }{
		{"iadd", "i2 i3", "i5"}, {"iadd", "i2147483647 i1", "i-2147483648"}, {"iadd", "i-2147483648 i-1", "i2147483647"},
		{"isub", "i2 i3", "i-1"}, {"isub", "i-2147483648 i1", "i2147483647"}, {"isub", "i0 i-2147483648", "i-2147483648"},
		{"imul", "i-4 i3", "i-12"}, {"imul", "i65536 i65536", "i0"}, {"imul", "i2147483647 i2147483647", "i1"}, {"imul", "i-2147483648 i-1", "i-2147483648"},
		{"idiv", "i7 i2", "i3"}, {"idiv", "i-7 i2", "i-3"}, {"idiv", "i7 i-2", "i-3"}, {"idiv", "i-2147483648 i-1", "i-2147483648"}, {"idiv", "i0 i5", "i0"},
		{"irem", "i7 i2", "i1"}, {"irem", "i-7 i2", "i-1"}, {"irem", "i7 i-2", "i1"}, {"irem", "i-2147483648 i-1", "i0"}, {"irem", "i-2147483648 i2147483647", "i-1"},
		{"ishl", "i1 i31", "i-2147483648"}, {"ishl", "i1 i32", "i1"}, {"ishl", "i3 i33", "i6"}, {"ishl", "i1 i-1", "i-2147483648"},
		{"ishr", "i-8 i1", "i-4"}, {"ishr", "i-1 i31", "i-1"}, {"ishr", "i-7 i32", "i-7"}, {"ishr", "i-7 i-31", "i-4"},
		{"iushr", "i-1 i28", "i15"}, {"iushr", "i-1 i0", "i-1"}, {"iushr", "i-1 i33", "i2147483647"}, {"iushr", "i-2147483648 i31", "i1"},
		{"iand", "i12 i10", "i8"}, {"iand", "i-1 i-2147483648", "i-2147483648"}, {"ior", "i12 i10", "i14"}, {"ior", "i-2147483648 i1", "i-2147483647"},
		{"ixor", "i12 i10", "i6"}, {"ixor", "i-1 i2147483647", "i-2147483648"},
	} {
		goes(t, x.instr, "| "+x.in, "| "+x.out)
	}
}

func TestSumsOfLongs(t *testing.T) {
	for _, x := range []struct{ instr, in, out string }{
		{"ladd", "l2 l3", "l5"}, {"ladd", "l9223372036854775807 l1", "l-9223372036854775808"}, {"ladd", "l2147483647 l1", "l2147483648"},
		{"lsub", "l2 l3", "l-1"}, {"lsub", "l-9223372036854775808 l1", "l9223372036854775807"},
		{"lmul", "l4294967296 l4294967296", "l0"}, {"lmul", "l-4 l3", "l-12"}, {"lmul", "l-9223372036854775808 l-1", "l-9223372036854775808"},
		{"ldiv", "l-7 l2", "l-3"}, {"ldiv", "l-9223372036854775808 l-1", "l-9223372036854775808"}, {"ldiv", "l-2147483648 l-1", "l2147483648"},
		{"lrem", "l-7 l2", "l-1"}, {"lrem", "l7 l-2", "l1"}, {"lrem", "l-9223372036854775808 l-1", "l0"},
		{"lshl", "l1 i63", "l-9223372036854775808"}, {"lshl", "l1 i64", "l1"}, {"lshl", "l1 i32", "l4294967296"}, {"lshl", "l1 i-1", "l-9223372036854775808"},
		{"lshr", "l-8 i1", "l-4"}, {"lshr", "l-8 i65", "l-4"}, {"lshr", "l-1 i63", "l-1"}, {"lshr", "l4294967296 i32", "l1"},
		{"lushr", "l-1 i60", "l15"}, {"lushr", "l-1 i64", "l-1"}, {"lushr", "l-1 i-63", "l9223372036854775807"},
		{"land", "l12 l10", "l8"}, {"lor", "l12 l10", "l14"}, {"lxor", "l12 l10", "l6"}, {"lxor", "l-1 l9223372036854775807", "l-9223372036854775808"},
		{"lcmp", "l2 l3", "i-1"}, {"lcmp", "l3 l3", "i0"}, {"lcmp", "l4 l3", "i1"}, {"lcmp", "l-9223372036854775808 l9223372036854775807", "i-1"},
		{"lcmp", "l9223372036854775807 l-9223372036854775808", "i1"}, {"lcmp", "l4294967296 l0", "i1"},
	} {
		goes(t, x.instr, "| "+x.in, "| "+x.out)
	}
}

func TestSumsOfOne(t *testing.T) {
	for _, x := range []struct{ instr, in, out string }{
		{"ineg", "i5", "i-5"}, {"ineg", "i-2147483648", "i-2147483648"}, {"ineg", "i2147483647", "i-2147483647"}, {"ineg", "i0", "i0"},
		{"lneg", "l5", "l-5"}, {"lneg", "l-9223372036854775808", "l-9223372036854775808"}, {"lneg", "l-2147483648", "l2147483648"},
		{"i2l", "i-5", "l-5"}, {"i2l", "i-2147483648", "l-2147483648"}, {"i2l", "i2147483647", "l2147483647"},
		{"l2i", "l-5", "i-5"}, {"l2i", "l2147483648", "i-2147483648"}, {"l2i", "l4294967296", "i0"}, {"l2i", "l9223372036854775807", "i-1"}, {"l2i", "l-9223372036854775808", "i0"},
		{"i2b", "i127", "i127"}, {"i2b", "i128", "i-128"}, {"i2b", "i-129", "i127"}, {"i2b", "i256", "i0"}, {"i2b", "i2147483647", "i-1"},
		{"i2c", "i-1", "i65535"}, {"i2c", "i65536", "i0"}, {"i2c", "i-2147483648", "i0"}, {"i2c", "i65535", "i65535"},
		{"i2s", "i32767", "i32767"}, {"i2s", "i32768", "i-32768"}, {"i2s", "i-32769", "i32767"}, {"i2s", "i65536", "i0"},
	} {
		goes(t, x.instr, "| "+x.in, "| "+x.out)
	}
}

// A division by 0, whatever is divided.
func TestDivisionByNought(t *testing.T) {
	for _, n := range []int{0, 1, -1, leastInt, mostInt} {
		throws(t, "idiv", "| i"+strconv.Itoa(n)+" i0", "Arithmetic")
		throws(t, "irem", "i7 | i"+strconv.Itoa(n)+" i0", "Arithmetic")
	}
	for _, n := range []int{0, 1, -1, leastLong, mostLong, 1 << 32} {
		throws(t, "ldiv", "| l"+strconv.Itoa(n)+" l0", "Arithmetic")
		throws(t, "lrem", "l7 t0 | l"+strconv.Itoa(n)+" l0", "Arithmetic")
	}
	// By a long whose lowest half alone is 0 it is none.
	goes(t, "ldiv", "| l8589934592 l4294967296", "| l2")
}

// A number that no int is.
func TestSumsOfNoInts(t *testing.T) {
	for _, instr := range []string{"iadd", "isub", "imul", "idiv", "irem", "ishl", "ishr", "iushr", "iand", "ior", "ixor", "if_icmplt @there", "if_icmpeq @there"} {
		stuck(t, instr, "| i1 i2", "| i1 i2147483648")
		stuck(t, instr, "| i1 i2", "| i-2147483649 i2")
	}
	for _, instr := range []string{"ineg", "i2l", "i2b", "i2c", "i2s", "ifeq @there", "ifgt @there"} {
		stuck(t, instr, "| i1", "| i2147483648")
		stuck(t, instr, "| i1", "| i-2147483649")
	}
	stuck(t, "iinc 0 1", "i1 |", "i2147483648 |")
	stuck(t, "bastore", "| 7 i0 i1", "| 7 i0 i2147483648")
}

// All sums of numbers at bounds, and beside them.
func TestSumsAtBounds(t *testing.T) {
	ints := []int{0, 1, 2, -1, -2, 31, 32, 33, 127, 128, -128, -129, 32767, 32768, 65535, 65536, leastInt, leastInt + 1, mostInt, mostInt - 1}
	longs := append([]int{63, 64, 65, leastInt - 1, mostInt + 1, 1 << 32, 1<<32 + 1, leastLong, leastLong + 1, mostLong, mostLong - 1}, ints...)
	of := map[string][]int{"i": ints, "l": longs}
	for _, x := range []struct{ kinds, instrs string }{
		{"ii", "iadd isub imul idiv irem ishl ishr iushr iand ior ixor"}, {"ll", "ladd lsub lmul ldiv lrem land lor lxor lcmp"}, {"li", "lshl lshr lushr"},
	} {
		for _, instr := range wordsOf(x.instrs) {
			p, s := doing(t, instr, "| "+x.kinds[:1]+"1 "+x.kinds[1:]+"1")
			for _, a := range of[x.kinds[:1]] {
				for _, b := range of[x.kinds[1:]] {
					s.call.Stack[0].N, s.call.Stack[1].N = a, b
					if _, r := ask(p.Program, s); !r.same(plainStep(p.Program, s)) {
						t.Fatalf("%s of %d, %d: %v", instr, a, b, r)
					}
				}
			}
		}
	}
	for instr, kind := range map[string]string{"ineg": "i", "lneg": "l", "i2l": "i", "l2i": "l", "i2b": "i", "i2c": "i", "i2s": "i"} {
		p, s := doing(t, instr, "| "+kind+"1")
		for _, a := range of[kind] {
			s.call.Stack[0].N = a
			if _, r := ask(p.Program, s); !r.same(plainStep(p.Program, s)) {
				t.Fatalf("%s of %d: %v", instr, a, r)
			}
		}
	}
}

// The kinds of what is pushed are those that chapter 11 tells, so that what comes may be gone on with.
func TestSumsGoOn(t *testing.T) {
	x := programOf(t, static("()J", 6, 0, "iconst_5, i2l, bipush -3, i2l, lmul, iconst_2, lshl, ldc2_w {long -61}, lcmp, i2b, i2l, lreturn"))
	s := scene{call: api.Call{Class: inB}}
	for range 11 {
		r := steps(t, x.Program, s)
		is(t, "effect", r.effect.Kind, api.EGo)
		s = r.scene
	}
	isResult(t, "lreturn", steps(t, x.Program, s), result{scene: s, effect: api.Effect{Kind: api.EBack, Value: valueOf("l1")}})
}
