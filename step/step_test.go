package step_test

import (
	"testing"

	"larch/api"
)

// Tests of 18.1: constants, locals, and what moves on the stack.

// The chapter's example.
func TestExample(t *testing.T) {
	x := programOf(t, static("()V", 2, 0, "iconst_2, iconst_3, iadd, d: pop, iconst_1, iconst_0, f: idiv, pop, return"))
	s := scene{call: api.Call{Class: inB}}
	for range 3 {
		s = steps(t, x.Program, s).scene
	}
	isResult(t, "iadd", result{scene: s}, result{scene: scene{call: api.Call{Class: inB, At: x.at(0, "d"), Stack: valuesOf("i5")}}})
	for range 3 {
		s = steps(t, x.Program, s).scene
	}
	isResult(t, "idiv", steps(t, x.Program, s), result{scene: scene{call: api.Call{Class: inB, At: x.at(0, "f"), Stack: valuesOf("i1 i0")}}, effect: api.Effect{Kind: api.EThrow, Name: "Arithmetic"}})
}

func TestConstants(t *testing.T) {
	for instr, value := range map[string]string{
		"aconst_null": "0", "iconst_m1": "i-1", "iconst_0": "i0", "iconst_1": "i1", "iconst_2": "i2", "iconst_3": "i3", "iconst_4": "i4", "iconst_5": "i5",
		"lconst_0": "l0", "lconst_1": "l1", "bipush -128": "i-128", "bipush 127": "i127", "bipush 0": "i0", "sipush -32768": "i-32768", "sipush 32767": "i32767",
		"ldc {int 7}": "i7", "ldc {int -2147483648}": "i-2147483648", "ldc_w {int 2147483647}": "i2147483647", "ldc_w {int 0}": "i0",
		"ldc2_w {long 8}": "l8", "ldc2_w {long -9223372036854775808}": "l-9223372036854775808", "ldc2_w {long 9223372036854775807}": "l9223372036854775807",
	} {
		goes(t, instr, "|", "| "+value)
		goes(t, instr, "i5 l6 t0 |", "i5 l6 t0 | "+value)
	}
	goes(t, "nop", "|", "|")
	goes(t, "nop", "i1 2 |", "i1 2 |")
}

func TestLoads(t *testing.T) {
	goes(t, "iload 0", "i5 |", "i5 | i5")
	goes(t, "iload 1", "i5 i-6 i7 |", "i5 i-6 i7 | i-6")
	goes(t, "lload 0", "l5 t0 |", "l5 t0 | l5")
	goes(t, "lload 1", "i5 l-7 t0 l8 t0 |", "i5 l-7 t0 l8 t0 | l-7")
	goes(t, "aload 0", "3 |", "3 | 3")
	goes(t, "aload 2", "l1 t0 5 |", "l1 t0 5 | 5")
	goes(t, "aload 1", "1 0 3 |", "1 0 3 | 0")
	for k, name := range []string{"0", "1", "2", "3"} {
		out := []string{"i1 i2 i3 i4 | i1", "i1 i2 i3 i4 | i2", "i1 i2 i3 i4 | i3", "i1 i2 i3 i4 | i4"}[k]
		goes(t, "iload_"+name, "i1 i2 i3 i4 |", out)
		out = []string{"1 2 3 4 | 1", "1 2 3 4 | 2", "1 2 3 4 | 3", "1 2 3 4 | 4"}[k]
		goes(t, "aload_"+name, "1 2 3 4 |", out)
		in := []string{"l1 t0", "t0 l1 t0", "i1 t0 l1 t0", "i1 2 t0 l1 t0"}[k]
		goes(t, "lload_"+name, in+" |", in+" | l1")
	}
	goes(t, "iload 63", "l1 t0 i2 i3 i4 i5 i6 i7 i8 i9 i10 i11 i12 i13 i14 i15 i16 i17 i18 i19 i20 i21 i22 i23 i24 i25 i26 i27 i28 i29 i30 i31 i32 i33 i34 i35 i36 i37 i38 i39 i40 i41 i42 i43 i44 i45 i46 i47 i48 i49 i50 i51 i52 i53 i54 i55 i56 i57 i58 i59 i60 i61 i62 i63 |",
		"l1 t0 i2 i3 i4 i5 i6 i7 i8 i9 i10 i11 i12 i13 i14 i15 i16 i17 i18 i19 i20 i21 i22 i23 i24 i25 i26 i27 i28 i29 i30 i31 i32 i33 i34 i35 i36 i37 i38 i39 i40 i41 i42 i43 i44 i45 i46 i47 i48 i49 i50 i51 i52 i53 i54 i55 i56 i57 i58 i59 i60 i61 i62 i63 | i63")
}

// A local that there is not, and one of another kind. The frame has more locals than the call, where there are too few.
func TestLoadsOfOthers(t *testing.T) {
	for _, x := range []struct{ instr, right, wrong string }{
		{"iload 0", "i1", "l1 1 0 t0 n0"}, {"lload 0", "l1 t0", "i1 1 0 t0 n0"}, {"aload 0", "1", "i1 l1 t0 n0"}, {"iinc 0 1", "i1", "l1 1 0 t0 n0"},
	} {
		for _, v := range valuesOf(x.wrong) {
			y, s := doing(t, x.instr, x.right+" |")
			s.call.Locals[0] = v
			isResult(t, x.instr, steps(t, y.Program, s), result{e: api.ErrStack})
		}
		stuck(t, x.instr, x.right+" |", "|")
	}
	stuck(t, "iload 1", "i1 i2 |", "i1 |")
	stuck(t, "lload 1", "i1 l2 t0 |", "i1 |")
	stuck(t, "aload 1", "i1 2 |", "i1 |")
	stuck(t, "iinc 1 1", "i1 i2 |", "i1 |")
	stuck(t, "iload 2", "i1 i2 i3 |", "i1 i2 |")
	// A long's second half is not asked for.
	x, s := doing(t, "lload 1", "i1 l2 t0 |")
	goesFrom(t, x, s.calledWith("i1 l2 |"), "lload of the last", "next", "i1 l2 | l2")
}

func TestStores(t *testing.T) {
	goes(t, "istore 0", "t0 | i5", "i5 |")
	goes(t, "istore 2", "i1 i2 i3 | i5", "i1 i2 i5 |")
	goes(t, "lstore 0", "t0 t0 | l5", "l5 t0 |")
	goes(t, "lstore 1", "i1 i2 3 | l5", "i1 l5 t0 |")
	goes(t, "astore 0", "i1 | 5", "5 |")
	goes(t, "astore 1", "i1 l2 t0 | 0", "i1 0 t0 |")
	for k, name := range []string{"0", "1", "2", "3"} {
		out := []string{"i9 i2 i3 i4 t0", "i1 i9 i3 i4 t0", "i1 i2 i9 i4 t0", "i1 i2 i3 i9 t0"}[k]
		goes(t, "istore_"+name, "i1 i2 i3 i4 t0 | i9", out+" |")
		out = []string{"3 i2 i3 i4 t0", "i1 3 i3 i4 t0", "i1 i2 3 i4 t0", "i1 i2 i3 3 t0"}[k]
		goes(t, "astore_"+name, "i1 i2 i3 i4 t0 | 3", out+" |")
		out = []string{"l9 t0 i3 i4 t0", "i1 l9 t0 i4 t0", "i1 i2 l9 t0 t0", "i1 i2 i3 l9 t0"}[k]
		goes(t, "lstore_"+name, "i1 i2 i3 i4 t0 | l9", out+" |")
	}
}

// Longs over others, and others over longs: what has lost its other half is gone.
func TestStoresBesideLongs(t *testing.T) {
	goes(t, "istore 1", "l5 t0 | i6", "t0 i6 |")
	goes(t, "istore 0", "l5 t0 | i6", "i6 t0 |")
	goes(t, "astore 1", "l5 t0 i3 | 4", "t0 4 i3 |")
	goes(t, "lstore 1", "l5 t0 i3 | l6", "t0 l6 t0 |")
	goes(t, "lstore 0", "t0 l5 t0 | l6", "l6 t0 t0 |")
	goes(t, "lstore 1", "l5 t0 l7 t0 | l6", "t0 l6 t0 t0 |")
	goes(t, "lstore 2", "l5 t0 l7 t0 | l6", "l5 t0 l6 t0 |")
	goes(t, "istore 2", "l5 t0 l7 t0 | i6", "l5 t0 i6 t0 |")
	goes(t, "iinc 1 3", "i5 i6 l7 t0 |", "i5 i9 l7 t0 |")
	goes(t, "iinc 2 3", "l5 t0 i6 |", "l5 t0 i9 |")
}

func TestStoresOfOthers(t *testing.T) {
	stuck(t, "istore 1", "i1 i2 | i3", "i1 | i3")
	stuck(t, "lstore 1", "i1 i2 i3 | l3", "i1 i2 | l3")
	stuck(t, "lstore 0", "i1 i2 | l3", "i1 | l3")
	stuck(t, "astore 1", "i1 i2 | 3", "i1 | 3")
	stuck(t, "astore 0", "i1 | 3", "| 3")
}

func TestCount(t *testing.T) {
	goes(t, "iinc 0 1", "i5 |", "i6 |")
	goes(t, "iinc 1 -128", "i5 i0 |", "i5 i-128 |")
	goes(t, "iinc 0 127", "i5 |", "i132 |")
	goes(t, "iinc 0 0", "i5 |", "i5 |")
	goes(t, "iinc 0 1", "i2147483647 |", "i-2147483648 |")
	goes(t, "iinc 0 127", "i2147483647 |", "i-2147483522 |")
	goes(t, "iinc 0 -1", "i-2147483648 |", "i2147483647 |")
	goes(t, "iinc 0 -128", "i-2147483648 |", "i2147483520 |")
	goes(t, "iinc 0 1", "i2147483646 |", "i2147483647 |")
	goes(t, "iinc 0 -1", "i-2147483647 |", "i-2147483648 |")
}

func TestShuffles(t *testing.T) {
	for _, v := range []string{"i5", "7", "0"} {
		goes(t, "pop", "| "+v, "|")
		goes(t, "dup", "| "+v, "| "+v+" "+v)
		for _, u := range []string{"i6", "3", "0"} {
			goes(t, "pop2", "| "+u+" "+v, "|")
			goes(t, "dup_x1", "| "+u+" "+v, "| "+v+" "+u+" "+v)
			goes(t, "dup2", "| "+u+" "+v, "| "+u+" "+v+" "+u+" "+v)
			goes(t, "swap", "| "+u+" "+v, "| "+v+" "+u)
		}
	}
	goes(t, "pop2", "| l5", "|")
	goes(t, "dup2", "| l5", "| l5 l5")
	goes(t, "pop2", "| l4 l5", "| l4")
	goes(t, "dup2", "| i4 l5", "| i4 l5 l5")
}

// Where no long may be.
func TestShufflesOfLongs(t *testing.T) {
	for _, x := range []struct{ instr, right, wrong string }{
		{"pop", "| i1", "| l1"}, {"dup", "| i1", "| l1"}, {"dup_x1", "| i1 i2", "| l1 i2"}, {"dup_x1", "| i1 i2", "| i1 l2"}, {"dup_x1", "| i1 i2", "| l1 l2"},
		{"swap", "| i1 i2", "| l1 i2"}, {"swap", "| i1 i2", "| i1 l2"}, {"swap", "| i1 i2", "| l1 l2"},
		{"pop2", "| i1 i2", "| l1 i2"}, {"dup2", "| i1 i2", "| l1 i2"}, {"dup2", "| 1 2", "| l1 2"}, {"pop2", "| 1 2", "| l1 0"},
	} {
		stuck(t, x.instr, x.right, x.wrong)
		stuck(t, x.instr, x.right, "i0 | i9 "+x.wrong[2:])
	}
}
