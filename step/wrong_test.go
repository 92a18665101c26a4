package step_test

import (
	"slices"
	"strconv"
	"strings"
	"testing"

	"larch/api"
)

// Tests of 18.1: what is refused. (A program that was made has no instruction that is not in the list, no constant of another kind,
// and calls no static method that there is not.)

// every is each instruction, with just what it pops on the stack, and locals where it takes them.
func every() [][2]string {
	return [][2]string{
		{"nop", "|"}, {"aconst_null", "|"}, {"iconst_m1", "|"}, {"iconst_5", "|"}, {"lconst_1", "|"}, {"bipush 7", "|"}, {"sipush 7", "|"}, {"ldc {int 7}", "|"}, {"ldc2_w {long 7}", "|"},
		{"iload 0", "i1 |"}, {"lload 0", "l1 t0 |"}, {"aload 0", "1 |"}, {"istore 0", "t0 | i1"}, {"lstore 0", "t0 t0 | l1"}, {"astore 0", "t0 | 1"}, {"iinc 0 1", "i1 |"},
		{"iaload", "| 5 i0"}, {"laload", "| 6 i0"}, {"aaload", "| 8 i0"}, {"baload", "| 7 i0"}, {"iastore", "| 5 i0 i9"}, {"lastore", "| 6 i0 l9"}, {"aastore", "| 8 i0 1"}, {"bastore", "| 7 i0 i9"},
		{"pop", "| i1"}, {"pop2", "| i1 2"}, {"pop2", "| l1"}, {"dup", "| i1"}, {"dup_x1", "| i1 2"}, {"dup2", "| i1 2"}, {"dup2", "| l1"}, {"swap", "| i1 2"},
		{"iadd", "| i1 i2"}, {"ladd", "| l1 l2"}, {"isub", "| i1 i2"}, {"lsub", "| l1 l2"}, {"imul", "| i1 i2"}, {"lmul", "| l1 l2"}, {"idiv", "| i1 i2"}, {"ldiv", "| l1 l2"},
		{"irem", "| i1 i2"}, {"lrem", "| l1 l2"}, {"ineg", "| i1"}, {"lneg", "| l1"}, {"ishl", "| i1 i2"}, {"lshl", "| l1 i2"}, {"ishr", "| i1 i2"}, {"lshr", "| l1 i2"},
		{"iushr", "| i1 i2"}, {"lushr", "| l1 i2"}, {"iand", "| i1 i2"}, {"land", "| l1 l2"}, {"ior", "| i1 i2"}, {"lor", "| l1 l2"}, {"ixor", "| i1 i2"}, {"lxor", "| l1 l2"},
		{"i2l", "| i1"}, {"l2i", "| l1"}, {"i2b", "| i1"}, {"i2c", "| i1"}, {"i2s", "| i1"}, {"lcmp", "| l1 l2"},
		{"ifeq @there", "| i1"}, {"ifne @there", "| i1"}, {"iflt @there", "| i1"}, {"ifge @there", "| i1"}, {"ifgt @there", "| i1"}, {"ifle @there", "| i1"},
		{"if_icmpeq @there", "| i1 i2"}, {"if_icmpne @there", "| i1 i2"}, {"if_icmplt @there", "| i1 i2"}, {"if_icmpge @there", "| i1 i2"}, {"if_icmpgt @there", "| i1 i2"}, {"if_icmple @there", "| i1 i2"},
		{"if_acmpeq @there", "| 1 2"}, {"if_acmpne @there", "| 1 2"}, {"ifnull @there", "| 1"}, {"ifnonnull @there", "| 1"}, {"goto @there", "|"},
		{"tableswitch @there 3 @there @next", "| i1"}, {"lookupswitch @there 3:@next", "| i1"}, {"ireturn", "| i1"}, {"lreturn", "| l1"}, {"areturn", "| 1"}, {"return", "|"},
		{"getstatic {field a s I}", "|"}, {"putstatic {field a s I}", "| i1"}, {"putstatic {field a t J}", "| l1"}, {"putstatic {field b u La;}", "| 1"},
		{"getfield {field a x I}", "| 1"}, {"putfield {field a x I}", "| 1 i1"}, {"putfield {field a y J}", "| 1 l1"}, {"putfield {field a r La;}", "| 1 1"},
		{"invokevirtual {method a get ()I}", "| 1"}, {"invokevirtual {method a add (IJLa;[I)J}", "| 1 i1 l2 3 5"}, {"invokespecial {method a get ()I}", "| 1"},
		{"invokespecial {method a add (IJLa;[I)J}", "| 1 i1 l2 3 5"}, {"invokestatic {method a two (IJLa;)V}", "| i1 l2 3"}, {"invokestatic {method a none ()J}", "|"},
		{"invokestatic {method sys out (I)V}", "| i1"}, {"invokestatic {method sys in ()I}", "|"}, {"invokestatic {method sys spawn (LObject;)V}", "| 1"},
		{"new {class a}", "|"}, {"newarray 8", "| i1"}, {"newarray 10", "| i1"}, {"newarray 11", "| i1"}, {"anewarray {class a}", "| i1"}, {"arraylength", "| 5"}, {"athrow", "| 12"},
		{"checkcast {class a}", "| 1"}, {"instanceof {class a}", "| 1"}, {"monitorenter", "| 1"}, {"monitorexit", "| 1"},
	}
}

// isAny holds if an instruction takes all kinds but a long, or two of them for one.
func isAny(instr string) bool {
	return strings.HasPrefix(instr, "dup") || strings.HasPrefix(instr, "pop") || instr == "swap"
}

// refused asks whether a step answers an error, and nothing beside it.
func refused(t *testing.T, what string, x made, s scene, e api.Errno) {
	t.Helper()
	isResult(t, what, steps(t, x.Program, s), result{e: e})
}

// Each instruction is there, and is refused with a stack that is too short by one, and by more.
func TestShortStacks(t *testing.T) {
	for _, row := range every() {
		x, s := doing(t, row[0], row[1])
		is(t, row[0], steps(t, x.Program, s).e, api.OK)
		l := s.call.Stack
		for k := range l {
			s.call.Stack = l[k+1:] // what is popped first is there
			refused(t, row[0]+" of a short stack", x, s, api.ErrStack)
		}
	}
}

// A value of another kind, in each place.
func TestOtherKinds(t *testing.T) {
	for _, row := range every() {
		x, s := doing(t, row[0], row[1])
		l := s.call.Stack
		for k := range l {
			for _, v := range valuesOf("i1 l1 1 0 n0 t0") {
				if v.Kind == l[k].Kind {
					continue
				}
				s.call.Stack = slices.Clone(l)
				s.call.Stack[k] = v
				if isAny(row[0]) {
					steps(t, x.Program, s) // see the tests of these
					continue
				}
				refused(t, row[0]+" of another kind", x, s, api.ErrStack)
			}
		}
	}
}

// A heap that is not right, whatever is done.
func TestHeapsThatAreNotRight(t *testing.T) {
	for _, row := range every() {
		x, s := doing(t, row[0], row[1])
		for _, more := range []string{"-", "a -", "-:i1 a", "- -"} {
			s.heap = heapOf(standardHeap + " " + more)
			refused(t, row[0], x, s, api.ErrStack)
		}
	}
	for _, row := range [][2]string{{"nop", "|"}, {"new {class a}", "|"}, {"iconst_5", "|"}, {"return", "|"}, {"idiv", "| i1 i0"}, {"athrow", "| 0"}} {
		x, s := doing(t, row[0], row[1])
		for _, l := range [][]api.Object{manyObjects(4097), manyWords(65537), append(manyObjects(4096), api.Object{})} {
			s.heap = l
			refused(t, row[0], x, s, api.ErrStack)
		}
		for _, l := range [][]api.Object{manyObjects(4096), manyWords(65536), nil} {
			s.heap = l
			is(t, row[0], steps(t, x.Program, s).e, api.OK)
		}
	}
}

// Values that are right, but not those of the class or the method, and programs that no call made.
func TestMethodsThatAreNotThere(t *testing.T) {
	x, s := doing(t, "iadd", "| i1 i2")
	for _, c := range []api.Call{
		{Class: inB, Method: 1}, {Class: inB, Method: -1}, {Class: inB, Method: mostLong}, {Class: -1}, {Class: 0}, {Class: 9}, {Class: 18}, {Class: inB + 4},
		{Class: leastLong}, {Class: mostLong}, {Class: inA, Method: 5}, {Class: inMain, Method: 1},
	} {
		for _, at := range []int{0, 1, s.call.At, -1, 99} {
			c.At, c.Locals, c.Stack = at, s.call.Locals, s.call.Stack
			for _, l := range []string{standardHeap, "", "a -"} { // ahead of ErrCode and ErrStack
				refused(t, "not there", x, scene{heapOf(l), s.statics, c}, api.ErrNone)
			}
		}
	}
	for what, p := range noPrograms() {
		for _, l := range []string{standardHeap, "", "a -"} {
			refused(t, what, made{p, nil}, scene{heapOf(l), s.statics, s.call}, api.ErrNone)
			refused(t, what, made{p, nil}, scene{heap: heapOf(l)}, api.ErrNone)
		}
	}
}

func TestPlacesWithoutInstructions(t *testing.T) {
	x, s := doing(t, "sipush 300", "|")
	here := s.call.At
	for _, at := range []int{-1, here + 1, here + 2, x.at(0, "end"), x.at(0, "end") + 1, leastLong, mostLong, 1 << 32, 1<<32 + here} {
		s.call.At = at
		for _, l := range []string{standardHeap, "", "a -"} { // ahead of ErrStack
			s.heap = heapOf(l)
			refused(t, "at "+strconv.Itoa(at), x, s, api.ErrCode)
		}
	}
	y, s := doing(t, "tableswitch @there 3 @there @next", "| i4")
	for at := s.call.At + 1; at < y.at(0, "next"); at++ {
		s.call.At = at
		refused(t, "in a table", y, s, api.ErrCode)
	}
}

// Errors come ahead of what is thrown.
func TestErrorsAheadOfThrowing(t *testing.T) {
	stuck(t, "idiv", "| i1 i2", "| l1 i0")
	stuck(t, "ldiv", "| l1 l2", "| i1 l0")
	stuck(t, "iastore", "| 0 i1 i2", "| 0 i1 l2")
	stuck(t, "iastore", "| 0 i1 i2", "| 0 l1 i2")
	stuck(t, "aastore", "| 8 i9 1", "| 8 i9 i1")
	stuck(t, "putfield {field a x I}", "| 0 i1", "| 0 l1")
	stuck(t, "putfield {field a y J}", "| 0 l1", "| 0 i1")
	stuck(t, "invokevirtual {method a add (IJLa;[I)J}", "| 0 i1 l2 3 5", "| 0 i1 i2 3 5")
	stuck(t, "invokespecial {method a add (IJLa;[I)J}", "| 0 i1 l2 3 5", "| 0 l1 l2 3 5")
	stuck(t, "newarray 10", "| i-1", "| l-1")
	stuck(t, "iaload", "| 5 i9", "| 5 l9")
	stuck(t, "laload", "| 0 i0", "| l0 i0")
}

// What lies in an array, or a local, is of another kind than the instruction takes.
func TestWordsOfOtherKinds(t *testing.T) {
	for _, x := range []struct{ instr, in, changed string }{
		{"iaload", "| 5 i1", "5.1=l2"}, {"iaload", "| 5 i1", "5.1=2"}, {"iaload", "| 5 i1", "5.1=t0"}, {"laload", "| 6 i0", "6.0=i1"}, {"laload", "| 6 i0", "6.0=0"},
		{"baload", "| 7 i0", "7.0=l1"}, {"aaload", "| 8 i0", "8.0=i1"}, {"aaload", "| 8 i0", "8.0=n0"}, {"aaload", "| 8 i1", "8.1=l1"},
		{"iastore", "| 5 i1 i5", "5.1=l2"}, {"lastore", "| 6 i0 l5", "6.0=i2"}, {"bastore", "| 7 i0 i5", "7.0=2"}, {"aastore", "| 8 i0 1", "8.0=i2"}, {"aastore", "| 8 i0 0", "8.0=l2"},
	} {
		p, s := doing(t, x.instr, x.in)
		refused(t, x.instr+" with "+x.changed, p, s.changed(x.changed), api.ErrStack)
	}
}
