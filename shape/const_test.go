package shape_test

import (
	"math"
	"slices"
	"strings"
	"testing"

	"larch/api"
)

// Tests of 11.1: instructions that name a constant.

// naming are the Ops that name a constant, each with one that it takes, a stack for it, and what comes of that.
func naming() []row {
	return []row{
		{ops: "18 19", of: "int 5", out: "I"}, {ops: "20", of: "long 5", out: "J"},
		{ops: "178", of: "field a f I", out: "I"}, {ops: "179", of: "field a f I", in: "I"},
		{ops: "180", of: "field a f I", in: "a", out: "I"}, {ops: "181", of: "field a f I", in: "a I"},
		{ops: "182 183", of: "method a m (I)J", in: "a I", out: "J"}, {ops: "184", of: "method a m (I)J", in: "I", out: "J"},
		{ops: "187", of: "class a", out: "a"}, {ops: "189", of: "class a", in: "I", out: "[La;"},
		{ops: "192", of: "class a", in: "b", out: "a"}, {ops: "193", of: "class a", in: "b", out: "I"},
	}
}

// With a constant that there is not, a number that no constant has, and one of another tag.
func TestConstantsOfEachTag(t *testing.T) {
	all := []string{"int 5", "long 5", "class a", "field a f I", "method a m (I)J"}
	c, last := holding(all...)
	for _, r := range naming() {
		_, at := holding(all[:slices.Index(all, r.of)+1]...)
		for _, op := range ops(r.ops) {
			for _, a := range append(ops("0..40"), -1, -2, math.MinInt, math.MaxInt, 65535, at+1<<32, at-1<<32, at+1<<16, at-1<<16) {
				k := ask(op, a)
				k.class = c
				want := refused
				if a == at {
					want = r.out
				}
				k.gives(t, r.in, want)
			}
		}
	}
	if last != len(c.Pool)-1 {
		t.Errorf("the last constant is %d of %d", last, len(c.Pool))
	}
}

// With a pool that is none, nothing means anything; what names no constant is not hurt.
func TestNoPool(t *testing.T) {
	for _, r := range naming() {
		for _, op := range ops(r.ops) {
			k := askOf(op, r.of)
			k.gives(t, r.in, r.out)
			right := k.class.Pool
			for _, l := range [][]api.Entry{nil, {}, {{}}, right[1:], append(slices.Clone(right), api.Entry{}), append(slices.Clone(right), api.Entry{Tag: api.TClass, A: 77}), right[:len(right)-1]} {
				k.class.Pool = l
				k.gives(t, r.in, refused)
			}
			k.class.Pool = nil
			k.instr = api.Instr{Op: 96}
			k.gives(t, "I I", "I")
		}
	}
}

// With a Type that is no descriptor.
func TestConstantsTypes(t *testing.T) {
	noField := []string{"V", "B", "i", "L;", "La", "a", "[", "[V", "()V", "(I)V", "II", "I;", "L1;", "LI", strings.Repeat("[", 9) + "I", "L" + strings.Repeat("n", 61) + ";"}
	noMethod := []string{"V", "I", "()", "(I)", "(V)V", "()VV", "()B", "(B)V", "I)V", "(I", "La;", "[I", ")(V", "(La)V", "(;)V", "()L;", "((I)V", "(" + strings.Repeat("[", 9) + "I)V"}
	for _, s := range noField {
		for op, from := range map[int]string{178: "", 179: "N", 180: "a", 181: "a N"} {
			askOf(op, "field a f "+s).gives(t, from, refused)
			askOf(op, "field a f "+s).gives(t, joined(from, "I"), refused)
		}
	}
	for _, s := range noMethod {
		for _, op := range []int{182, 183, 184} {
			for _, from := range []string{"", "a", "a I", "a N", "I", "N"} {
				askOf(op, "method a m "+s).gives(t, from, refused)
			}
		}
	}
	for s, x := range map[string]string{"I": "I", "J": "J", "La;": "a", "[B": "[B", "LV;": "V", strings.Repeat("[", 8) + "B": strings.Repeat("[", 8) + "B", "L" + strings.Repeat("n", 60) + ";": strings.Repeat("n", 60)} {
		askOf(178, "field a f "+s).gives(t, "N", "N "+x)
		askOf(179, "field a f "+s).gives(t, "N "+x, "N")
		askOf(180, "field a f "+s).gives(t, "N a", "N "+x)
		askOf(181, "field a f "+s).gives(t, "N a "+x, "N")
		askOf(182, "method a m ("+s+")"+s).gives(t, "a "+x, x)
		askOf(184, "method a m ("+s+")"+s).gives(t, "a "+x, "a "+x)
	}
}

// noClasses are texts that are neither a class's name nor an array's descriptor.
func noClasses() []string {
	return []string{"1a", "_", "$", "/a", "a-b", "a;", "La;", "[", "[V", "[a", "[La", "()V", "[[", "[I[I", strings.Repeat("n", 61), strings.Repeat("[", 9) + "I"}
}

// A class's constant: 187, 189, 192, 193.
func TestClassConstants(t *testing.T) {
	for _, s := range []string{"a", "b", "none", "Object", "I", "J", "B", "V", "L", "a/b_$9", strings.Repeat("n", 60)} {
		askOf(187, "class "+s).gives(t, "J", "J "+s)
		askOf(189, "class "+s).gives(t, "J I", "J [L"+s+";")
	}
	for n := 1; n <= 8; n++ {
		for _, s := range []string{"I", "J", "B", "La;", "L" + strings.Repeat("n", 60) + ";"} {
			s = strings.Repeat("[", n) + s
			askOf(187, "class "+s).gives(t, "J", refused)
			want := "J [" + s
			if n == 8 { // there are no deeper arrays
				want = refused
			}
			askOf(189, "class "+s).gives(t, "J I", want)
			askOf(192, "class "+s).gives(t, "J a", "J "+s)
			askOf(193, "class "+s).gives(t, "J a", "J I")
		}
	}
	for _, s := range noClasses() {
		askOf(187, "class "+s).gives(t, "", refused)
		askOf(189, "class "+s).gives(t, "I", refused)
		askOf(192, "class "+s).gives(t, "a", refused)
		askOf(193, "class "+s).gives(t, "a", refused)
		askOf(192, "class "+s).gives(t, "N", refused)
	}
}

// The empty text is no class's name either.
func TestEmptyClass(t *testing.T) {
	empty := []api.Entry{{}, {Tag: api.TUtf8}, {Tag: api.TClass, A: 1}}
	for op, from := range map[int]string{187: "", 189: "I", 192: "N", 193: "N"} {
		k := ask(op, 2)
		k.class.Pool = empty
		k.gives(t, from, refused)
	}
}

// 192, 193 of each type.
func TestCasts(t *testing.T) {
	for _, s := range strings.Fields("a Object none [I [La; [[B") {
		for _, x := range strings.Fields(allTypes) {
			cast, is := refused, refused
			if x != "I" && x != "J" && x != "T" {
				cast, is = "J "+s, "J I"
			}
			askOf(192, "class "+s).gives(t, "J "+x, cast)
			askOf(193, "class "+s).gives(t, "J "+x, is)
		}
	}
}

// The Class of a field and of a method: 180 to 183 pop the KRef of it, whatever text it is; the others do not ask for it.
func TestMembersClasses(t *testing.T) {
	fits := map[string]string{
		"a": "N a b c", "b": "N b c", "Object": allRefs, "none": "N none", "[I": "N [I", "[La;": "N [La; [Lb; [Lc;",
		"[LObject;": "N " + innerRefs, "[[I": "N [[I", "Throwable": "N Throwable Bad",
	}
	for s, fit := range fits {
		for _, x := range strings.Fields(allTypes) {
			want := func(out string) string {
				if slices.Contains(strings.Fields(fit), x) {
					return out
				}
				return refused
			}
			askOf(180, "field "+s+" f J").gives(t, "T "+x, want("T J"))
			askOf(181, "field "+s+" f J").gives(t, "T "+x+" J", want("T"))
			for _, op := range []int{182, 183} {
				askOf(op, "method "+s+" m ()V").gives(t, "T "+x, want("T"))
				askOf(op, "method "+s+" m (J[I)La;").gives(t, "T "+x+" J N", want("T a"))
			}
			askOf(178, "field "+s+" f J").gives(t, "T "+x, "T "+x+" J")
			askOf(179, "field "+s+" f J").gives(t, "T "+x+" J", "T "+x)
			askOf(184, "method "+s+" m ()V").gives(t, "T "+x, "T "+x)
		}
	}
	for _, s := range noClasses() {
		for x, ok := range map[string]bool{s: true, "N": true, "a": false, "I": false, "Object": false, "[I": false} {
			want := func(out string) string {
				if ok {
					return out
				}
				return refused
			}
			askOf(180, "field "+s+" f J").gives(t, x, want("J"))
			askOf(181, "field "+s+" f J").gives(t, x+" J", want(""))
			askOf(182, "method "+s+" m ()I").gives(t, x, want("I"))
			askOf(183, "method "+s+" m ()I").gives(t, x, want("I"))
			askOf(178, "field "+s+" f J").gives(t, x, x+" J")
			askOf(179, "field "+s+" f J").gives(t, x+" J", x)
			askOf(184, "method "+s+" m ()I").gives(t, x, x+" I")
		}
	}
}

// 182 to 184: the order of the arguments, and what they answer.
func TestCallArguments(t *testing.T) {
	answers := map[string]string{"V": "", "I": "I", "J": "J", "La;": "a", "[La;": "[La;", "[[B": "[[B"}
	for s, x := range answers {
		for _, op := range []int{182, 183, 184} {
			own := "a"
			if op == 184 {
				own = ""
			}
			askOf(op, "method a m ()"+s).gives(t, joined("T", own), joined("T", x))
			askOf(op, "method a m (IJLa;[I)"+s).gives(t, joined("T", own, "I J a [I"), joined("T", x))
			askOf(op, "method a m (IJLa;[I)"+s).gives(t, joined("T", own, "I J c N"), joined("T", x))
			askOf(op, "method a m (JJI)"+s).gives(t, joined("T", own, "J J I"), joined("T", x))
			for _, bad := range []string{
				"[I a J I", "I J a", "J a [I", "I J a [J", "I J other [I", "I J Object [I", "J J a [I", "I I a [I", "I T a [I", "I J T a [I",
				"a I J a [I I", "I J a I", "I J [La; [I", "I J [I a", "I J a [I N", "N J a [I", "I N a [I", "I J a T",
			} {
				askOf(op, "method a m (IJLa;[I)"+s).gives(t, joined("a a a", bad), refused)
			}
		}
	}
	askOf(182, "method a m (I)V").gives(t, "I a", refused) // the one that it belongs to lies below its arguments
	askOf(183, "method a m (I)V").gives(t, "I a", refused)
	askOf(182, "method a m (Lb;La;)V").gives(t, "c b c", "")
	askOf(182, "method a m (Lb;La;)V").gives(t, "c a c", refused)
	askOf(182, "method b m (La;)V").gives(t, "a b", refused)
	askOf(182, "method b m (La;)V").gives(t, "b a", "")
	askOf(184, "method b m (La;)V").gives(t, "a", "")
	askOf(184, "method a m (I)V").gives(t, "", refused)
}

// A method with as many words of arguments as a descriptor may have, and with one more.
func TestCallManyArguments(t *testing.T) {
	for _, x := range []struct {
		s     string
		n     int
		stack string
	}{{"I", 32, "I"}, {"J", 16, "J"}, {"[I", 32, "[I"}, {"La;", 32, "b"}} {
		kind := "method a m (" + strings.Repeat(x.s, x.n) + ")V"
		more := "method a m (" + strings.Repeat(x.s, x.n+1) + ")V"
		stack := strings.Repeat(x.stack+" ", x.n)
		askOf(184, kind).gives(t, stack, "")
		askOf(182, kind).gives(t, "a "+stack, "")
		askOf(184, kind).gives(t, strings.Repeat(x.stack+" ", x.n-1), refused)
		askOf(182, kind).gives(t, stack[len(x.stack):]+" I", refused)
		askOf(184, more).gives(t, stack+x.stack, refused)
		askOf(183, more).gives(t, "a "+stack+x.stack, refused)
	}
}
