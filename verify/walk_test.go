package verify_test

import (
	"fmt"
	"slices"
	"strings"
	"testing"

	"larch/api"
	"larch/code"
)

// Tests of 12.1: the walk. The label bad stands where it ends.

// A method of one instruction.
func TestOneInstruction(t *testing.T) {
	for _, s := range []string{"return", "= |, return", "here: = |, goto @here", "from: = |, return, try @from @end @at, at: = | Throwable, athrow"} {
		goes(t, static("()V", 1, 0, s))
	}
	goes(t, written{kind: "()La;", stack: 1, locals: 1, text: "bad: areturn"})
	for _, s := range []string{"nop", "ireturn", "here: goto @here", "iconst_0", "athrow", "pop", "here: ifeq @here", "here: = |, ifeq @here"} {
		goes(t, static("()V", 1, 0, "bad: "+s))
	}
	goes(t, static("()I", 1, 0, "bad: return"))
	goes(t, static("()I", 1, 0, "bad: ireturn"))
	goes(t, static("(I)I", 1, 1, "bad: iload_0"))
}

// The first instruction, with a map.
func TestFirstInstruction(t *testing.T) {
	goes(t, static("(I)I", 1, 1, "iload_0, ireturn"))
	goes(t, static("(I)I", 1, 1, "= I |, iload_0, ireturn"))
	goes(t, static("(I)I", 1, 1, "bad: = T |, iload_0, ireturn")) // it is the map's then
	goes(t, static("(I)I", 1, 1, "= T |, nop, bad: iload_0, ireturn"))
	goes(t, static("(I)I", 1, 1, "= T |, iconst_0, ireturn"))
	for _, m := range []string{"a |", "N |", "I | I", "I | a", "T | I"} {
		goes(t, static("(I)I", 3, 1, "bad: = "+m+", iconst_0, ireturn"))
		goes(t, static("(I)I", 3, 1, "bad: = "+m+", nop, pop, pop, pop, iconst_0, ireturn"))
	}
	goes(t, static("(J)V", 3, 2, "= J T |, return"))
	goes(t, static("(J)V", 3, 2, "= T T |, return"))
	goes(t, static("(J)V", 3, 2, "bad: = I T |, return"))
	goes(t, static("(J)V", 3, 2, "bad: = J T | J, return"))
	goes(t, static("(I)V", 3, 3, "= I T T |, return"))
	goes(t, static("(I)V", 3, 3, "bad: = I J T |, return"))
	for _, access := range []int{0, api.ASync} {
		for m, ok := range map[string]bool{"a b": true, "Object a": true, "T T": true, "Object Object": true, "b b": false, "a c": false, "other a": false, "N b": false, "a I": false} {
			s := "= " + m + " |, return"
			if !ok {
				s = "bad: " + s
			}
			goes(t, written{access: access, kind: "(Lb;)V", locals: 2, text: s})
		}
	}
}

// closers are instructions that don't fall, with what leads up to them, in methods of a type with the locals I J T a.
var closers = []struct{ kind, text string }{
	{"(IJLa;)V", "goto @on"}, {"(IJLa;)V", "iconst_0, tableswitch @on 5 @on"}, {"(IJLa;)V", "iconst_0, lookupswitch @on"},
	{"(IJLa;)V", "iconst_0, lookupswitch @on 1:@on 7:@on"}, {"(IJLa;)I", "iload_0, ireturn"}, {"(IJLa;)J", "lload_1, lreturn"},
	{"(IJLa;)La;", "aload_3, areturn"}, {"(IJLa;)V", "return"}, {"(IJLa;)V", "aconst_null, athrow"},
}

// Behind an instruction that does not fall there is no frame, unless a map tells one.
func TestBehindOneThatDoesNotFall(t *testing.T) {
	const end = "on: = I J T a |, aconst_null, athrow"
	for _, x := range closers {
		goes(t, static(x.kind, 2, 4, x.text+", "+end))
		goes(t, static(x.kind, 2, 4, x.text+", = I J T a | I, pop, "+end))
		goes(t, static(x.kind, 2, 4, x.text+", = T T T [I | N, astore_0, aconst_null, athrow, "+end)) // not what came of the one ahead
		goes(t, static(x.kind, 2, 4, x.text+", bad: nop, "+end))
		goes(t, static(x.kind, 2, 4, x.text+", bad: return, "+end))
		goes(t, static(x.kind, 2, 4, x.text+", bad: goto @on, "+end))
		goes(t, static(x.kind, 2, 4, x.text+", bad: pop, "+end)) // whatever else is wrong with it
		goes(t, static(x.kind, 2, 4, x.text+", bad: nop, pop, "+end))
		goes(t, static(x.kind, 2, 4, x.text+", = T J T T |, lload_1, bad: ineg, "+end))
		goes(t, static(x.kind, 2, 4, x.text+", = T J T T |, bad: iload_0, pop, "+end))
		goes(t, static(x.kind, 2, 4, x.text+", = I J T a |, bad: iload_1, pop, "+end))
	}
}

// Behind an instruction that falls the frame is what came of that one, and if there is a map, the map's.
func TestBehindOneThatFalls(t *testing.T) {
	for _, x := range []struct{ kind, text string }{
		{"()V", "iconst_0, pop, return"},
		{"()V", "iconst_0, = T T | I, pop, return"},
		{"()V", "iconst_0, bad: = T T | J, pop2, return"},
		{"()V", "iconst_0, bad: = T T | N, pop, return"},
		{"()V", "iconst_0, bad: = T T |, return"},
		{"()V", "iconst_0, bad: = T T | I I, return"},
		{"()V", "iconst_0, iconst_0, iconst_0, iconst_0, = T T | I I I I, return"},
		{"()V", "aconst_null, = T T | a, getfield {field a f I}, pop, return"},
		{"()V", "aconst_null, = T T | Object, bad: getfield {field a f I}, pop, return"},
		{"()V", "aconst_null, = T T | other, bad: getfield {field a f I}, pop, return"},
		{"()V", "aconst_null, = T T | N, getfield {field a f I}, pop, return"},
		{"()V", "iconst_0, istore_0, = I T |, iload_0, pop, return"},
		{"()V", "iconst_0, istore_0, = T T |, bad: iload_0, pop, return"},
		{"()V", "iconst_0, istore_0, = T T |, nop, = T T |, bad: iload_0, pop, return"},
		{"()V", "iconst_0, istore_0, = T T |, nop, bad: = I T |, iload_0, pop, return"}, // what was forgotten is not known again
		{"()V", "iconst_0, istore_0, bad: = I I |, return"},
		{"()V", "lconst_0, lstore_0, = J T |, lload_0, pop2, return"},
		{"()V", "lconst_0, lstore_0, = T T |, bad: lload_0, pop2, return"},
		{"()V", "lconst_0, lstore_0, iconst_0, istore_1, bad: = J T |, return"},
		{"()V", "lconst_0, lstore_0, iconst_0, istore_1, = T I |, return"},
		{"()V", "new {class b}, dup, astore_0, = b T | a, getfield {field a f I}, pop, aload_0, getfield {field b f I}, pop, return"},
		{"()V", "new {class b}, dup, astore_0, = a T | b, getfield {field b f I}, pop, aload_0, bad: getfield {field b f I}, pop, return"},
		{"()V", "new {class a}, bad: = T T | b, pop, return"},
		{"()V", "new {class a}, bad: = T T | none, pop, return"},
		{"()V", "nop, = T T |, nop, = T T |, return"},
	} {
		goes(t, static(x.kind, 4, 2, x.text))
	}
}

// A handler over parts of a code in which the local 0 is T up to from, I from there on, and N from to on.
func TestPlacesOfHandlers(t *testing.T) {
	const at = ", at: = I | Throwable, pop, return, try @from @to @at"
	for _, s := range []string{
		"iconst_0, istore_0, from: nop, nop, to: aconst_null, astore_0, nop, return",
		"iconst_0, istore_0, from: nop, to: nop, aconst_null, astore_0, nop, return",
		"iconst_0, istore_0, nop, from: nop, to: aconst_null, astore_0, nop, return",
		"iconst_0, istore_0, nop, nop, from: aconst_null, to: astore_0, nop, return",
		"iconst_0, istore_0, from: nop, nop, aconst_null, astore_0, to: nop, return", // the one at to does not count
		"iconst_0, istore_0, nop, nop, aconst_null, from: astore_0, to: nop, return",
		"iconst_0, bad: from: istore_0, nop, to: nop, aconst_null, astore_0, nop, return", // one ahead
		"bad: from: iconst_0, istore_0, nop, to: nop, aconst_null, astore_0, nop, return",
		"bad: from: iconst_0, to: istore_0, nop, nop, aconst_null, astore_0, nop, return",
		"nop, iconst_0, bad: from: istore_0, to: nop, nop, aconst_null, astore_0, nop, return",
		"iconst_0, istore_0, from: nop, nop, aconst_null, astore_0, bad: nop, to: return", // one behind
		"iconst_0, istore_0, from: nop, nop, aconst_null, astore_0, bad: nop, return, to:",
		"iconst_0, istore_0, nop, nop, aconst_null, astore_0, bad: from: nop, to: return",
		"iconst_0, istore_0, nop, nop, aconst_null, astore_0, nop, bad: from: return, to:",
		"iconst_0, istore_0, from: sipush 7, pop, lconst_0, pop2, to: aconst_null, astore_0, nop, return", // whatever lies on the stack
		"iconst_0, istore_0, from: iconst_1, istore_0, iinc 0 7, to: aconst_null, astore_0, nop, return",
		"iconst_0, istore_0, from: aconst_null, astore_0, bad: iconst_0, istore_0, to: nop, return",
		"iconst_0, istore_0, from: aconst_null, astore_0, = T |, to: iconst_0, istore_0, nop, return",
		"iconst_0, istore_0, from: aconst_null, = I | N, pop, to: nop, return",
		"iconst_0, istore_0, from: aconst_null, bad: = T | N, pop, to: nop, return", // it is the map's frame that counts
	} {
		goes(t, static("()V", 2, 1, s+at))
	}
	const over = ", at: from: = I | Throwable, pop, nop, nop, return, try @from @end @at" // a handler over itself
	goes(t, static("()V", 2, 1, "return"+over))
	goes(t, static("()V", 2, 1, "return"+strings.Replace(over, "nop, nop", "iconst_0, istore_0, nop", 1)))
	goes(t, static("()V", 2, 1, "return"+strings.Replace(over, "nop, nop", "aconst_null, astore_0, bad: nop", 1)))
}

// A handler's locals, one by one.
func TestLocalsOfHandlers(t *testing.T) {
	const method = "from: nop, to: return, at: = %s | Throwable, pop, return, try @from @to @at"
	for s, ok := range map[string]bool{
		"I J T b N": false, "I J T b T": true, "I J T b I": false, "T T T T T": true, "I T T a T": true, "I T T Object T": true, "I J T c T": false, "I J T other T": false,
		"J T T b T": false, "T J T b T": true, "T I T b T": false, "T T I b T": false, "T T J T T": false, "N J T b T": false, "I J T [Lb; T": false, "I J T b b": false,
	} {
		x := fmt.Sprintf(method, s)
		if !ok {
			x = "bad: " + x
		}
		goes(t, static("(IJLb;)V", 1, 5, x))
	}
}

// Several handlers over one another: all of those that have the place are asked, and no other one.
func TestHandlersOverOneAnother(t *testing.T) {
	const blocks = ", isT: = T | Throwable, pop, return, isI: = I | Throwable, pop, return, isN: = N | Bad, athrow"
	for _, s := range []string{
		"a: iconst_0, istore_0, b: nop, c: aconst_null, astore_0, d: nop, return, try @a @isT @isT, try @b @d @isI, try @d @isT @isN Bad",
		"a: iconst_0, istore_0, b: nop, c: aconst_null, astore_0, d: nop, return, try @d @isT @isN Bad, try @b @d @isI, try @a @isT @isT",
		"a: iconst_0, istore_0, b: nop, c: aconst_null, astore_0, bad: d: nop, return, try @a @isT @isT, try @b @isT @isI, try @d @isT @isN Bad",
		"bad: a: iconst_0, istore_0, b: nop, c: aconst_null, astore_0, d: nop, return, try @a @isT @isT, try @b @d @isI, try @a @d @isN Bad",
		"a: iconst_0, istore_0, bad: b: nop, c: aconst_null, astore_0, d: nop, return, try @a @isT @isT, try @b @d @isI, try @b @c @isN Bad",
		"a: iconst_0, istore_0, bad: b: nop, c: aconst_null, astore_0, d: nop, return, try @b @c @isN Bad, try @b @d @isI, try @a @isT @isT",
		"a: iconst_0, istore_0, bad: b: nop, c: aconst_null, astore_0, d: nop, return, try @b @d @isI, try @b @c @isN Bad, try @a @isT @isT",
		"a: iconst_0, istore_0, b: nop, bad: c: aconst_null, astore_0, d: nop, return, try @c @d @isN Bad, try @b @c @isI",
		"a: iconst_0, istore_0, b: nop, c: aconst_null, astore_0, d: nop, return, try @b @c @isI, try @c @d @isI, try @b @d @isI, try @b @c @isI",
	} {
		goes(t, static("()V", 1, 1, s+blocks))
	}
}

// An instruction is asked for its handlers ahead of what it does: both are told at its place, but each by itself is enough.
func TestHandlersAndWhatIsDone(t *testing.T) {
	const at = ", at: = I | Throwable, pop, return, try @from @to @at"
	goes(t, static("()V", 1, 1, "nop, bad: from: pop, to: return"+at))
	goes(t, static("()V", 1, 1, "iconst_0, istore_0, bad: from: pop, to: return"+at))
	goes(t, static("()V", 1, 1, "nop, bad: from: nop, pop, to: return"+at))
}

// operandsOf are operands with which each instruction is one, in a code that goes on at on.
func operandsOf(op int) string {
	switch {
	case op == 18 || op == 19:
		return " {int 5}"
	case op == 20:
		return " {long 5}"
	case op == 132:
		return " 0 1"
	case op >= 153 && op <= 167, op == 198, op == 199:
		return " @on"
	case op == 170:
		return " @on 1 @on @on"
	case op == 171:
		return " @on 1:@on 7:@on"
	case op >= 178 && op <= 181:
		return " {field a f I}"
	case op >= 182 && op <= 184:
		return " {method a m (I)V}"
	case op == 187, op == 189, op == 192, op == 193:
		return " {class a}"
	case op == 188:
		return " 10"
	case sizeOf(api.Instr{Op: op}, 0) > 1:
		return " 0"
	}
	return ""
}

// opNames answers the names of all instructions that there are.
func opNames() []string {
	var l []string
	for _, s := range strings.Fields(names) {
		if _, plain, ok := strings.Cut(s, "="); ok {
			s = plain
		}
		l = append(l, s)
	}
	return l
}

// Each instruction, where nothing lies on the stack, nothing may be pushed, and there are no locals.
func TestInstructionsThatMayNotBeDone(t *testing.T) {
	n := 0
	for _, s := range opNames() {
		op := opOf(s)
		if op == 0 || op == 167 || op == 177 { // they are always done
			continue
		}
		n++
		for _, ahead := range []string{"", "nop, ", "nop, nop, nop, "} {
			goes(t, static("()V", 0, 0, ahead+"bad: "+s+operandsOf(op)+", on: = |, return"))
			goes(t, static("()V", 0, 0, "goto @two, on: = |, return, two: = |, "+ahead+"bad: "+s+operandsOf(op)+", = |, goto @on"))
		}
	}
	if n < 120 {
		t.Errorf("just %d instructions", n)
	}
}

// What an instruction may not be done to, other than an empty stack.
func TestWhatMayNotBeDone(t *testing.T) {
	for _, s := range []string{
		"iconst_0, lconst_0, bad: iadd, pop, return", "aconst_null, bad: ineg, pop, return", "lconst_0, bad: pop, return", "iconst_0, bad: astore_0, return",
		"iconst_0, lconst_0, bad: swap, return", "iconst_0, bad: arraylength, pop, return", "iconst_0, bad: athrow", "new {class a}, bad: athrow",
		"iconst_0, bad: ireturn", "aconst_null, bad: areturn", "lconst_0, bad: lreturn", "bad: iload 0, pop, return", "bad: iload 9, pop, return",
		"iconst_0, bad: istore 9, return", "iconst_0, bad: istore 255, return", "lconst_0, bad: lstore 8, return", "lconst_0, lstore 7, return",
		"bad: ldc {long 5}, pop, return", "bad: ldc2_w {int 5}, pop2, return", "bad: ldc {class a}, pop, return", "bad: ldc 0, pop, return", "bad: ldc 255, pop, return",
		"bad: getstatic {method a m ()V}, pop, return", "bad: getstatic {field a f V}, pop, return", "bad: getstatic 0, pop, return", "bad: getstatic 65535, pop, return",
		"bad: invokestatic {field a f I}, return", "bad: invokestatic {method a m I}, return", "iconst_0, bad: invokestatic {method a m (J)V}, return",
		"new {class other}, bad: invokevirtual {method a m ()V}, return", "new {class c}, invokevirtual {method a m ()V}, return",
		"bad: new {class [I}, pop, return", "bad: new {class 1}, pop, return", "bad: new {int 5}, pop, return", "iconst_0, bad: newarray 9, pop, return",
		"iconst_0, bad: anewarray {class 1}, pop, return", "iconst_0, bad: checkcast {class a}, pop, return", "aconst_null, bad: instanceof {int 5}, pop, return",
		"aconst_null, iconst_0, bad: if_icmpeq @on, on: = T T T T T T T T T |, return", "iconst_0, bad: ifnull @on, on: = T T T T T T T T T |, return",
		"aconst_null, bad: tableswitch @on 1 @on, on: = T T T T T T T T T |, return", "lconst_0, bad: lookupswitch @on, on: = T T T T T T T T T |, return",
		"bad: iinc 0 1, return", "iconst_0, istore_0, iinc 0 1, return", "iconst_0, istore_0, bad: iinc 1 1, return", "iconst_0, bad: monitorenter, return",
	} {
		goes(t, static("()V", 4, 9, s))
	}
}

// Stacks of just as many words as Stack, and of one more.
func TestHowWideStacksAre(t *testing.T) {
	for _, x := range []struct {
		most int
		text string
	}{
		{0, "return"}, {1, "iconst_0, pop, return"}, {2, "lconst_0, pop2, return"}, {2, "iconst_0, dup, pop2, return"}, {3, "iconst_0, lconst_0, pop2, pop, return"},
		{4, "lconst_0, lconst_1, pop2, pop2, return"}, {2, "getstatic {field a f J}, pop2, return"}, {1, "invokestatic {method a m ()I}, pop, return"},
		{2, "invokestatic {method a m ()J}, pop2, return"}, {2, "iconst_0, i2l, pop2, return"}, {3, "iconst_0, iconst_1, dup_x1, pop, pop, pop, return"},
		{2, "iconst_0, iconst_1, iadd, pop, return"}, {api.MaxStack, strings.Repeat("iconst_0, ", api.MaxStack) + "return"}, {api.MaxStack, strings.Repeat("lconst_0, ", api.MaxStack/2) + "return"},
		{33, strings.Repeat("iconst_0, ", 32) + "invokestatic {method a m (" + strings.Repeat("I", 32) + ")V}, " + strings.Repeat("iconst_0, ", 33) + "return"},
	} {
		for most := range api.MaxStack + 1 {
			m := static("()V", most, 0, x.text)
			if most >= x.most {
				goes(t, m)
				continue
			}
			if _, e := asks(t, family(), makeOf(m).class, 0); e != api.ErrVerify {
				t.Errorf("%s with %d words: %v", x.text, most, e)
			}
		}
	}
	goes(t, static("()V", 1, 0, "iconst_0, bad: iconst_0, pop2, return"))
	goes(t, static("()V", 2, 0, "iconst_0, bad: lconst_0, pop2, pop, return"))
	goes(t, static("()V", 2, 0, "iconst_0, iconst_0, pop, pop, lconst_0, bad: dup2, return"))
	goes(t, static("()V", 1, 0, "iconst_0, bad: i2l, return"))
	goes(t, static("()V", api.MaxStack, 0, strings.Repeat("iconst_0, ", api.MaxStack)+"bad: iconst_0, return"))
	goes(t, static("()V", api.MaxStack, 0, strings.Repeat("lconst_0, ", api.MaxStack/2)+"bad: iconst_0, return"))
}

// branches are the instructions that branch, with what they take.
func branches() []string {
	var l []string
	for _, s := range opNames() {
		switch op := opOf(s); {
		case op >= 153 && op <= 158:
			l = append(l, "iconst_0, @"+s+" @to")
		case op >= 159 && op <= 164:
			l = append(l, "iconst_0, iconst_1, @"+s+" @to")
		case op == 165 || op == 166:
			l = append(l, "aconst_null, aconst_null, @"+s+" @to")
		case op == 198 || op == 199:
			l = append(l, "aconst_null, @"+s+" @to")
		case op == 167:
			l = append(l, "@"+s+" @to")
		}
	}
	for _, s := range []string{
		"@tableswitch @to 1 @ok", "@tableswitch @ok 1 @to", "@tableswitch @ok 1 @ok @ok @to", "@tableswitch @ok 1 @to @ok @ok", "@tableswitch @ok -1 @ok @to @ok", "@tableswitch @to 1 @to @to",
		"@lookupswitch @to", "@lookupswitch @ok 1:@to", "@lookupswitch @ok 1:@ok 5:@ok 9:@to", "@lookupswitch @ok 1:@to 5:@ok 9:@ok", "@lookupswitch @ok -9:@ok 5:@to 9:@ok", "@lookupswitch @to 1:@to",
	} {
		l = append(l, "iconst_0, "+s)
	}
	return l
}

// Where an instruction leads: there must be a map for which what comes of it may stand.
func TestBranches(t *testing.T) {
	all := branches()
	if len(all) != 17+12 {
		t.Errorf("%d branches", len(all))
	}
	for _, s := range all {
		good, bad := strings.Replace(s, "@", "", 1), strings.Replace(s, "@", "bad: ", 1)
		for m, ok := range map[string]bool{
			"= I b |": true, "= T T |": true, "= I a |": true, "= T Object |": true, "": false, "= a b |": false, "= I c |": false, "= I other |": false, "= N b |": false,
			"= I b | I": false, "= I b | N": false,
		} {
			branch := bad
			if ok {
				branch = good
			}
			if m != "" {
				m += ", "
			}
			forward := branch + ", = I b |, return, ok: = I b |, return, to: " + m + "return"
			if m == "" {
				forward = branch + ", = I b |, return, ok: = I b |, nop, to: return"
			}
			goes(t, static("(ILb;)V", 2, 2, forward))
			// Back: to is come to by what has as much as its map asks, ahead of the branch.
			begin, after := "goto @go, ok: = I b |, return, to: "+m+"aconst_null, athrow, go: = I b |, ", ", = I b |, return"
			if m == "" {
				begin = "goto @go, ok: = I b |, nop, to: return, go: = I b |, "
			}
			goes(t, static("(ILb;)V", 3, 2, begin+branch+after))
		}
	}
}

// What comes of a branch leads on, not what was ahead of it.
func TestWhatLeadsOn(t *testing.T) {
	for _, s := range []string{
		"iconst_0, ifeq @to, return, to: = |, return",
		"iconst_0, bad: ifeq @to, return, to: = | I, pop, return",
		"iconst_1, iconst_0, ifeq @to, pop, return, to: = | I, pop, return",
		"iconst_1, iconst_0, ifeq @to, return, to: = | I, pop, return",
		"iconst_1, iconst_0, bad: ifeq @to, return, to: = |, return",
		"iconst_1, iconst_0, bad: lookupswitch @to 1:@on, to: = |, return, on: = | I, pop, return",
		"iconst_1, iconst_0, bad: lookupswitch @on 1:@to, to: = |, return, on: = | I, pop, return",
		"iconst_1, iconst_0, lookupswitch @to 1:@on, to: = | I, return, on: = | I, pop, return",
		"iconst_0, bad: goto @to, to: = |, return",
		"iconst_0, goto @to, to: = | I, pop, return",
		"aconst_null, goto @to, to: = | a, pop, return",
	} {
		goes(t, static("()V", 2, 0, s))
	}
}

// Loops, with maps that hold all the way round, and that do not.
func TestLoops(t *testing.T) {
	for _, s := range []string{
		"top: = I |, iload_0, ifle @out, iinc 0 -1, goto @top, out: = I |, iload_0, ireturn",
		"top: = I |, iload_0, ifle @out, iinc 0 -1, goto @top, out: = T |, bad: iload_0, ireturn",
		"top: = I |, iload_0, ifle @out, aconst_null, astore_0, bad: goto @top, out: = I |, iload_0, ireturn",
		"top: = I |, iload_0, ifle @out, aconst_null, astore_0, iconst_0, istore_0, goto @top, out: = I |, iload_0, ireturn",
		"top: = I |, iload_0, ifle @out, iconst_0, bad: goto @top, out: = I |, iload_0, ireturn",
		"top: = I |, iload_0, bad: ifle @out, iinc 0 -1, goto @top, out: iload_0, ireturn",
		"top: iload_0, ifle @out, iinc 0 -1, bad: goto @top, out: = I |, iload_0, ireturn",
		"nop, here: = I |, goto @here",
		"nop, here: = I |, iload_0, ifne @here, iconst_0, ireturn",
		"nop, here: = T |, bad: iload_0, ifne @here, iconst_0, ireturn",
		"nop, = I |, nop, bad: here: goto @here",
	} {
		goes(t, static("(I)I", 2, 1, s))
	}
}

// The last instruction does not fall: each one that does, in a method that would be sound with a return behind it.
func TestLastInstruction(t *testing.T) {
	kinds := map[string]string{"(IIIII)V": "I I I I I", "(JJI)V": "J T J T I", "(IJJ)V": "I J T J T", "(La;La;La;La;La;)V": "a a a a a"}
	stacks := []string{
		"", "iconst_0, ", "lconst_0, ", "aconst_null, ", "iconst_0, iconst_0, ", "lconst_0, iconst_0, ", "lconst_0, lconst_0, ", "aconst_null, aconst_null, ",
		"aconst_null, iconst_0, ", "aconst_null, iconst_0, iconst_0, ", "aconst_null, iconst_0, lconst_0, ", "aconst_null, iconst_0, aconst_null, ",
	}
	for _, s := range opNames() {
		op, done := opOf(s), 0
		if !code.Falls(api.Instr{Op: op}) {
			continue
		}
		for kind, locals := range kinds {
			for _, stack := range stacks {
				text := "goto @go, on: = T T T T T |, aconst_null, athrow, go: = " + locals + " |, " + stack + s + operandsOf(op)
				whole := makeOf(static(kind, 6, 5, text+", return"))
				if _, _, e := plainMethod(whole.list, whole.class, 0); e != api.OK {
					continue
				}
				done++
				isSound(t, whole)
				cut := makeOf(static(kind, 6, 5, text))
				isRefused(t, cut, len(cut.class.Methods[0].Code.Bytes)-sizeOf(api.Instr{Op: op}, 0))
			}
		}
		if done == 0 {
			t.Errorf("%s was not done", s)
		}
	}
	for _, x := range closers {
		goes(t, static(x.kind, 2, 4, "goto @two, on: = I J T a |, aconst_null, athrow, two: = I J T a |, "+x.text))
		goes(t, static(x.kind, 2, 4, "goto @two, on: = I J T a |, aconst_null, athrow, two: = I J T a |, nop, "+x.text+", = I J T a |, bad: nop"))
	}
	goes(t, static("()V", 1, 0, "nop, bad: nop"))
	goes(t, static("()V", 1, 0, "return, = |, bad: nop"))
	goes(t, static("()V", 1, 0, "on: = |, iconst_0, bad: ifeq @on"))
	goes(t, static("()V", 1, 0, "on: = |, iconst_0, ifeq @on, return"))
}

// The place is told in bytes, whatever instructions are ahead of it.
func TestPlacesAreBytes(t *testing.T) {
	ahead := []struct {
		text string
		size int
	}{{"nop", 1}, {"bipush 1, pop", 3}, {"sipush 1, pop", 4}, {"iinc 0 1", 3}, {"iload 0, pop", 3}, {"iconst_0, tableswitch @on 1 @on, on: = I |", 20}, {"iconst_0, lookupswitch @on 1:@on, on: = I |", 20}}
	for k, x := range ahead {
		m := makeOf(static("(I)V", 1, 1, x.text+", bad: pop, return"))
		isRefused(t, m, m.labels[0]["bad"])
		if got := m.labels[0]["bad"]; got != x.size {
			t.Errorf("%d: the place is %d", k, got)
		}
	}
	long := makeOf(static("(I)V", 1, 1, strings.Repeat("nop, ", api.MaxCode-2)+"bad: pop, return"))
	isRefused(t, long, api.MaxCode-2)
	isSound(t, makeOf(static("(I)V", 1, 1, strings.Repeat("nop, ", api.MaxCode-1)+"return")))
}

// The first place at which the walk ends is told, not a later one.
func TestFirstPlaceIsTold(t *testing.T) {
	faults := []string{"pop", "ireturn", "goto @none", "iload_0", "= I |, nop", "aconst_null, pop2"}
	for _, a := range faults {
		for _, b := range faults {
			s := "nop, bad: " + a + ", nop, " + b + ", none: return"
			if strings.HasPrefix(a, "aconst_null") {
				s = strings.Replace(s, "bad: aconst_null, pop2", "aconst_null, bad: pop2", 1)
			}
			goes(t, static("()V", 2, 1, s))
		}
	}
	var places []int
	x := makeOf(static("()V", 0, 0, "nop, p: pop, nop, q: pop, nop, r: pop, return"))
	for _, s := range []string{"p", "q", "r"} {
		places = append(places, x.labels[0][s])
		isRefused(t, x, x.labels[0][s])
		x = x.coded(func(d *api.Code) { d.Bytes[x.labels[0][s]] = 0 })
	}
	isSound(t, x)
	if !slices.Equal(places, []int{1, 3, 5}) {
		t.Errorf("places %v", places)
	}
}
