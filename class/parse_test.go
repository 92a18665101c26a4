package class_test

import (
	"bytes"
	"fmt"
	"slices"
	"testing"

	"larch/api"
	"larch/class"
)

// parses asks for a class, which prints as these bytes again.
func parses(t *testing.T, what string, b []byte, want api.Class) {
	t.Helper()
	c, e := class.Parse(b)
	is(t, what+": its error", e, api.OK)
	hasClass(t, what, c, want)
	back, e := class.Print(c)
	is(t, what+": Print of it: its error", e, api.OK)
	hasBytes(t, what+": Print of it", back, b)
}

// parsesNone asks for an error, with nothing beside it.
func parsesNone(t *testing.T, what string, b []byte, want api.Errno) {
	t.Helper()
	c, e := class.Parse(b)
	is(t, what+": its error", e, want)
	hasClass(t, what+": the class beside it", c, api.Class{})
}

// parsesAsTold asks for what a plain reading of the chapter's words answers.
func parsesAsTold(t *testing.T, what string, b []byte) {
	t.Helper()
	if c, ok := plainParse(b); ok {
		parses(t, what, b, c)
	} else {
		parsesNone(t, what, b, api.ErrClass)
	}
}

// 8.1, 8.3: right classes' bytes.
func TestParseOfRightClasses(t *testing.T) {
	for what, c := range rightClasses() {
		parses(t, "Parse of a class "+what, bytesOf(c), c)
		b, _ := class.Print(c)
		parses(t, "Parse of Print of a class "+what, b, c)
	}
}

// 8.1, 8.4: wrong classes, as far as bytes can tell them.
func TestParseOfWrongClasses(t *testing.T) {
	for what, c := range wrongClasses() {
		if b := bytesOf(c); len(b) <= api.MaxFile {
			parsesAsTold(t, "Parse of a class that is not right, "+what, b)
		}
	}
}

// 8.1: wrong classes, each of whose bytes tells just what is wrong with it.
func TestParseOfWhatIsTold(t *testing.T) {
	all := wrongClasses()
	for _, what := range []string{
		"of nothing", "whose Name is not there", "whose Name is empty, and not there", "whose Name is there as a text alone",
		"with a field whose Name is not there", "with a field whose Type is not there",
		"with a method whose Name is not there", "with a method whose Type is not there", "with methods, without Code",
		"with maps, without StackMapTable", "without Bytes, of the second method", "with a field's Access 1", "with a field's Access 32",
		"with a field's Access 40", "with a method's Access 1", "with a method's Access 16", "with a method's Access 41", "fields: 257",
		"methods: 257", "handlers: 257", "maps: 257", "Stack: 65", "Locals: 65", "Stack: 256", "Locals: 256", "Bytes: 0", "Bytes: 4097",
		"with a handler of class 1", "with a handler of class 13", "with a handler of class 27", "with a handler of class 65535",
		"with {-1 } in locals", "with {5 } in a stack", "with {4 b} in locals", "with {4 b} in a stack", "with 65 locals 0",
		"with a stack of 65 0", "with a stack of 65 longs", "with 65 locals, with longs", "with 65 locals, a long last",
		"with maps at [65535 65536]", "with a pool without entries", "with a pool of MaxPool entries and 1", "with a pool with a class of a class",
		"with a pool with a class of nothing", "with a pool with a text with a blank", "with a pool with a text of 256 bytes",
		"with a pool with a tag that there is not", "with a pool with a long at its end",
	} {
		c, there := all[what]
		is(t, "there is a class "+what, there, true)
		parsesNone(t, "Parse of a class "+what, bytesOf(c), api.ErrClass)
	}
}

// 8.5: cut at every place.
func TestParseOfCutBytes(t *testing.T) {
	for what, c := range rightClasses() {
		b := bytesOf(c)
		for n := range b {
			parsesNone(t, fmt.Sprintf("Parse of the first %d bytes of a class %s", n, what), b[:n], api.ErrClass)
		}
		parsesNone(t, "Parse without the first byte of a class "+what, b[1:], api.ErrClass)
	}
}

// 8.5: with more behind; if that is too much, that is told first.
func TestParseOfLongerBytes(t *testing.T) {
	for what, c := range rightClasses() {
		b := bytesOf(c)
		for _, more := range [][]byte{{0}, {1}, {255}, {0, 0}, {0, 0, 0, 0}, {0, 33}, b} {
			want := api.ErrClass
			if len(b)+len(more) > api.MaxFile {
				want = api.ErrLong
			}
			parsesNone(t, fmt.Sprintf("Parse of a class %s, and of %.20x behind it", what, more), slices.Concat(b, more), want)
		}
	}
}

// 8.5: a byte left out, or put in, anywhere.
func TestParseOfShiftedBytes(t *testing.T) {
	for _, c := range []api.Class{small(), full()} {
		b := bytesOf(c)
		for i := range b {
			parsesAsTold(t, fmt.Sprintf("Parse without byte %d", i), slices.Delete(slices.Clone(b), i, i+1))
			for _, x := range []byte{0, 1, 4, 7, 255} {
				parsesAsTold(t, fmt.Sprintf("Parse with %d ahead of byte %d", x, i), slices.Insert(slices.Clone(b), i, x))
			}
		}
	}
}

// 8.1, 8.4: each byte changed, to each other one: it is another class's, or none's.
func TestParseOfChangedBytes(t *testing.T) {
	for _, c := range []api.Class{small(), full(), {Pool: of(utf("a"), cls(1)), Name: "a"}} {
		own, b := bytesOf(c), bytesOf(c)
		others := 0
		for i := range b {
			for x := range 256 {
				if byte(x) == own[i] {
					continue
				}
				b[i] = byte(x)
				parsesAsTold(t, fmt.Sprintf("Parse with %d as byte %d", x, i), b)
				if d, ok := plainParse(b); ok {
					others++
					is(t, fmt.Sprintf("with %d as byte %d it is another class", x, i), same(c, d), false)
				}
			}
			b[i] = own[i]
			if t.Failed() {
				return
			}
		}
		is(t, "some of them are other classes'", others > 0, true)
	}
}

// 8.1: what is alike in all classes, and what must be nought.
func TestParseOfWhatMustBe(t *testing.T) {
	b := smallBytes()
	head := len(b) - len(bytesBehindPool(b))
	places := []int{0, 1, 2, 3, 4, 5, 6, 7, head, head + 1, head + 6, head + 7, head + 16, head + 17, head + 26, head + 27, len(b) - 2, len(b) - 1}
	for _, i := range places {
		for _, more := range []byte{1, 2, 128, 255} {
			c := slices.Clone(b)
			c[i] += more
			parsesNone(t, fmt.Sprintf("Parse with byte %d greater by %d", i, more), c, api.ErrClass)
		}
	}
}

// bytesBehindPool answers the bytes behind the pool of small.
func bytesBehindPool(b []byte) []byte { return b[bytes.Index(b, []byte{0, 33, 0, 2, 0, 5}):] }

// 8.1: numbers that are not the first such entry's.
func TestParseOfOtherNumbers(t *testing.T) {
	c := full()
	for _, s := range []string{"a", "m", "()V", "Code", "StackMapTable", "I"} {
		for i, x := range c.Pool {
			if x != utf(s) || i == textNumber(c.Pool, s) {
				continue
			}
			told := right(c.Pool)
			told.text = func(k string) int {
				if k == s {
					return i
				}
				return textNumber(c.Pool, k)
			}
			b := told.whole(c)
			is(t, "they differ", bytes.Equal(b, bytesOf(c)), false)
			parsesNone(t, fmt.Sprintf("Parse with %d as the number of the text %s", i, s), b, api.ErrClass)
		}
	}
	for _, i := range []int{11, 25} {
		told := right(c.Pool)
		told.class = func(k string) int {
			if k == "a" {
				return i
			}
			return classNumber(c.Pool, k)
		}
		parsesNone(t, fmt.Sprintf("Parse with %d as the number of the class a", i), told.whole(c), api.ErrClass)
		self := with(func(c *api.Class) { c.Name, c.Super, c.Methods = "Object", "a", nil })
		parsesNone(t, fmt.Sprintf("Parse with %d as the Super a", i), told.whole(self), api.ErrClass)
	}
	handler := withCode(func(c *api.Code) { c.Handlers[0].Class = 25 })
	parses(t, "Parse with 25 as a handler's class, which is a number of its own", bytesOf(handler), handler)
}

// 8.1: a Name, a Super, a KRef, a text of every number.
func TestParseOfEveryNumber(t *testing.T) {
	c := full()
	for _, s := range []string{"a", "Object", "[I"} {
		for i := range len(c.Pool) + 3 {
			told := right(c.Pool)
			told.class = func(k string) int {
				if k == s {
					return i
				}
				return classNumber(c.Pool, k)
			}
			parsesAsTold(t, fmt.Sprintf("Parse with %d as the number of the class %s", i, s), told.whole(c))
		}
	}
	for _, s := range []string{"a", "m", "()V", "Code", "StackMapTable", "I"} {
		for i := range len(c.Pool) + 3 {
			told := right(c.Pool)
			told.text = func(k string) int {
				if k == s {
					return i
				}
				return textNumber(c.Pool, k)
			}
			parsesAsTold(t, fmt.Sprintf("Parse with %d as the number of the text %s", i, s), told.whole(c))
		}
	}
}

// 8.1: a class Name, a Super and a KRef that are no class's number: another entry's, that of nothing, one that is not there.
func TestParseOfNoClassNumber(t *testing.T) {
	c := small()
	c.Pool = append(c.Pool, utf(""), num(1))
	for _, s := range []string{"a", "Code"} {
		for _, i := range []int{0, 1, 3, 4, 6, 7, 8, 9, 255, 256, 65535} {
			if s == "Code" && i == 0 {
				continue // no Super, which is told by TestParseOfNoSuper; its KRef is wrong still
			}
			told := right(c.Pool)
			told.class = func(k string) int {
				if k == s {
					return i
				}
				return classNumber(c.Pool, k)
			}
			parsesNone(t, fmt.Sprintf("Parse with %d as the number of the class %s", i, s), told.whole(c), api.ErrClass)
		}
	}
}

// 8.1: no Super is the number 0 alone, also where the pool has a class without a name.
func TestParseOfNoSuper(t *testing.T) {
	c := api.Class{Pool: of(utf("a"), cls(1), utf(""), cls(3)), Name: "a"}
	b := bytesOf(c)
	parses(t, "Parse of a class without a Super", b, c)
	for i := 1; i < 7; i++ {
		b[len(b)-9] = byte(i)
		want := api.Class{Pool: c.Pool, Name: "a", Super: "a"}
		if i == 2 {
			parses(t, "Parse of a class that is its own Super", b, want)
		} else {
			parsesNone(t, fmt.Sprintf("Parse with %d as the Super", i), b, api.ErrClass)
		}
	}
}

// 8.1: lengths and numbers of members that do not fit what follows.
func TestParseOfWrongLengths(t *testing.T) {
	without := withCode(func(c *api.Code) { c.Maps = nil })
	for what, c := range map[string]api.Class{"with all parts": full(), "without maps": without, "of small parts": small()} {
		for _, length := range []string{
			"entries", "interfaces", "fields", "parts of a field", "methods", "parts of a method", "a method's length",
			"a code's length", "handlers", "parts of a code without maps", "parts of a code with maps", "the maps' length", "maps",
			"locals", "a stack", "parts of a class",
		} {
			for _, more := range []int{-4, -3, -2, -1, 1, 2, 3, 4, 8, 255, 256, 65535} {
				told := right(c.Pool)
				told.more[length] = more
				b := told.whole(c)
				if bytes.Equal(b, bytesOf(c)) {
					continue // there is none such in this class
				}
				parsesNone(t, fmt.Sprintf("Parse of a class %s, with %d more as the number of: %s", what, more, length), b, api.ErrClass)
			}
		}
	}
}

// 8.1: lengths of four bytes that no bytes are enough for.
func TestParseOfGreatLengths(t *testing.T) {
	for _, length := range []string{"a method's length", "a code's length", "the maps' length"} {
		for _, more := range []int{1 << 16, 1<<31 - 1, 1 << 31, 1<<32 - 3, 1<<32 - 1} {
			told := right(full().Pool)
			told.more[length] = more
			parsesNone(t, fmt.Sprintf("Parse with %d more as %s", more, length), told.whole(full()), api.ErrClass)
		}
	}
}

// 8.1: maps are told as a part of the code only where there are some, and once.
func TestParseOfNoMapsTold(t *testing.T) {
	c := api.Class{Pool: fullPool(), Name: "a", Methods: []api.Method{{Name: "m", Type: "I", Code: api.Code{Bytes: []byte{1}}}}}
	b := bytesOf(c)
	size, parts := len(b)-2-13-1, len(b)-4 // where the method's length ends, and where the code's parts begin
	is(t, "the method's length", b[size], byte(13))
	told := func(n byte, more ...byte) []byte {
		d := slices.Concat(b[:parts], []byte{0, n}, more, []byte{0, 0})
		d[size] += byte(len(more))
		return d
	}
	c.Methods[0].Code.Maps = []api.Map{{At: 7}}
	part := []byte{0, 6, 0, 0, 0, 9, 0, 1, 255, 0, 7, 0, 0, 0, 0}
	parses(t, "Parse with one part", told(1, part...), c)
	parsesNone(t, "Parse with a part of no maps", told(1, 0, 6, 0, 0, 0, 2, 0, 0), api.ErrClass)
	parsesNone(t, "Parse with one part told and none there", told(1), api.ErrClass)
	parsesNone(t, "Parse with no part told and one there", told(0, part...), api.ErrClass)
	parsesNone(t, "Parse with two parts told and one there", told(2, part...), api.ErrClass)
	parsesNone(t, "Parse with two parts", told(2, slices.Concat(part, part)...), api.ErrClass)
	parsesNone(t, "Parse with one part told and two there", told(1, slices.Concat(part, part)...), api.ErrClass)
	part[8] = 254
	parsesNone(t, "Parse with a map of another form", told(1, part...), api.ErrClass)
}

// 8.1: in locals a KTop behind each long, that at the end, too, is not told.
func TestParseOfLongs(t *testing.T) {
	made := func(locals, stack []api.Type) api.Class {
		return withMap(func(m *api.Map) { m.Locals, m.Stack = locals, stack })
	}
	told := func(locals, stack []api.Type) []byte { // each long with nothing behind it
		only := func(l []api.Type) []api.Type {
			return slices.DeleteFunc(slices.Clone(l), func(x api.Type) bool { return x.Kind == api.KTop })
		}
		c := made(only(locals), only(stack))
		return bytesOf(c)
	}
	for _, l := range [][]api.Type{
		{long(), top()}, {integer(), long(), top()}, {long(), top(), long(), top()}, {long(), top(), integer()},
		append(times(62, integer()), long(), top()), slices.Repeat(types(long(), top()), 32),
	} {
		parses(t, fmt.Sprintf("Parse with locals %.60s", fmt.Sprint(l)), told(l, nil), made(l, nil))
	}
	for _, l := range [][]api.Type{
		append(times(63, integer()), long(), top()), append(slices.Repeat(types(long(), top()), 32), integer()),
		slices.Repeat(types(long(), top()), 33), slices.Repeat(types(long(), top()), 64),
	} {
		parsesNone(t, fmt.Sprintf("Parse with locals %.60s", fmt.Sprint(l)), told(l, nil), api.ErrClass)
	}
	for _, l := range [][]api.Type{{long()}, {long(), integer()}, {long(), long()}, times(64, long())} {
		parses(t, fmt.Sprintf("Parse with a stack %.60s", fmt.Sprint(l)), told(nil, l), made(nil, l))
	}
}

// 8.1: no bytes, bytes that are none, and too many.
func TestParseOfNoClass(t *testing.T) {
	parsesNone(t, "Parse of nil", nil, api.ErrClass)
	parsesNone(t, "Parse of no bytes", []byte{}, api.ErrClass)
	for _, x := range []byte{0, 1, 7, 255} {
		for _, n := range []int{1, 2, 10, 1000, api.MaxFile - 1, api.MaxFile} {
			parsesNone(t, fmt.Sprintf("Parse of %d bytes %d", n, x), slices.Repeat([]byte{x}, n), api.ErrClass)
		}
		for _, n := range []int{api.MaxFile + 1, api.MaxFile + 2, 2 * api.MaxFile, 65536, 1 << 20} {
			parsesNone(t, fmt.Sprintf("Parse of %d bytes %d", n, x), slices.Repeat([]byte{x}, n), api.ErrLong)
		}
	}
	b := bytesOf(sized(api.MaxFile))
	b[0]++
	parsesNone(t, "Parse of MaxFile bytes that begin wrong", b, api.ErrClass)
	parsesNone(t, "Parse of a right class but for its length", bytesOf(sized(api.MaxFile+1)), api.ErrLong)
	parsesNone(t, "Parse of a right class, with more than MaxFile bytes", append(bytesOf(full()), make([]byte, api.MaxFile)...), api.ErrLong)
}

// 8.1: numbers of members for which there are not the bytes.
func TestParseOfManyMembers(t *testing.T) {
	b := bytesOf(api.Class{Pool: of(utf("a"), cls(1)), Name: "a"})
	for _, at := range []int{6, 4} { // fields, methods
		for _, n := range []int{1, 255, 256, 257, 65535} {
			c := slices.Clone(b)
			c[len(c)-at], c[len(c)-at+1] = byte(n>>8), byte(n)
			parsesNone(t, fmt.Sprintf("Parse with %d members told", n), c, api.ErrClass)
			parsesNone(t, fmt.Sprintf("Parse with %d members told, and noughts", n), append(c, make([]byte, 30000)...), api.ErrClass)
		}
	}
}

// Rule 4: what is handed in is not changed, nor kept, and what is handed out is the caller's own.
func TestParseHandsOut(t *testing.T) {
	b := bytesOf(full())
	first, _ := class.Parse(b)
	second, _ := class.Parse(b)
	hasBytes(t, "what was handed in", b, bytesOf(full()))
	change(&first)
	grow(&first)
	hasClass(t, "the second, once the first was changed", second, full())
	hasBytes(t, "what was handed in, once the first was changed", b, bytesOf(full()))
	clear(b)
	hasClass(t, "the second, once the bytes were changed", second, full())
	grow(&second)
	hasClass(t, "the second, once it has members more", cut(second), full())
}
