package class_test

import (
	"bytes"
	"fmt"
	"math"
	"slices"
	"strings"
	"testing"

	"larch/api"
	"larch/class"
)

func utf(s string) api.Entry  { return api.Entry{Tag: api.TUtf8, Text: s} }
func num(n int) api.Entry     { return api.Entry{Tag: api.TInt, N: n} }
func cls(a int) api.Entry     { return api.Entry{Tag: api.TClass, A: a} }
func name(a, b int) api.Entry { return api.Entry{Tag: api.TName, A: a, B: b} }

// of answers the zero entry, and others behind it.
func of(l ...api.Entry) []api.Entry { return append([]api.Entry{{}}, l...) }

// Types, by short names.
func top() api.Type         { return api.Type{Kind: api.KTop} }
func integer() api.Type     { return api.Type{Kind: api.KInt} }
func long() api.Type        { return api.Type{Kind: api.KLong} }
func null() api.Type        { return api.Type{Kind: api.KNull} }
func ref(s string) api.Type { return api.Type{Kind: api.KRef, Name: s} }

func types(l ...api.Type) []api.Type { return l }

func times(n int, x api.Type) []api.Type { return slices.Repeat(types(x), n) }

// The numbers of the classes in the pool of full.
func classNumbers() []int { return []int{2, 9, 11, 20, 25} }

// fullPool has all that full names, some of it twice, and entries of all tags.
func fullPool() []api.Entry {
	return of(
		utf("a"), cls(1), utf("m"), utf("()V"), utf("Code"), utf("StackMapTable"), utf("I"), utf("Object"), cls(8),
		utf("a"), cls(10), api.Entry{Tag: api.TLong, N: -5}, api.Entry{}, num(3), name(3, 4),
		api.Entry{Tag: api.TMethod, A: 2, B: 15}, name(3, 7), api.Entry{Tag: api.TField, A: 2, B: 17}, utf("[I"), cls(19),
		utf("Code"), utf("StackMapTable"), utf("m"), utf("()V"), cls(1), utf("I"),
	)
}

// full is a right class with all parts that there are.
func full() api.Class {
	return api.Class{
		Pool: fullPool(), Name: "a", Super: "Object",
		Fields: []api.Field{{Name: "m", Type: "I"}, {Access: api.AStatic, Name: "a", Type: "I"}},
		Methods: []api.Method{
			{Name: "m", Type: "()V", Code: api.Code{
				Stack: 3, Locals: 4, Bytes: []byte{0, 1, 2, 3, 177},
				Handlers: []api.Handler{{From: 0, To: 1, At: 2}, {From: 1, To: 4, At: 258, Class: 9}},
				Maps: []api.Map{
					{At: 1, Locals: types(ref("a"), long(), top(), integer()), Stack: types(null())},
					{At: 2, Locals: types(top(), top(), long(), top())},
					{At: 770, Stack: types(long(), ref("[I"), top())},
				},
			}},
			{Access: api.AStatic | api.ASync, Name: "a", Type: "()V", Code: api.Code{Bytes: []byte{177}}},
			{Access: api.ASync, Name: "m", Type: "I", Code: api.Code{
				Stack: 64, Locals: 64, Bytes: []byte{255, 0}, Maps: []api.Map{{}},
			}},
		},
	}
}

// with answers a right class with something changed.
func with(change func(c *api.Class)) api.Class {
	c := full()
	change(&c)
	return c
}

// withCode answers a right class with the first method's code changed.
func withCode(change func(c *api.Code)) api.Class {
	return with(func(c *api.Class) { change(&c.Methods[0].Code) })
}

// withMap answers a right class with the first method's second map changed.
func withMap(change func(m *api.Map)) api.Class {
	return withCode(func(c *api.Code) { change(&c.Maps[1]) })
}

// without answers a class of whose pool all entries of a text are another one's.
func without(c api.Class, s string) api.Class {
	c.Pool = slices.Clone(c.Pool)
	for i := range c.Pool {
		if c.Pool[i] == utf(s) {
			c.Pool[i] = utf("another")
		}
	}
	return c
}

// sized answers a right class but for its length, of n bytes.
func sized(n int) api.Class {
	c := api.Class{Pool: of(utf("a"), cls(1)), Name: "a"}
	for size := len(bytesOf(c)); size < n; size = len(bytesOf(c)) {
		more := min(255, n-size-3)
		if rest := n - size - 3 - more; rest > 0 && rest < 3 {
			more -= 3
		}
		c.Pool = append(c.Pool, utf(strings.Repeat("b", more)))
	}
	return c
}

func sameMap(a, b api.Map) bool {
	return a.At == b.At && slices.Equal(a.Locals, b.Locals) && slices.Equal(a.Stack, b.Stack)
}

func sameMethod(a, b api.Method) bool {
	x, y := a.Code, b.Code
	return a.Access == b.Access && a.Name == b.Name && a.Type == b.Type && x.Stack == y.Stack && x.Locals == y.Locals &&
		bytes.Equal(x.Bytes, y.Bytes) && slices.Equal(x.Handlers, y.Handlers) && slices.EqualFunc(x.Maps, y.Maps, sameMap)
}

// same holds two classes against each other (a list without members may be nil).
func same(a, b api.Class) bool {
	return slices.Equal(a.Pool, b.Pool) && a.Name == b.Name && a.Super == b.Super && slices.Equal(a.Fields, b.Fields) &&
		slices.EqualFunc(a.Methods, b.Methods, sameMethod)
}

func is(t *testing.T, what string, got, want any) {
	t.Helper()
	if got != want {
		t.Errorf("%s: %v, want %v", what, got, want)
	}
}

func hasClass(t *testing.T, what string, got, want api.Class) {
	t.Helper()
	if !same(got, want) {
		t.Errorf("%s: %.600s, want %.600s", what, fmt.Sprint(got), fmt.Sprint(want))
	}
}

func hasBytes(t *testing.T, what string, got, want []byte) {
	t.Helper()
	if !bytes.Equal(got, want) {
		t.Errorf("%s: %d bytes %.300x, want %d bytes %.300x", what, len(got), got, len(want), want)
	}
}

// rightClasses are right classes at the edges that the chapter names.
func rightClasses() map[string]api.Class {
	all := map[string]api.Class{
		"with all parts":              full(),
		"as the example's":            {Pool: of(utf("a"), cls(1)), Name: "a"},
		"without a Super":             with(func(c *api.Class) { c.Super = "" }),
		"that is its own Super":       with(func(c *api.Class) { c.Super = "a" }),
		"with empty texts":            {Pool: of(utf(""), cls(1)), Fields: []api.Field{{}}},
		"with an array as its name":   with(func(c *api.Class) { c.Name, c.Super = "[I", "[I" }),
		"without fields":              with(func(c *api.Class) { c.Fields = nil }),
		"without methods":             with(func(c *api.Class) { c.Methods = nil }),
		"without methods and Code":    without(with(func(c *api.Class) { c.Methods = nil }), "Code"),
		"without methods and maps":    without(with(func(c *api.Class) { c.Methods = nil }), "StackMapTable"),
		"without maps and their text": without(with(func(c *api.Class) { c.Methods = c.Methods[1:2] }), "StackMapTable"),
		"with the same field twice":   with(func(c *api.Class) { c.Fields = append(c.Fields, c.Fields...) }),
		"with the same method twice":  with(func(c *api.Class) { c.Methods = append(c.Methods, c.Methods...) }),
		"named by one text":           {Pool: of(utf("Code"), cls(1)), Name: "Code", Super: "Code", Methods: []api.Method{{Name: "Code", Type: "Code", Code: api.Code{Bytes: []byte{1}}}}},
		"of MaxFile bytes":            sized(api.MaxFile),
		"of MaxFile bytes less one":   sized(api.MaxFile - 1),
		"with the first text pointed to, and a class ahead of it": {Pool: of(cls(2), utf("a"), cls(2)), Name: "a"},
	}
	addRightAccess(all)
	addRightSizes(all)
	addRightHandlers(all)
	addRightMaps(all)
	addRightTypes(all)
	return all
}

func addRightAccess(all map[string]api.Class) {
	for _, n := range []int{0, 8} {
		all[fmt.Sprint("with a field's Access ", n)] = with(func(c *api.Class) { c.Fields[1].Access = n })
	}
	for _, n := range []int{0, 8, 32, 40} {
		all[fmt.Sprint("with a method's Access ", n)] = with(func(c *api.Class) { c.Methods[1].Access = n })
	}
}

func addRightSizes(all map[string]api.Class) {
	for _, n := range []int{1, 255, 256} {
		all[fmt.Sprint("fields: ", n)] = with(func(c *api.Class) { c.Fields = slices.Repeat(c.Fields[1:], n) })
		all[fmt.Sprint("methods: ", n)] = with(func(c *api.Class) { c.Methods = slices.Repeat(c.Methods[1:2], n) })
		all[fmt.Sprint("handlers: ", n)] = withCode(func(c *api.Code) { c.Handlers = slices.Repeat(c.Handlers[1:], n) })
		all[fmt.Sprint("maps: ", n)] = withCode(func(c *api.Code) { c.Maps = mapsAt(n) })
	}
	for _, n := range []int{0, 1, 63, 64} {
		all[fmt.Sprint("Stack: ", n)] = withCode(func(c *api.Code) { c.Stack = n })
		all[fmt.Sprint("Locals: ", n)] = withCode(func(c *api.Code) { c.Locals = n })
	}
	for _, n := range []int{1, 2, 255, 256, 257, 4095, 4096} {
		all[fmt.Sprint("Bytes: ", n)] = withCode(func(c *api.Code) { c.Bytes = slices.Repeat([]byte{9}, n) })
	}
}

// mapsAt answers n maps at places one behind the other.
func mapsAt(n int) []api.Map {
	var l []api.Map
	for i := range n {
		l = append(l, api.Map{At: i, Stack: times(i%2, integer())})
	}
	return l
}

func addRightHandlers(all map[string]api.Class) {
	for _, n := range append(classNumbers(), 0) {
		all[fmt.Sprint("with a handler of class ", n)] = withCode(func(c *api.Code) { c.Handlers[0].Class = n })
	}
	for _, n := range []int{0, 1, 255, 256, 65534, 65535} {
		all[fmt.Sprint("with a handler from ", n)] = withCode(func(c *api.Code) { c.Handlers[0].From = n })
		all[fmt.Sprint("with a handler to ", n)] = withCode(func(c *api.Code) { c.Handlers[0].To = n })
		all[fmt.Sprint("with a handler at ", n)] = withCode(func(c *api.Code) { c.Handlers[0].At = n })
	}
	all["without handlers"] = withCode(func(c *api.Code) { c.Handlers = nil })
	all["with no handlers, not nil"] = withCode(func(c *api.Code) { c.Handlers = []api.Handler{} })
}

func addRightMaps(all map[string]api.Class) {
	for _, l := range [][]int{{}, {0}, {1}, {65535}, {0, 1}, {0, 65535}, {65534, 65535}, {1, 2, 3}, {5, 7, 300, 301}} {
		all[fmt.Sprint("with maps at ", l)] = withCode(func(c *api.Code) {
			c.Maps = []api.Map{}
			for _, n := range l {
				c.Maps = append(c.Maps, api.Map{At: n, Stack: types(integer())})
			}
		})
	}
}

func addRightTypes(all map[string]api.Class) {
	lists := [][]api.Type{
		{}, {top()}, {integer()}, {null()}, {ref("a")}, {ref("Object")}, {ref("[I")}, {long(), top()}, {long(), top(), top()},
		{long(), top(), long(), top()}, {top(), long(), top()}, {integer(), long(), top(), integer()}, {top(), top()},
	}
	for i, l := range lists {
		all[fmt.Sprintf("with locals %d", i)] = withMap(func(m *api.Map) { m.Locals = l })
		all[fmt.Sprintf("with a stack %d", i)] = withMap(func(m *api.Map) { m.Stack = l })
	}
	for i, l := range [][]api.Type{{long()}, {long(), integer()}, {integer(), long()}, {long(), long()}, {long(), ref("a")}} {
		all[fmt.Sprintf("with a stack with longs %d", i)] = withMap(func(m *api.Map) { m.Stack = l })
	}
	for i, x := range []api.Type{top(), integer(), null(), ref("a")} {
		all[fmt.Sprintf("with MaxStack locals %d", i)] = withMap(func(m *api.Map) { m.Locals = times(64, x) })
		all[fmt.Sprintf("with a stack of MaxStack %d", i)] = withMap(func(m *api.Map) { m.Stack = times(64, x) })
	}
	all["with a stack of MaxStack longs"] = withMap(func(m *api.Map) { m.Stack = times(64, long()) })
	all["with MaxStack locals that are longs"] = withMap(func(m *api.Map) { m.Locals = slices.Repeat(types(long(), top()), 32) })
	all["with a long as the last of MaxStack locals"] = withMap(func(m *api.Map) { m.Locals = append(times(62, integer()), long(), top()) })
	all["with a long as the last but one of MaxStack locals"] = withMap(func(m *api.Map) { m.Locals = append(times(61, integer()), long(), top(), integer()) })
	nameless := api.Class{Pool: append(fullPool(), utf(""), cls(27)), Name: "a"}
	nameless.Methods = []api.Method{{Name: "m", Type: "m", Code: api.Code{Bytes: []byte{1}, Maps: []api.Map{{Locals: types(ref("")), Stack: types(ref(""))}}}}}
	all["with a KRef of a class without a name, and no Super"] = nameless
}

// wrongClasses are classes that are not right, each for one reason.
func wrongClasses() map[string]api.Class {
	all := map[string]api.Class{
		"of nothing":                            {},
		"whose Name is not there":               with(func(c *api.Class) { c.Name = "b" }),
		"whose Name is empty, and not there":    with(func(c *api.Class) { c.Name = "" }),
		"whose Name is there as a text alone":   with(func(c *api.Class) { c.Name = "m" }),
		"whose Name is a beginning of another":  with(func(c *api.Class) { c.Name = "Objec" }),
		"whose Super is not there":              with(func(c *api.Class) { c.Super = "b" }),
		"whose Super is there as a text alone":  with(func(c *api.Class) { c.Super = "m" }),
		"of the text of its Name alone":         {Pool: of(utf("a")), Name: "a"},
		"with a field whose Name is not there":  with(func(c *api.Class) { c.Fields[1].Name = "b" }),
		"with a field whose Type is not there":  with(func(c *api.Class) { c.Fields[1].Type = "J" }),
		"with a field whose Name is empty":      with(func(c *api.Class) { c.Fields[0].Name = "" }),
		"with a field whose Type is empty":      with(func(c *api.Class) { c.Fields[0].Type = "" }),
		"with a method whose Name is not there": with(func(c *api.Class) { c.Methods[1].Name = "b" }),
		"with a method whose Type is not there": with(func(c *api.Class) { c.Methods[1].Type = "()I" }),
		"with a method whose Name is empty":     with(func(c *api.Class) { c.Methods[0].Name = "" }),
		"with a method whose Type is empty":     with(func(c *api.Class) { c.Methods[0].Type = "" }),
		"with methods, without Code":            without(full(), "Code"),
		"with maps, without StackMapTable":      without(full(), "StackMapTable"),
		"with maps in the last method alone":    without(with(func(c *api.Class) { c.Methods = c.Methods[1:] }), "StackMapTable"),
		"without Bytes, of the second method":   with(func(c *api.Class) { c.Methods[1].Code.Bytes = nil }),
	}
	addWrongPools(all)
	addWrongAccess(all)
	addWrongSizes(all)
	addWrongHandlers(all)
	addWrongMaps(all)
	addWrongTypes(all)
	return all
}

func addWrongPools(all map[string]api.Class) {
	for what, l := range map[string][]api.Entry{
		"without entries":                nil,
		"without entries, not nil":       {},
		"without its zero entry":         fullPool()[1:],
		"of too many entries":            append(fullPool(), slices.Repeat(of(num(1))[1:], 1024)...),
		"of MaxPool entries and 1":       append(fullPool(), slices.Repeat(of(num(1))[1:], 1025-27)...),
		"with a zero entry more":         append(fullPool(), api.Entry{}),
		"with a class of a class":        append(fullPool(), cls(2)),
		"with a class of nothing":        append(fullPool(), cls(28)),
		"with a class below 0":           append(fullPool(), cls(-1)),
		"with a name of a class":         append(fullPool(), name(2, 3)),
		"with a text with a blank":       append(fullPool(), utf("a b")),
		"with a text of 256 bytes":       append(fullPool(), utf(strings.Repeat("a", 256))),
		"with an int that is too great":  append(fullPool(), num(math.MaxInt32+1)),
		"with a tag that there is not":   append(fullPool(), api.Entry{Tag: 2}),
		"with a long at its end":         append(fullPool(), api.Entry{Tag: api.TLong}),
		"with a text that has a number":  append(fullPool(), api.Entry{Tag: api.TUtf8, Text: "a", N: 1}),
		"with a class that has a B":      append(fullPool(), api.Entry{Tag: api.TClass, A: 1, B: 1}),
		"with a first entry that is one": append([]api.Entry{utf("a")}, fullPool()[1:]...),
	} {
		all["with a pool "+what] = with(func(c *api.Class) { c.Pool = l })
		all["of nothing but a pool "+what] = api.Class{Pool: l, Name: "a"}
	}
}

func addWrongAccess(all map[string]api.Class) {
	for _, n := range []int{-1, -8, -32, 1, 2, 4, 7, 9, 10, 16, 24, 32, 33, 40, 48, 64, 256, 264, 1024, 65536, 65544, 1<<32 + 8, math.MaxInt, math.MinInt, math.MinInt + 8} {
		all[fmt.Sprint("with a field's Access ", n)] = with(func(c *api.Class) { c.Fields[1].Access = n })
		if n != 32 && n != 40 {
			all[fmt.Sprint("with a method's Access ", n)] = with(func(c *api.Class) { c.Methods[1].Access = n })
		}
	}
	for _, n := range []int{41, 42, 44, 56, 72, 65568, 65576, math.MinInt + 40, -40} {
		all[fmt.Sprint("with a method's Access ", n)] = with(func(c *api.Class) { c.Methods[2].Access = n })
	}
}

func addWrongSizes(all map[string]api.Class) {
	for _, n := range []int{257, 512, 65536, 65537} {
		all[fmt.Sprint("fields: ", n)] = with(func(c *api.Class) { c.Fields = slices.Repeat(c.Fields[1:], n) })
		all[fmt.Sprint("methods: ", n)] = with(func(c *api.Class) { c.Methods = slices.Repeat(c.Methods[1:2], n) })
		all[fmt.Sprint("handlers: ", n)] = withCode(func(c *api.Code) { c.Handlers = slices.Repeat(c.Handlers[1:], n) })
		all[fmt.Sprint("maps: ", n)] = withCode(func(c *api.Code) { c.Maps = mapsAt(n) })
	}
	for _, n := range []int{-1, 65, 256, 65536, 65537, math.MaxInt, math.MinInt, math.MinInt + 1} {
		all[fmt.Sprint("Stack: ", n)] = withCode(func(c *api.Code) { c.Stack = n })
		all[fmt.Sprint("Locals: ", n)] = withCode(func(c *api.Code) { c.Locals = n })
	}
	for _, n := range []int{0, 4097, 8192} {
		all[fmt.Sprint("Bytes: ", n)] = withCode(func(c *api.Code) { c.Bytes = slices.Repeat([]byte{9}, n) })
	}
}

func addWrongHandlers(all map[string]api.Class) {
	for i := range len(fullPool()) + 2 {
		if i > 0 && !slices.Contains(classNumbers(), i) {
			all[fmt.Sprint("with a handler of class ", i)] = withCode(func(c *api.Code) { c.Handlers[0].Class = i })
		}
	}
	for _, n := range []int{-1, -2, 65535, 65536, 65538, 1<<32 + 2, math.MaxInt, math.MinInt, math.MinInt + 2} {
		all[fmt.Sprint("with a handler of class ", n)] = withCode(func(c *api.Code) { c.Handlers[0].Class = n })
	}
	for _, n := range []int{-1, 65536, 65537, 1 << 32, math.MaxInt, math.MinInt, math.MinInt + 1} {
		all[fmt.Sprint("with a handler from ", n)] = withCode(func(c *api.Code) { c.Handlers[0].From = n })
		all[fmt.Sprint("with a handler to ", n)] = withCode(func(c *api.Code) { c.Handlers[0].To = n })
		all[fmt.Sprint("with a handler at ", n)] = withCode(func(c *api.Code) { c.Handlers[0].At = n })
		all[fmt.Sprint("with a last handler at ", n)] = withCode(func(c *api.Code) { c.Handlers[1].At = n })
	}
}

func addWrongMaps(all map[string]api.Class) {
	for _, l := range [][]int{
		{-1}, {-2}, {65536}, {math.MaxInt}, {math.MinInt}, {0, 0}, {1, 0}, {5, 5}, {5, 4}, {0, 1, 1}, {0, 2, 1}, {1, 3, 2, 4},
		{65535, 65535}, {65535, 0}, {0, 65536}, {65535, 65536}, {-1, 0}, {-2, -1}, {math.MinInt, 0}, {math.MaxInt, math.MinInt},
		{0, math.MaxInt}, {1 << 32, 1<<32 + 1},
	} {
		all[fmt.Sprint("with maps at ", l)] = withCode(func(c *api.Code) {
			c.Maps = nil
			for _, n := range l {
				c.Maps = append(c.Maps, api.Map{At: n, Stack: types(integer())})
			}
		})
	}
}

// addWrongTypes adds classes with types that are none, in locals and in a stack; and longs in locals that have no KTop.
func addWrongTypes(all map[string]api.Class) {
	add := func(what string, locals, stack []api.Type) {
		all["with "+what] = withMap(func(m *api.Map) { m.Locals, m.Stack = locals, stack })
	}
	wrong := []api.Type{{Kind: -1}, {Kind: 5}, {Kind: 7}, {Kind: 255}, {Kind: 256}, {Kind: 1 << 32}, {Kind: math.MaxInt}, {Kind: math.MinInt}, {Kind: 5, Name: "a"}, {Kind: -1, Name: "a"}}
	for k := api.KTop; k < api.KRef; k++ {
		wrong = append(wrong, api.Type{Kind: k, Name: "a"}, api.Type{Kind: k, Name: "b"})
	}
	wrong = append(wrong, ref("b"), ref("m"), ref(""), ref("I"), ref("Objec"), ref("a "))
	for _, x := range wrong {
		add(fmt.Sprintf("%v in locals", x), types(x), nil)
		add(fmt.Sprintf("%v in locals behind others", x), types(integer(), integer(), x), nil)
		add(fmt.Sprintf("%v in locals behind a long", x), types(long(), x), nil)
		add(fmt.Sprintf("%v in a stack", x), nil, types(x))
		add(fmt.Sprintf("%v in a stack behind others", x), nil, types(long(), integer(), x, integer()))
	}
	for i, l := range [][]api.Type{
		{long()}, {integer(), long()}, {long(), integer()}, {long(), null()}, {long(), ref("a")}, {long(), long()}, {long(), long(), top()},
		{long(), top(), long()}, {long(), integer(), top()}, append(times(63, top()), long()), times(64, long()),
	} {
		add(fmt.Sprintf("a long in locals that is not wide: %d", i), l, nil)
	}
	for i, x := range []api.Type{top(), integer(), null(), ref("a")} {
		add(fmt.Sprintf("65 locals %d", i), times(65, x), nil)
		add(fmt.Sprintf("a stack of 65 %d", i), nil, times(65, x))
		add(fmt.Sprintf("65600 locals %d", i), times(65600, x), nil)
	}
	add("a stack of 65 longs", nil, times(65, long()))
	add("65 locals, with longs", slices.Concat(slices.Repeat(types(long(), top()), 32), types(top())), nil)
	add("65 locals, a long last", append(times(63, integer()), long(), top()), nil)
}

// 8.1: the example, and all that may be.
func TestCheckAndPrintOfRightClasses(t *testing.T) {
	for what, c := range rightClasses() {
		is(t, "a class "+what+" is right by the chapter's words", plainRight(c), true)
		is(t, "Check of a class "+what, class.Check(c), api.OK)
		b, e := class.Print(c)
		is(t, "Print of a class "+what+": its error", e, api.OK)
		hasBytes(t, "Print of a class "+what, b, bytesOf(c))
	}
}

// 8.1: the bytes, written out.
func TestPrintOfTheExample(t *testing.T) {
	b, e := class.Print(api.Class{Pool: of(utf("a"), cls(1)), Name: "a"})
	is(t, "Print: its error", e, api.OK)
	hasBytes(t, "Print", b, []byte{
		0xca, 0xfe, 0xba, 0xbe, 0, 0, 0, 0x34, 0, 3, 1, 0, 1, 0x61, 7, 0, 1, 0, 0x21, 0, 2, 0, 0, 0, 0, 0, 0, 0, 0, 0, 0,
	})
}

// smallBytes are those of small, written out.
func smallBytes() []byte {
	return slices.Concat(
		[]byte{0xca, 0xfe, 0xba, 0xbe, 0, 0, 0, 52, 0, 6},
		[]byte{1, 0, 1, 'a', 7, 0, 1, 1, 0, 4, 'C', 'o', 'd', 'e'},
		[]byte{1, 0, 13}, []byte("StackMapTable"), []byte{7, 0, 3},
		[]byte{0, 33, 0, 2, 0, 5, 0, 0},
		[]byte{0, 1, 0, 8, 0, 1, 0, 4, 0, 0},
		[]byte{0, 1, 0, 32, 0, 3, 0, 1, 0, 1, 0, 3, 0, 0, 0, 56},
		[]byte{0, 1, 0, 3, 0, 0, 0, 2, 0, 177, 0, 1, 0, 0, 0, 1, 255, 255, 0, 2},
		[]byte{0, 1, 0, 4, 0, 0, 0, 28, 0, 2},
		[]byte{255, 0, 1, 0, 2, 4, 7, 0, 5, 0, 1, 5},
		[]byte{255, 0, 2, 0, 3, 0, 1, 4, 0, 2, 4, 7, 0, 2},
		[]byte{0, 0},
	)
}

// small has each part just once or twice.
func small() api.Class {
	return api.Class{
		Pool: of(utf("a"), cls(1), utf("Code"), utf("StackMapTable"), cls(3)), Name: "a", Super: "Code",
		Fields: []api.Field{{Access: 8, Name: "a", Type: "StackMapTable"}},
		Methods: []api.Method{{Access: 32, Name: "Code", Type: "a", Code: api.Code{
			Stack: 1, Locals: 3, Bytes: []byte{0, 177}, Handlers: []api.Handler{{From: 0, To: 1, At: 65535, Class: 2}},
			Maps: []api.Map{
				{At: 1, Locals: types(long(), top(), ref("Code")), Stack: types(null())},
				{At: 4, Locals: types(top(), integer(), long(), top()), Stack: types(long(), ref("a"))},
			},
		}}},
	}
}

// 8.1: the bytes of a class with each part, written out.
func TestPrintOfBytes(t *testing.T) {
	b, e := class.Print(small())
	is(t, "Print: its error", e, api.OK)
	hasBytes(t, "Print", b, smallBytes())
	c, e := class.Parse(smallBytes())
	is(t, "Parse: its error", e, api.OK)
	hasClass(t, "Parse", c, small())
}

// refuses asks for an error, of Check and of Print.
func refuses(t *testing.T, what string, c api.Class, want api.Errno) {
	t.Helper()
	is(t, "Check of a class "+what, class.Check(c), want)
	b, e := class.Print(c)
	is(t, "Print of a class "+what+": its error", e, want)
	is(t, "Print of a class "+what+": how many bytes", len(b), 0)
}

// 8.1.
func TestCheckAndPrintOfWrongClasses(t *testing.T) {
	for what, c := range wrongClasses() {
		is(t, "a class "+what+" is right by the chapter's words", plainRight(c), false)
		refuses(t, "that is not right, "+what, c, api.ErrClass)
	}
}

// 8.1: ErrLong, but only if the class is right but for its length.
func TestCheckAndPrintOfLongClasses(t *testing.T) {
	many := with(func(c *api.Class) {
		for range 8 {
			c.Methods = append(c.Methods, api.Method{Name: "m", Type: "m", Code: api.Code{Bytes: make([]byte, 4096)}})
		}
	})
	mapped := withCode(func(c *api.Code) {
		for i := range 256 {
			c.Maps = append(c.Maps[:i], api.Map{At: i, Locals: times(64, ref("a")), Stack: times(64, integer())})
		}
	})
	for what, c := range map[string]api.Class{
		"of MaxFile bytes and 1": sized(api.MaxFile + 1),
		"of MaxFile bytes and 2": sized(api.MaxFile + 2),
		"of twice MaxFile bytes": sized(2 * api.MaxFile),
		"with many codes":        many,
		"with wide maps":         mapped,
	} {
		is(t, "a class "+what+" is right but for its length", plainRight(c) && len(bytesOf(c)) > api.MaxFile, true)
		refuses(t, what, c, api.ErrLong)
		c.Super = "nobody"
		refuses(t, what+", with another Super", c, api.ErrClass)
		c.Super = ""
		c.Fields = append(slices.Clone(c.Fields), api.Field{Access: 1, Name: "a", Type: "a"})
		refuses(t, what+", with a wrong field", c, api.ErrClass)
		c.Fields = nil
		c.Pool = append(slices.Clone(c.Pool), api.Entry{})
		refuses(t, what+", with a wrong pool", c, api.ErrClass)
	}
}

// 8.1: with as many parts as there may be.
func TestCheckOfTheGreatestClass(t *testing.T) {
	c := full()
	var l []api.Map
	for i := range 256 {
		l = append(l, api.Map{At: i, Locals: times(64, ref("a")), Stack: times(64, ref("a"))})
	}
	c.Methods[0].Code.Maps = l
	c.Methods = slices.Repeat(c.Methods[:1], 256)
	is(t, "Check of the greatest class", class.Check(c), api.ErrLong)
	c.Methods[255].Code.Maps = append(slices.Clone(l[:255]), api.Map{At: 255, Stack: types(ref("b"))})
	is(t, "Check of it with one wrong type at its end", class.Check(c), api.ErrClass)
}

// 8.1: the number of a text or a class is the first such entry's, whichever entry a class points to.
func TestPrintTellsTheFirstNumbers(t *testing.T) {
	first, second := small(), small()
	second.Pool = append(second.Pool, second.Pool[1:3]...)
	second.Pool = append(second.Pool, second.Pool[3:6]...)
	b, e := class.Print(second)
	is(t, "Print: its error", e, api.OK)
	size := len(bytesOf(api.Class{Pool: first.Pool})) - 14
	hasBytes(t, "Print: what is behind the pool", b[size+len(b)-len(smallBytes()):], smallBytes()[size:])
	front := full()
	front.Pool = of(cls(4), utf("x"), utf("a"), utf("a"), cls(3), cls(2), utf("m"), utf("m"))
	front.Super, front.Methods, front.Fields = "x", nil, []api.Field{{Name: "m", Type: "a"}}
	b, e = class.Print(front)
	is(t, "Print of a class ahead of its text: its error", e, api.OK)
	hasBytes(t, "Print of a class ahead of its text", b[len(b)-22:], []byte{0, 33, 0, 1, 0, 6, 0, 0, 0, 1, 0, 0, 0, 7, 0, 3, 0, 0, 0, 0, 0, 0})
}

// 8.1: a Super of 0 is told where there is none, also where the pool has a class without a name.
func TestPrintOfNoSuper(t *testing.T) {
	c := api.Class{Pool: of(utf("a"), cls(1), utf(""), cls(3)), Name: "a"}
	b, e := class.Print(c)
	is(t, "Print: its error", e, api.OK)
	hasBytes(t, "Print", b[len(b)-14:], []byte{0, 33, 0, 2, 0, 0, 0, 0, 0, 0, 0, 0, 0, 0})
	c.Name = ""
	b, e = class.Print(c)
	is(t, "Print without a name: its error", e, api.OK)
	hasBytes(t, "Print without a name", b[len(b)-14:], []byte{0, 33, 0, 4, 0, 0, 0, 0, 0, 0, 0, 0, 0, 0})
}

// 8.1: a list without members may be nil or empty.
func TestPrintOfEmptyLists(t *testing.T) {
	empty := func(c api.Class) api.Class {
		c.Fields, c.Methods = append([]api.Field{}, c.Fields...), append([]api.Method{}, c.Methods...)
		for i := range c.Methods {
			k := &c.Methods[i].Code
			k.Handlers, k.Maps = append([]api.Handler{}, k.Handlers...), append([]api.Map{}, k.Maps...)
			for j := range k.Maps {
				m := &k.Maps[j]
				m.Locals, m.Stack = append([]api.Type{}, m.Locals...), append([]api.Type{}, m.Stack...)
			}
		}
		return c
	}
	for what, c := range rightClasses() {
		b, e := class.Print(empty(c))
		is(t, "Print of a class "+what+", with empty lists: its error", e, api.OK)
		hasBytes(t, "Print of a class "+what+", with empty lists", b, bytesOf(c))
	}
}

// Rule 4: what is handed in is not changed, and what is handed out is the caller's own.
func TestPrintHandsOut(t *testing.T) {
	c := full()
	class.Check(c)
	hasClass(t, "what was handed to Check", c, full())
	first, _ := class.Print(c)
	hasClass(t, "what was handed to Print", c, full())
	second, _ := class.Print(c)
	clear(first)
	hasBytes(t, "the second", second, bytesOf(full()))
	hasClass(t, "what was handed to Print, once its bytes were changed", c, full())
	change(&c)
	hasBytes(t, "the second, once the class was changed", second, bytesOf(full()))
}
