package kind_test

import (
	"slices"
	"strings"
	"testing"

	"larch/api"
	"larch/kind"
)

func ref(name string) api.Type { return api.Type{Kind: api.KRef, Name: name} }

func of(k int) api.Type { return api.Type{Kind: k} }

func long(n int) string { return strings.Repeat("n", n) }

func deep(n int, s string) string { return strings.Repeat("[", n) + s }

func parses(t *testing.T, s string, want api.Type) {
	t.Helper()
	if x, e := kind.Parse(s); x != want || e != api.OK {
		t.Errorf("Parse(%q): %v %v, want %v", s, x, e, want)
	}
}

func noType(t *testing.T, s string) {
	t.Helper()
	if x, e := kind.Parse(s); x != (api.Type{}) || e != api.ErrType {
		t.Errorf("Parse(%q): %v %v, want ErrType", s, x, e)
	}
}

func method(t *testing.T, s string, back api.Type, args ...api.Type) {
	t.Helper()
	l, b, e := kind.Method(s)
	if !slices.Equal(l, args) || b != back || e != api.OK {
		t.Errorf("Method(%q): %v %v %v, want %v %v", s, l, b, e, args, back)
	}
}

func noMethod(t *testing.T, s string, want api.Errno) {
	t.Helper()
	l, b, e := kind.Method(s)
	if len(l) != 0 || b != (api.Type{}) || e != want {
		t.Errorf("Method(%q): %v %v %v, want %v", s, l, b, e, want)
	}
}

func prints(t *testing.T, x api.Type, want string, errno api.Errno) {
	t.Helper()
	if s, e := kind.Print(x); s != want || e != errno {
		t.Errorf("Print(%v): %q %v, want %q %v", x, s, e, want, errno)
	}
}

func elems(t *testing.T, x, want api.Type, errno api.Errno) {
	t.Helper()
	if y, e := kind.Elem(x); y != want || e != errno {
		t.Errorf("Elem(%v): %v %v, want %v %v", x, y, e, want, errno)
	}
}

func TestExample(t *testing.T) {
	l := []api.Type{of(api.KInt), of(api.KLong), ref("a"), ref("[[I")}
	method(t, "(IJLa;[[I)V", of(api.KTop), l...)
	if n := kind.Wide(l...); n != 5 {
		t.Errorf("Wide: %d, want 5", n)
	}
}

func TestClassLength(t *testing.T) {
	for n, want := range map[int]bool{0: false, 1: true, 2: true, 59: true, 60: true, 61: false, 62: false, 5000: false} {
		if got := kind.Class(long(n)); got != want {
			t.Errorf("Class of %d bytes: %v", n, got)
		}
	}
}

func TestClassBytes(t *testing.T) {
	const letters = "abcdefghijklmnopqrstuvwxyzABCDEFGHIJKLMNOPQRSTUVWXYZ"
	for c := range 256 {
		one := string([]byte{byte(c)})
		first, later := strings.Contains(letters, one), strings.Contains(letters+"0123456789_$/", one)
		for s, want := range map[string]bool{
			one: first, one + "a": first,
			"a" + one: later, "a" + one + "b": later, long(59) + one: later,
		} {
			if got := kind.Class(s); got != want {
				t.Errorf("Class(%q): %v", s, got)
			}
		}
	}
}

func TestParseOneLetter(t *testing.T) {
	for c := range 256 {
		s := string([]byte{byte(c)})
		switch s {
		case "I":
			parses(t, s, of(api.KInt))
			parses(t, "["+s, ref("[I"))
		case "J":
			parses(t, s, of(api.KLong))
			parses(t, "["+s, ref("[J"))
		case "B":
			noType(t, s)
			parses(t, "["+s, ref("[B"))
		default:
			noType(t, s)
			noType(t, "["+s)
		}
	}
	noType(t, "")
	noType(t, "\xff\x00")
	noType(t, "i")
	noType(t, "ü")
}

func TestParseObject(t *testing.T) {
	for _, name := range []string{"a", "Z", "java/lang/Object", "a_$9/", long(60), "I", "V"} {
		parses(t, "L"+name+";", ref(name))
		noType(t, "L"+name)
		noType(t, name+";")
		noType(t, name+"L;")
	}
	parses(t, "LL;", ref("L"))
	parses(t, "LLLa;", ref("LLa"))
	for _, name := range []string{"", long(61), "9", "_", "$", "/", "a-", "a.b", "[I", "a;", ";a", "ü", "a b", "a\x00"} {
		noType(t, "L"+name+";")
	}
	noType(t, "L"+strings.Repeat("n", 1<<16)+";")
}

func TestParseArray(t *testing.T) {
	for _, inner := range []string{"I", "J", "B", "La;", "L" + long(60) + ";"} {
		for n := 1; n <= 8; n++ {
			s := deep(n, inner)
			parses(t, s, ref(s))
		}
		for _, n := range []int{9, 10, 16, 17, 256, 264} {
			noType(t, deep(n, inner))
		}
	}
	for _, inner := range []string{"", "V", "L;", "L" + long(61) + ";", "La", "a;", "L1;", "Z", "]", "(I)V"} {
		for n := 1; n <= 9; n++ {
			noType(t, deep(n, inner))
		}
	}
	noType(t, "I[")
	noType(t, "[I[")
	noType(t, "[L[I;")
}

func TestParseMoreBehind(t *testing.T) {
	for _, s := range []string{"I", "J", "La;", "[I", "[B", "[[La;", deep(8, "J")} {
		for _, more := range []string{"I", "J", "B", ";", "V", "[", " ", "\x00", "La;", "[I", ")"} {
			noType(t, s+more)
			noType(t, more+s+more)
		}
		noType(t, " "+s)
		noType(t, "("+s)
	}
}

func TestMethodAnswers(t *testing.T) {
	method(t, "()V", of(api.KTop))
	for _, s := range []string{"I", "J", "La;", "[B", "[[La;", deep(8, "I")} {
		x, _ := kind.Parse(s)
		method(t, "()"+s, x)
		method(t, "("+s+")"+s, x, x)
		method(t, "("+s+s+"I)V", of(api.KTop), x, x, of(api.KInt))
		for _, more := range []string{"I", "V", ")", ")V", ";", " "} {
			noMethod(t, "()"+s+more, api.ErrType)
		}
	}
	for _, s := range []string{"", "B", "L;", "VV", "VI", "V;", "v", "[V", "[", deep(9, "I"), deep(9, "B"), "L" + long(61) + ";", ")", ")V", "()V"} {
		noMethod(t, "()"+s, api.ErrType)
		noMethod(t, "(I)"+s, api.ErrType)
	}
}

func TestMethodArguments(t *testing.T) {
	method(t, "(I)V", of(api.KTop), of(api.KInt))
	method(t, "(IJ[BLa;[[J)J", of(api.KLong), of(api.KInt), of(api.KLong), ref("[B"), ref("a"), ref("[[J"))
	method(t, "([ILI;[I)I", of(api.KInt), ref("[I"), ref("I"), ref("[I"))
	for _, s := range []string{"", "(", ")", "()", "I", "V", "I)V", ")V", "(V", "(I", "(IV", "(I)", "((I)V", "(I))V", " (I)V", "(I)V ", "[()V"} {
		noMethod(t, s, api.ErrType)
	}
	for _, s := range []string{"V", "IV", "VI", "B", "IB", "[", "I[", "[V", "La", "LaI", "L;", ";", "La;;", deep(9, "I"), "I" + deep(9, "B"), "L" + long(61) + ";", "(", "()V", "I,I", "\x00"} {
		noMethod(t, "("+s+")V", api.ErrType)
		noMethod(t, "("+s+")I", api.ErrType)
		noMethod(t, "(J"+s+")I", api.ErrType)
	}
}

func TestMethodWords(t *testing.T) {
	for _, s := range []string{"I", "La;", "[J", "[B", deep(8, "La;")} {
		x, _ := kind.Parse(s)
		method(t, "("+strings.Repeat(s, 31)+")J", of(api.KLong), slices.Repeat([]api.Type{x}, 31)...)
		method(t, "("+strings.Repeat(s, 32)+")V", of(api.KTop), slices.Repeat([]api.Type{x}, 32)...)
		method(t, "("+strings.Repeat(s, 30)+"J)V", of(api.KTop), append(slices.Repeat([]api.Type{x}, 30), of(api.KLong))...)
		noMethod(t, "("+strings.Repeat(s, 33)+")V", api.ErrLong)
		noMethod(t, "("+strings.Repeat(s, 31)+"J)V", api.ErrLong)
		noMethod(t, "(J"+strings.Repeat(s, 31)+")"+s, api.ErrLong)
		noMethod(t, "("+strings.Repeat(s, 5000)+")V", api.ErrLong)
	}
	method(t, "("+strings.Repeat("J", 16)+")V", of(api.KTop), slices.Repeat([]api.Type{of(api.KLong)}, 16)...)
	noMethod(t, "("+strings.Repeat("J", 16)+"I)V", api.ErrLong)
	noMethod(t, "("+strings.Repeat("J", 17)+")V", api.ErrLong)
}

func TestMethodTypeAheadOfLong(t *testing.T) {
	for _, many := range []string{strings.Repeat("I", 33), strings.Repeat("J", 17), strings.Repeat("La;", 400)} {
		noMethod(t, "("+many+")V", api.ErrLong)
		for _, s := range []string{
			"(" + many, "(" + many + ")", many + ")V", "(" + many + "V)V", "(V" + many + ")V", "(" + many + "B)V",
			"(" + many + ")VV", "(" + many + ")II", "(" + many + ")B", "(" + many + "[)V", "(" + many + "L;)I", "(" + many + "V",
		} {
			noMethod(t, s, api.ErrType)
		}
	}
}

func TestPrint(t *testing.T) {
	prints(t, of(api.KInt), "I", api.OK)
	prints(t, of(api.KLong), "J", api.OK)
	for _, name := range []string{"a", "Object", long(60), "I", "B", "L", "a/b$c_1"} {
		prints(t, ref(name), "L"+name+";", api.OK)
	}
	for _, inner := range []string{"I", "J", "B", "La;", "L" + long(60) + ";"} {
		for n := 1; n <= 8; n++ {
			prints(t, ref(deep(n, inner)), deep(n, inner), api.OK)
		}
		prints(t, ref(deep(9, inner)), "", api.ErrType)
	}
	for _, name := range []string{"", long(61), "1", "_a", "a;", "a;Lb", "La;", "a-b", ";", "ü", "[", "[V", "[a", "[L;", "[La", "[I]", "[II", "[[", "a[", "[La;I"} {
		prints(t, ref(name), "", api.ErrType)
	}
}

func TestPrintWithout(t *testing.T) {
	for _, k := range []int{api.KTop, api.KNull, 5, 6, -1, -4, 1 << 40, -1 << 63, 4 + 1<<32} {
		for _, name := range []string{"", "a", "I", "[I", "La;"} {
			prints(t, api.Type{Kind: k, Name: name}, "", api.ErrType)
		}
	}
	for _, k := range []int{api.KInt, api.KLong} {
		for _, name := range []string{"a", "I", "J", "[I", " "} {
			prints(t, api.Type{Kind: k, Name: name}, "", api.ErrType)
		}
	}
}

func TestElem(t *testing.T) {
	for inner, want := range map[string]api.Type{"I": of(api.KInt), "J": of(api.KLong), "B": of(api.KInt), "La;": ref("a"), "LB;": ref("B"), "L" + long(60) + ";": ref(long(60))} {
		elems(t, ref("["+inner), want, api.OK)
		for n := 2; n <= 8; n++ {
			elems(t, ref(deep(n, inner)), ref(deep(n-1, inner)), api.OK)
		}
		elems(t, ref(deep(9, inner)), of(api.KTop), api.ErrType)
		elems(t, ref(deep(10, inner)), of(api.KTop), api.ErrType)
	}
	for _, name := range []string{"", "a", "I", "B", "La;", "[", "[[", "[V", "[a", "[L;", "[II", "[I ", "[La", "[L" + long(61) + ";", "[B;", "[BB", long(61), " [I"} {
		elems(t, ref(name), of(api.KTop), api.ErrType)
	}
	for _, k := range []int{api.KTop, api.KInt, api.KLong, api.KNull, 5, -1, 4 + 1<<32} {
		for _, name := range []string{"", "a", "[I", "[B", "[La;"} {
			elems(t, api.Type{Kind: k, Name: name}, of(api.KTop), api.ErrType)
		}
	}
}

func TestWide(t *testing.T) {
	for k := -3; k <= 8; k++ {
		want := 1
		if k == api.KLong {
			want = 2
		}
		for _, name := range []string{"", "a", "[J", "J"} {
			if n := kind.Wide(api.Type{Kind: k, Name: name}); n != want {
				t.Errorf("Wide of kind %d: %d", k, n)
			}
		}
	}
	if kind.Wide() != 0 || kind.Wide(nil...) != 0 {
		t.Error("Wide of none")
	}
	if n := kind.Wide(of(api.KLong), of(api.KTop), of(api.KLong), ref("[J"), of(99), of(-1<<63), of(api.KLong)); n != 10 {
		t.Errorf("Wide of seven: %d", n)
	}
	if n := kind.Wide(slices.Repeat([]api.Type{of(api.KLong), of(api.KInt)}, 1000)...); n != 3000 {
		t.Errorf("Wide of 2000: %d", n)
	}
}
