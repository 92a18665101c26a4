package kind_test

import (
	"math/rand"
	"regexp"
	"slices"
	"strings"
	"testing"

	"larch/api"
	"larch/kind"
)

// A plain reading of the chapter's words, against which the calls are held.

const (
	nameForm = `[a-zA-Z][a-zA-Z0-9_$/]{0,59}`
	descForm = `(?:[IJ]|L` + nameForm + `;|\[{1,8}(?:[IJB]|L` + nameForm + `;))`
)

var (
	isName   = regexp.MustCompile(`\A` + nameForm + `\z`)
	isDesc   = regexp.MustCompile(`\A` + descForm + `\z`)
	isMethod = regexp.MustCompile(`\A\(((?:` + descForm + `)*)\)(V|` + descForm + `)\z`)
	oneDesc  = regexp.MustCompile(descForm)
)

func plainType(s string) api.Type {
	switch {
	case s == "I":
		return of(api.KInt)
	case s == "J":
		return of(api.KLong)
	case s == "V":
		return of(api.KTop)
	case strings.HasPrefix(s, "L"):
		return ref(strings.TrimSuffix(s[1:], ";"))
	}
	return ref(s)
}

func plainParse(s string) (api.Type, api.Errno) {
	if !isDesc.MatchString(s) {
		return of(api.KTop), api.ErrType
	}
	return plainType(s), api.OK
}

func plainMethod(s string) ([]api.Type, api.Type, api.Errno) {
	m := isMethod.FindStringSubmatch(s)
	if m == nil {
		return nil, of(api.KTop), api.ErrType
	}
	var l []api.Type
	words := 0
	for _, d := range oneDesc.FindAllString(m[1], -1) {
		l = append(l, plainType(d))
		words++
		if d == "J" {
			words++
		}
	}
	if words > 32 {
		return nil, of(api.KTop), api.ErrLong
	}
	return l, plainType(m[2]), api.OK
}

func plainPrint(x api.Type) (string, api.Errno) {
	switch {
	case x == of(api.KInt):
		return "I", api.OK
	case x == of(api.KLong):
		return "J", api.OK
	case x.Kind == api.KRef && isName.MatchString(x.Name):
		return "L" + x.Name + ";", api.OK
	case x.Kind == api.KRef && x.Name != "" && x.Name[0] == '[' && isDesc.MatchString(x.Name):
		return x.Name, api.OK
	}
	return "", api.ErrType
}

func plainElem(x api.Type) (api.Type, api.Errno) {
	s, e := plainPrint(x)
	switch {
	case e != api.OK || s[0] != '[':
		return of(api.KTop), api.ErrType
	case s == "[B":
		return of(api.KInt), api.OK
	}
	return plainType(s[1:]), api.OK
}

func plainAbove(l []api.Class, name string) []string {
	supers := map[string]string{}
	for _, c := range l {
		if _, ok := supers[c.Name]; !ok {
			supers[c.Name] = c.Super
		}
	}
	met := []string{name}
	for {
		super, ok := supers[met[len(met)-1]]
		if !ok || super == "" || slices.Contains(met, super) {
			return met[1:]
		}
		met = append(met, super)
	}
}

func plainMay(l []api.Class, x, y api.Type) bool {
	if y.Kind == api.KTop || x == y || x.Kind == api.KNull && y.Kind == api.KRef {
		return true
	}
	if x.Kind != api.KRef || y.Kind != api.KRef {
		return false
	}
	isClass := func(x api.Type) bool { return x.Name == "" || x.Name[0] != '[' }
	if y.Name == "Object" || isClass(x) && isClass(y) && slices.Contains(plainAbove(l, x.Name), y.Name) {
		return true
	}
	a, e := plainElem(x)
	b, f := plainElem(y)
	return e == api.OK && f == api.OK && a.Kind == api.KRef && b.Kind == api.KRef && plainMay(l, a, b)
}

// holdText holds all calls of a text against the plain ones.
func holdText(t *testing.T, s string) {
	t.Helper()
	if got := kind.Class(s); got != isName.MatchString(s) {
		t.Fatalf("Class(%q): %v", s, got)
	}
	x, e := kind.Parse(s)
	if y, f := plainParse(s); x != y || e != f {
		t.Fatalf("Parse(%q): %v %v, want %v %v", s, x, e, y, f)
	}
	l, back, e := kind.Method(s)
	if m, b, f := plainMethod(s); !slices.Equal(l, m) || back != b || e != f {
		t.Fatalf("Method(%q): %v %v %v, want %v %v %v", s, l, back, e, m, b, f)
	}
	for k := -1; k <= 5; k++ {
		holdType(t, api.Type{Kind: k, Name: s})
	}
}

func holdType(t *testing.T, x api.Type) {
	t.Helper()
	s, e := kind.Print(x)
	if r, f := plainPrint(x); s != r || e != f {
		t.Fatalf("Print(%v): %q %v, want %q %v", x, s, e, r, f)
	}
	y, e := kind.Elem(x)
	if z, f := plainElem(x); y != z || e != f {
		t.Fatalf("Elem(%v): %v %v, want %v %v", x, y, e, z, f)
	}
}

// All texts of up to four of these bytes.
func TestShortTexts(t *testing.T) {
	const bytes = "IJBLVa1[;()"
	var all func(s string, left int)
	all = func(s string, left int) {
		holdText(t, s)
		for i := 0; left > 0 && i < len(bytes); i++ {
			all(s+bytes[i:i+1], left-1)
		}
	}
	all("", 4)
}

func randomName(r *rand.Rand) string {
	n := 1 + r.Intn(4)
	if r.Intn(6) == 0 {
		n = 57 + r.Intn(6)
	}
	const letters = "abzAZIJLBV"
	b := []byte{letters[r.Intn(len(letters))]}
	for len(b) < n {
		b = append(b, (letters + "09_$/")[r.Intn(len(letters)+5)])
	}
	return string(b)
}

func randomDesc(r *rand.Rand) string {
	s := ""
	switch r.Intn(4) {
	case 0:
		s = "I"
	case 1:
		s = "J"
	case 2:
		s = "L" + randomName(r) + ";"
	case 3:
		return deep(1+r.Intn(9), "B")
	}
	if r.Intn(2) == 0 {
		s = deep(r.Intn(10), s)
	}
	return s
}

func randomMethod(r *rand.Rand) string {
	s := "("
	for range r.Intn(1 << r.Intn(7)) {
		s += []string{"I", "J", "[J", randomDesc(r)}[r.Intn(4)]
	}
	return s + ")" + []string{"V", randomDesc(r)}[r.Intn(2)]
}

func mutated(r *rand.Rand, s string) string {
	b := []byte(s)
	const more = "IJBLVa1[;()_$/-. \x00\xff"
	for range r.Intn(3) {
		at := r.Intn(len(b) + 1)
		switch {
		case at == len(b) || r.Intn(3) == 0:
			b = slices.Insert(b, at, more[r.Intn(len(more))])
		case r.Intn(2) == 0:
			b = slices.Delete(b, at, at+1)
		default:
			b[at] = more[r.Intn(len(more))]
		}
	}
	return string(b)
}

func TestRandomTexts(t *testing.T) {
	r := rand.New(rand.NewSource(10))
	for range 20000 {
		holdText(t, mutated(r, randomDesc(r)))
		holdText(t, mutated(r, randomName(r)))
		holdText(t, mutated(r, randomMethod(r)))
	}
}

// randomClasses makes a list with names that come again, rings and names that nobody has.
func randomClasses(r *rand.Rand) []api.Class {
	names := []string{"a", "b", "c", "d", "e", "f", "g", "Object", "", "[I", "[La;"}
	l := make([]api.Class, r.Intn(12))
	for i := range l {
		l[i] = api.Class{Name: names[r.Intn(len(names))], Super: names[r.Intn(len(names))]}
	}
	if r.Intn(4) == 0 { // a long one
		for len(l) < 70 {
			l = append(l, api.Class{Name: randomName(r), Super: names[r.Intn(len(names))]})
		}
	}
	return l
}

func TestRandomLists(t *testing.T) {
	r := rand.New(rand.NewSource(11))
	names := []string{"a", "b", "c", "d", "e", "f", "g", "Object", "", "[I", "[La;", "h"}
	types := []api.Type{of(api.KTop), of(api.KInt), of(api.KNull), of(7)}
	for _, s := range names {
		types = append(types, ref(s), ref("[L"+s+";"), ref("[[L"+s+";"))
	}
	for range 500 {
		l := randomClasses(r)
		for _, s := range names {
			if got, want := kind.Above(l, s), plainAbove(l, s); !slices.Equal(got, want) {
				t.Fatalf("Above(%v, %q): %q, want %q", l, s, got, want)
			}
		}
		for _, x := range types {
			for _, y := range types {
				if got := kind.May(l, x, y); got != plainMay(l, x, y) {
					t.Fatalf("May(%v, %v, %v): %v", l, x, y, got)
				}
			}
		}
	}
}

func TestAllKinds(t *testing.T) {
	for _, l := range [][]api.Class{nil, classes(family), classes("Object<a a<b c<Object")} {
		for _, x := range kinds() {
			holdType(t, x)
			for _, y := range kinds() {
				if got := kind.May(l, x, y); got != plainMay(l, x, y) {
					t.Fatalf("May(%v, %v, %v): %v", l, x, y, got)
				}
			}
		}
	}
}
