package class_test

import (
	"bytes"
	"fmt"
	"math/rand"
	"slices"
	"testing"

	"larch/api"
	"larch/class"
)

// anyPool answers a right pool with the texts that classes need, mostly, in any order, some of them twice.
func anyPool(g *rand.Rand) []api.Entry {
	texts := []string{"Code", "StackMapTable", "a", "b", "m", "()V", ""}
	var l []api.Entry
	for _, s := range texts {
		for range []int{0, 1, 1, 1, 1, 2}[g.Intn(6)] {
			l = append(l, utf(s))
		}
	}
	l = append(l, utf("I"), num(g.Intn(100)), api.Entry{Tag: api.TClass}, api.Entry{Tag: api.TClass}, api.Entry{Tag: api.TClass})
	g.Shuffle(len(l), func(i, j int) { l[i], l[j] = l[j], l[i] })
	l = of(l...)
	if g.Intn(3) == 0 {
		i := 1 + g.Intn(len(l))
		l = slices.Insert(l, i, api.Entry{Tag: api.TLong, N: int(g.Uint64())}, api.Entry{})
	}
	for i := range l {
		if l[i].Tag == api.TClass {
			for l[l[i].A].Tag != api.TUtf8 {
				l[i].A = g.Intn(len(l))
			}
		}
	}
	return l
}

// some answers a text, or a class's name, of a right pool.
func some(g *rand.Rand, l []api.Entry, tag int) string {
	i := g.Intn(len(l))
	for l[i].Tag != tag {
		i = g.Intn(len(l))
	}
	if tag == api.TClass {
		return l[l[i].A].Text
	}
	return l[i].Text
}

// anyTypes answers types; in locals a long has a KTop behind it.
func anyTypes(g *rand.Rand, l []api.Entry, locals bool) []api.Type {
	var all []api.Type
	for range g.Intn(5) {
		x := api.Type{Kind: g.Intn(5)}
		if x.Kind == api.KRef {
			x.Name = some(g, l, api.TClass)
		}
		all = append(all, x)
		if locals && x.Kind == api.KLong {
			all = append(all, top())
		}
	}
	return all
}

// anyCode answers a right code.
func anyCode(g *rand.Rand, l []api.Entry) api.Code {
	c := api.Code{Stack: g.Intn(65), Locals: g.Intn(65), Bytes: make([]byte, 1+g.Intn(6))}
	g.Read(c.Bytes)
	for range g.Intn(3) {
		h := api.Handler{From: g.Intn(65536), To: g.Intn(65536), At: g.Intn(4)}
		if g.Intn(2) == 0 {
			for l[h.Class].Tag != api.TClass {
				h.Class = g.Intn(len(l))
			}
		}
		c.Handlers = append(c.Handlers, h)
	}
	at := -1
	for range g.Intn(3) * min(1, textNumber(l, "StackMapTable")) {
		at += 1 + g.Intn(4)*g.Intn(300)
		c.Maps = append(c.Maps, api.Map{At: at, Locals: anyTypes(g, l, true), Stack: anyTypes(g, l, false)})
	}
	return c
}

// anyClass answers a right class.
func anyClass(g *rand.Rand) api.Class {
	l := anyPool(g)
	c := api.Class{Pool: l, Name: some(g, l, api.TClass)}
	if g.Intn(3) > 0 {
		c.Super = some(g, l, api.TClass)
	}
	for range g.Intn(3) {
		c.Fields = append(c.Fields, api.Field{Access: 8 * g.Intn(2), Name: some(g, l, api.TUtf8), Type: some(g, l, api.TUtf8)})
	}
	for range g.Intn(3) * min(1, textNumber(l, "Code")) {
		c.Methods = append(c.Methods, api.Method{
			Access: 8*g.Intn(2) + 32*g.Intn(2), Name: some(g, l, api.TUtf8), Type: some(g, l, api.TUtf8), Code: anyCode(g, l),
		})
	}
	return c
}

// anyNumber answers numbers that are near what may be.
func anyNumber(g *rand.Rand) int {
	return []int{-1, 0, 1, 2, 4, 8, 32, 40, 64, 65, 255, 256, 65535, 65536, g.Intn(20), int(g.Uint64())}[g.Intn(16)]
}

// anyText answers a text that may be there or not.
func anyText(g *rand.Rand) string {
	return []string{"", "a", "b", "m", "I", "()V", "Code", "StackMapTable", "c", "A"}[g.Intn(10)]
}

// spoiled answers a class with something changed, which may be right still.
func spoiled(g *rand.Rand, c api.Class) api.Class {
	c = class.Copy(c)
	switch g.Intn(8) {
	case 0:
		c.Name = anyText(g)
	case 1:
		c.Super = anyText(g)
	case 2:
		i, j := g.Intn(len(c.Pool)), g.Intn(len(c.Pool))
		c.Pool[i], c.Pool[j] = c.Pool[j], c.Pool[i]
	case 3:
		c.Pool[g.Intn(len(c.Pool))].Text = anyText(g)
	case 4:
		c.Fields = append(c.Fields, api.Field{Access: anyNumber(g), Name: anyText(g), Type: "I"})
	default:
		if len(c.Methods) > 0 {
			spoilMethod(g, &c.Methods[g.Intn(len(c.Methods))])
		}
	}
	return c
}

// spoilMethod changes something in a method.
func spoilMethod(g *rand.Rand, m *api.Method) {
	k := &m.Code
	switch g.Intn(8) {
	case 0:
		m.Access = anyNumber(g)
	case 1:
		m.Name = anyText(g)
	case 2:
		m.Type = anyText(g)
	case 3:
		k.Stack = anyNumber(g)
	case 4:
		k.Bytes = make([]byte, []int{0, 1, 4096, 4097}[g.Intn(4)])
	case 5:
		k.Handlers = append(k.Handlers, api.Handler{From: anyNumber(g), Class: g.Intn(25)})
	default:
		if len(k.Maps) > 0 {
			spoilMap(g, &k.Maps[g.Intn(len(k.Maps))])
		}
	}
}

// spoilMap changes something in a map.
func spoilMap(g *rand.Rand, m *api.Map) {
	x := api.Type{Kind: g.Intn(6)}
	if g.Intn(2) == 0 {
		x.Name = anyText(g)
	}
	switch g.Intn(4) {
	case 0:
		m.At = anyNumber(g)
	case 1:
		m.Stack = append(m.Stack, x)
	case 2:
		m.Locals = slices.Insert(m.Locals, g.Intn(len(m.Locals)+1), x)
	case 3:
		if len(m.Locals) > 0 {
			m.Locals = slices.Delete(m.Locals, len(m.Locals)-1, len(m.Locals))
		}
	}
}

// spoiledBytes answers bytes with something changed.
func spoiledBytes(g *rand.Rand, b []byte) []byte {
	b = slices.Clone(b)
	for range 1 + g.Intn(3) {
		switch i := g.Intn(len(b)); g.Intn(6) {
		case 0:
			b[i] = byte(g.Intn(256))
		case 1, 2:
			b[i] = byte(int(b[i]) + g.Intn(3) - 1)
		case 3:
			b = slices.Insert(b, i, byte(g.Intn(9)))
		case 4:
			b = slices.Delete(b, i, min(len(b)-1, i+g.Intn(3)))
		case 5:
			j := g.Intn(len(b))
			b[i], b[j] = b[j], b[i]
		}
	}
	return b
}

// 8.1 against a plain reading of its words: right classes, and such with one or two changes.
func TestCheckOfAllClasses(t *testing.T) {
	right := 0
	for seed := range int64(40000) {
		g := rand.New(rand.NewSource(seed))
		c := anyClass(g)
		is(t, fmt.Sprintf("seed %d: Check of a right class", seed), class.Check(c), api.OK)
		for range 1 + g.Intn(2) {
			c = spoiled(g, c)
		}
		want := api.ErrClass
		if plainRight(c) {
			want = api.OK
			right++
		}
		given := class.Copy(c)
		is(t, fmt.Sprintf("seed %d: Check(%.500s)", seed, fmt.Sprint(c)), class.Check(c), want)
		b, e := class.Print(c)
		is(t, fmt.Sprintf("seed %d: Print: its error", seed), e, want)
		if want == api.OK {
			hasBytes(t, fmt.Sprintf("seed %d: Print", seed), b, bytesOf(c))
		} else {
			is(t, fmt.Sprintf("seed %d: Print: how many bytes", seed), len(b), 0)
		}
		hasClass(t, "what was handed in", c, given)
		if t.Failed() {
			return
		}
	}
	is(t, "some of those that were changed are right", right > 4000, true)
	is(t, "some of those that were changed are not", right < 36000, true)
}

// 8.1, 8.4 against a plain reading of the chapter's words: bytes of classes with changes.
func TestParseOfAllBytes(t *testing.T) {
	right := 0
	for seed := range int64(60000) {
		g := rand.New(rand.NewSource(seed))
		b := spoiledBytes(g, bytesOf(anyClass(g)))
		given := bytes.Clone(b)
		parsesAsTold(t, fmt.Sprintf("seed %d: Parse of %.400x", seed, b), b)
		hasBytes(t, "what was handed in", b, given)
		if _, ok := plainParse(b); ok {
			right++
		}
		if t.Failed() {
			return
		}
	}
	is(t, "some of those that were changed are classes'", right > 1000, true)
	is(t, "some of those that were changed are none's", right < 59000, true)
}

// 8.3: Parse of Print is the class, and Print of Parse is the bytes.
func TestParseAndPrintLeadBack(t *testing.T) {
	for seed := range int64(20000) {
		g := rand.New(rand.NewSource(seed))
		c := anyClass(g)
		b, e := class.Print(c)
		is(t, "Print: its error", e, api.OK)
		parses(t, fmt.Sprintf("seed %d: Parse of Print", seed), b, c)
		if t.Failed() {
			return
		}
	}
}

// 8.5: cut anywhere, or with anything behind.
func TestParseOfAllCutBytes(t *testing.T) {
	for seed := range int64(1000) {
		g := rand.New(rand.NewSource(seed))
		b := bytesOf(anyClass(g))
		for n := range b {
			parsesNone(t, fmt.Sprintf("seed %d: Parse of the first %d bytes", seed, n), b[:n], api.ErrClass)
		}
		more := make([]byte, 1+g.Intn(20))
		if g.Intn(2) == 0 {
			g.Read(more)
		}
		parsesNone(t, fmt.Sprintf("seed %d: Parse with %x behind", seed, more), append(b, more...), api.ErrClass)
		if t.Failed() {
			return
		}
	}
}

// 8.6: classes that differ have bytes that differ.
func TestTwoClassesOfTheSameBytes(t *testing.T) {
	seen := 0
	for seed := range int64(40000) {
		g := rand.New(rand.NewSource(seed))
		c := anyClass(g)
		d := spoiled(g, c)
		b, e := class.Print(c)
		other, f := class.Print(d)
		if e != api.OK || f != api.OK {
			continue
		}
		is(t, fmt.Sprintf("seed %d: the same bytes, the same class", seed), bytes.Equal(b, other), same(c, d))
		if !same(c, d) {
			seen++
		}
		if t.Failed() {
			return
		}
	}
	is(t, "some differ, and are right", seen > 1000, true)
}

// 8.4: bytes that are nothing but bytes, behind a beginning of a class.
func TestParseOfAnyBytes(t *testing.T) {
	for seed := range int64(20000) {
		g := rand.New(rand.NewSource(seed))
		head := bytesOf(anyClass(g))
		tail := make([]byte, g.Intn(60))
		if g.Intn(2) == 0 {
			g.Read(tail)
		} else {
			for i := range tail {
				tail[i] = byte(g.Intn(3) * g.Intn(6))
			}
		}
		b := append(head[:g.Intn(len(head)+1)], tail...)
		parsesAsTold(t, fmt.Sprintf("seed %d: Parse of %.400x", seed, b), b)
		if t.Failed() {
			return
		}
	}
}
