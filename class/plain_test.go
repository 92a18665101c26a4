package class_test

import (
	"encoding/binary"
	"slices"

	"larch/api"
	"larch/pool"
	"larch/word"
)

// A plain reading of the chapter's words, to hold the calls against.

// textNumber answers the first number of a text, 0 if it is not there.
func textNumber(l []api.Entry, s string) int {
	return max(0, slices.IndexFunc(l, func(x api.Entry) bool { return x.Tag == api.TUtf8 && x.Text == s }))
}

// classNumber answers the first number of a class, 0 if it is not there.
func classNumber(l []api.Entry, s string) int {
	return max(0, slices.IndexFunc(l, func(x api.Entry) bool { return x.Tag == api.TClass && textAt(l, x.A) == s }))
}

// textAt answers the text of an entry, whatever it is.
func textAt(l []api.Entry, i int) string {
	if i < 0 || i >= len(l) {
		return ""
	}
	return l[i].Text
}

// from0 holds if all numbers are from 0 to most.
func from0(most int, l ...int) bool { return slices.Min(l) >= 0 && slices.Max(l) <= most }

// plainRight holds if c is right but for its length.
func plainRight(c api.Class) bool {
	if pool.Check(c.Pool) != api.OK || classNumber(c.Pool, c.Name) == 0 || len(c.Fields) > 256 || len(c.Methods) > 256 {
		return false
	}
	if c.Super != "" && classNumber(c.Pool, c.Super) == 0 {
		return false
	}
	for _, f := range c.Fields {
		if f.Access != 0 && f.Access != 8 || textNumber(c.Pool, f.Name) == 0 || textNumber(c.Pool, f.Type) == 0 {
			return false
		}
	}
	for _, m := range c.Methods {
		if !slices.Contains([]int{0, 8, 32, 40}, m.Access) || textNumber(c.Pool, "Code") == 0 {
			return false
		}
		if textNumber(c.Pool, m.Name) == 0 || textNumber(c.Pool, m.Type) == 0 || !plainCode(c.Pool, m.Code) {
			return false
		}
	}
	return true
}

// plainCode holds for right codes.
func plainCode(l []api.Entry, c api.Code) bool {
	if !from0(64, c.Stack, c.Locals) || !from0(4095, len(c.Bytes)-1) || len(c.Handlers) > 256 || len(c.Maps) > 256 {
		return false
	}
	for _, h := range c.Handlers {
		if !from0(65535, h.From, h.To, h.At) || h.Class != 0 && (!from0(len(l)-1, h.Class) || l[h.Class].Tag != api.TClass) {
			return false
		}
	}
	for i, m := range c.Maps {
		if textNumber(l, "StackMapTable") == 0 || !from0(65535, m.At) || i > 0 && m.At <= c.Maps[i-1].At {
			return false
		}
		if len(m.Locals) > 64 || len(m.Stack) > 64 {
			return false
		}
		if slices.ContainsFunc(slices.Concat(m.Locals, m.Stack), func(x api.Type) bool { return !plainType(l, x) }) {
			return false
		}
		for j, x := range m.Locals {
			if x.Kind == api.KLong && (j == len(m.Locals)-1 || m.Locals[j+1] != api.Type{}) {
				return false
			}
		}
	}
	return true
}

// plainType holds for right types.
func plainType(l []api.Entry, x api.Type) bool {
	if x.Kind == api.KRef {
		return classNumber(l, x.Name) != 0
	}
	return x.Name == "" && slices.Contains([]int{api.KTop, api.KInt, api.KLong, api.KNull}, x.Kind)
}

// spelling is bytes that grow, and how a number or a length is told in them, if not as it should be.
type spelling struct {
	b     []byte
	l     []api.Entry
	text  func(s string) int // what is told as a text's number
	class func(s string) int
	more  map[string]int // by what is told: how much more is told than there is
}

func (s *spelling) two(l ...int) {
	for _, n := range l {
		s.b = binary.BigEndian.AppendUint16(s.b, uint16(n))
	}
}

// count writes how many there are.
func (s *spelling) count(what string, n int) { s.two(n + s.more[what]) }

// four writes a number of four bytes at a place, which is what is told ahead of what follows.
func (s *spelling) four(at int, what string, n int) {
	binary.BigEndian.PutUint32(s.b[at:], uint32(n+s.more[what]))
}

// right answers a spelling as the chapter has it.
func right(l []api.Entry) *spelling {
	return &spelling{
		l:     l,
		text:  func(s string) int { return textNumber(l, s) },
		class: func(s string) int { return classNumber(l, s) },
		more:  map[string]int{},
	}
}

// whole writes a class, which need not be right.
func (s *spelling) whole(c api.Class) []byte {
	s.b = []byte{0xca, 0xfe, 0xba, 0xbe}
	s.two(0, 52)
	s.entries(c.Pool)
	s.two(33, s.class(c.Name))
	if c.Super == "" {
		s.count("no Super", 0)
	} else {
		s.two(s.class(c.Super))
	}
	s.count("interfaces", 0)
	s.count("fields", len(c.Fields))
	for _, f := range c.Fields {
		s.two(f.Access, s.text(f.Name), s.text(f.Type))
		s.count("parts of a field", 0)
	}
	s.count("methods", len(c.Methods))
	for _, m := range c.Methods {
		s.two(m.Access, s.text(m.Name), s.text(m.Type))
		s.count("parts of a method", 1)
		s.two(s.text("Code"))
		at := len(s.b)
		s.two(0, 0)
		s.code(m.Code)
		s.four(at, "a method's length", len(s.b)-at-4)
	}
	s.count("parts of a class", 0)
	return s.b
}

// entries writes a pool, which need not be right.
func (s *spelling) entries(l []api.Entry) {
	s.count("entries", len(l))
	for _, x := range l {
		if x == (api.Entry{}) {
			continue
		}
		s.b = append(s.b, byte(x.Tag))
		switch x.Tag {
		case api.TUtf8:
			s.two(len(x.Text))
			s.b = append(s.b, x.Text...)
		case api.TInt:
			s.two(x.N>>16, x.N)
		case api.TLong:
			s.two(x.N>>48, x.N>>32, x.N>>16, x.N)
		case api.TClass:
			s.two(x.A)
		default:
			s.two(x.A, x.B)
		}
	}
}

func (s *spelling) code(c api.Code) {
	s.two(c.Stack, c.Locals, 0, 0)
	s.four(len(s.b)-4, "a code's length", len(c.Bytes))
	s.b = append(s.b, c.Bytes...)
	s.count("handlers", len(c.Handlers))
	for _, h := range c.Handlers {
		s.two(h.From, h.To, h.At, h.Class)
	}
	if len(c.Maps) == 0 {
		s.count("parts of a code without maps", 0)
		return
	}
	s.count("parts of a code with maps", 1)
	s.two(s.text("StackMapTable"))
	at := len(s.b)
	s.two(0, 0)
	s.count("maps", len(c.Maps))
	for i, m := range c.Maps {
		s.b = append(s.b, 255)
		if i == 0 {
			s.two(m.At)
		} else {
			s.two(m.At - c.Maps[i-1].At - 1)
		}
		s.types("locals", narrow(m.Locals))
		s.types("a stack", m.Stack)
	}
	s.four(at, "the maps' length", len(s.b)-at-4)
}

func (s *spelling) types(what string, l []api.Type) {
	s.count(what, len(l))
	for _, x := range l {
		s.b = append(s.b, firstByte(x.Kind))
		if x.Kind == api.KRef {
			s.two(s.class(x.Name))
		}
	}
}

// firstByte answers a type's first byte; of a kind that there is none of it is none, too.
func firstByte(kind int) byte {
	switch kind {
	case api.KTop:
		return 0
	case api.KInt:
		return 1
	case api.KLong:
		return 4
	case api.KNull:
		return 5
	case api.KRef:
		return 7
	}
	return 9
}

// narrow answers locals without the KTop behind each KLong.
func narrow(l []api.Type) []api.Type {
	var told []api.Type
	for i := 0; i < len(l); i++ {
		told = append(told, l[i])
		if l[i].Kind == api.KLong && i+1 < len(l) && l[i+1].Kind == api.KTop {
			i++
		}
	}
	return told
}

// bytesOf answers the bytes of a class by the chapter's words, also if it is none, as far as they can tell it.
func bytesOf(c api.Class) []byte { return right(c.Pool).whole(c) }

// strict reads bytes, and holds each of them against what it must be.
type strict struct {
	b   []byte
	l   []api.Entry
	bad bool
}

// n answers the next number of k bytes.
func (s *strict) n(k int) int {
	if len(s.b) < k {
		s.bad, s.b = true, nil
		return 0
	}
	n := 0
	for _, x := range s.b[:k] {
		n = n*256 + int(x)
	}
	s.b = s.b[k:]
	return n
}

// must asks for something.
func (s *strict) must(holds bool) {
	if !holds {
		s.bad, s.b = true, nil
	}
}

// upTo answers the next number, of two bytes, which must not be above most.
func (s *strict) upTo(most int) int {
	n := s.n(2)
	s.must(n <= most)
	if s.bad {
		return 0
	}
	return n
}

// are asks for the next numbers, of two bytes.
func (s *strict) are(l ...int) {
	for _, n := range l {
		s.must(s.n(2) == n)
	}
}

// text answers the next text, whose number must be the first one.
func (s *strict) text() string {
	i := s.n(2)
	s.must(i < len(s.l) && i > 0 && s.l[i].Tag == api.TUtf8)
	if s.bad {
		return ""
	}
	s.must(textNumber(s.l, s.l[i].Text) == i)
	return s.l[i].Text
}

// class answers the next class, whose number must be the first one.
func (s *strict) class() string {
	i := s.n(2)
	s.must(i < len(s.l) && i > 0 && s.l[i].Tag == api.TClass)
	if s.bad {
		return ""
	}
	name := s.l[s.l[i].A].Text
	s.must(classNumber(s.l, name) == i)
	return name
}

// plainParse answers the class whose bytes b is, and whether it is one's.
func plainParse(b []byte) (api.Class, bool) {
	s := &strict{b: b}
	s.must(len(b) <= 32768)
	s.must(s.n(4) == 0xcafebabe)
	s.are(0, 52)
	r := word.Read(s.b)
	l, e := pool.Read(r)
	if s.bad || e != api.OK {
		return api.Class{}, false
	}
	s.l, s.b = l, s.b[r.At():]
	s.are(33)
	c := api.Class{Pool: l, Name: s.class()}
	if len(s.b) < 2 || s.b[0] != 0 || s.b[1] != 0 {
		c.Super = s.class()
		s.must(c.Super != "")
	} else {
		s.are(0)
	}
	s.are(0)
	for range s.upTo(256) {
		f := api.Field{Access: s.n(2), Name: s.text(), Type: s.text()}
		s.must(f.Access == 0 || f.Access == 8)
		s.are(0)
		c.Fields = append(c.Fields, f)
	}
	for range s.upTo(256) {
		c.Methods = append(c.Methods, s.method())
	}
	s.are(0)
	s.must(len(s.b) == 0)
	if s.bad {
		return api.Class{}, false
	}
	return c, true
}

func (s *strict) method() api.Method {
	m := api.Method{Access: s.n(2), Name: s.text(), Type: s.text()}
	s.must(m.Access == 0 || m.Access == 8 || m.Access == 32 || m.Access == 40)
	s.are(1)
	s.must(s.text() == "Code")
	size, from := s.n(4), len(s.b)
	m.Code.Stack, m.Code.Locals = s.upTo(64), s.upTo(64)
	n := s.n(4)
	s.must(n >= 1 && n <= 4096 && n <= len(s.b))
	if s.bad {
		return m
	}
	m.Code.Bytes, s.b = slices.Clone(s.b[:n]), s.b[n:]
	for range s.upTo(256) {
		h := api.Handler{From: s.n(2), To: s.n(2), At: s.n(2), Class: s.n(2)}
		s.must(h.Class == 0 || h.Class < len(s.l) && s.l[h.Class].Tag == api.TClass)
		m.Code.Handlers = append(m.Code.Handlers, h)
	}
	if s.upTo(1) == 1 {
		m.Code.Maps = s.maps()
	}
	s.must(from-len(s.b) == size)
	return m
}

func (s *strict) maps() []api.Map {
	s.must(s.text() == "StackMapTable")
	size, from := s.n(4), len(s.b)
	n := s.upTo(256)
	s.must(n > 0)
	var l []api.Map
	at := -1
	for range n {
		s.must(s.n(1) == 255)
		at += 1 + s.n(2)
		s.must(at <= 65535)
		l = append(l, api.Map{At: at, Locals: s.types(true), Stack: s.types(false)})
	}
	s.must(from-len(s.b) == size)
	return l
}

// types answers the next types; in locals a long is two of them.
func (s *strict) types(locals bool) []api.Type {
	var l []api.Type
	for range s.upTo(64) {
		switch s.n(1) {
		case 0:
			l = append(l, api.Type{Kind: api.KTop})
		case 1:
			l = append(l, api.Type{Kind: api.KInt})
		case 4:
			l = append(l, api.Type{Kind: api.KLong})
			if locals {
				l = append(l, api.Type{Kind: api.KTop})
			}
		case 5:
			l = append(l, api.Type{Kind: api.KNull})
		case 7:
			l = append(l, api.Type{Kind: api.KRef, Name: s.class()})
		default:
			s.must(false)
		}
	}
	s.must(len(l) <= 64)
	return l
}
