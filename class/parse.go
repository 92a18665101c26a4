package class

import (
	"larch/api"
	"larch/pool"
	"larch/word"
)

// reader reads the parts of a class, as far as one class differs from another in them: whether all else is as it must be
// the class's own bytes tell.
type reader struct {
	*word.Reader
	pool  []api.Entry
	ended bool // the bytes ended, or were no pool's, so that what is read means nothing
}

// classOf answers the class that b tells, which need not be right, nor have b as its bytes.
func classOf(b []byte) (api.Class, api.Errno) {
	r := &reader{Reader: word.Read(b)}
	c := r.class()
	if r.ended {
		return api.Class{}, api.ErrClass
	}
	return c, api.OK
}

// class answers the class that comes.
func (r *reader) class() api.Class {
	r.pass(4, 2, 2)
	r.readPool()
	c := api.Class{Pool: r.pool}
	r.pass(2)
	c.Name = r.className()
	c.Super = r.className()
	r.pass(2)
	c.Fields = readList(r, r.field)
	c.Methods = readList(r, r.method)
	return c
}

// readPool reads the pool that comes.
func (r *reader) readPool() {
	l, e := pool.Read(r.Reader)
	r.pool = l
	r.ended = r.ended || e != api.OK
}

// number answers the number of k bytes that comes.
func (r *reader) number(k int) int {
	n, e := r.U(k)
	r.ended = r.ended || e != api.OK
	return n
}

// pass passes over numbers of so many bytes each.
func (r *reader) pass(l ...int) {
	for _, k := range l {
		r.number(k)
	}
}

// readList answers as many members as the number that comes tells, read by what reads one.
func readList[T any](r *reader, one func() T) []T {
	n := r.number(2)
	var l []T
	for len(l) < n && !r.ended {
		l = append(l, one())
	}
	return l
}

// text answers the text whose number comes. A number that is no text's reads as an empty one, which never has that number.
func (r *reader) text() string {
	i := r.number(2)
	if tagAt(r.pool, i) != api.TUtf8 {
		return ""
	}
	return r.pool[i].Text
}

// className answers the name of the class whose number comes. A number that is no class's reads as an empty name, which
// never has that number, but for Super's 0.
func (r *reader) className() string {
	i := r.number(2)
	if tagAt(r.pool, i) != api.TClass {
		return ""
	}
	return r.pool[r.pool[i].A].Text
}

// field answers the field that comes.
func (r *reader) field() api.Field {
	f := api.Field{Access: r.number(2), Name: r.text(), Type: r.text()}
	r.pass(2)
	return f
}

// method answers the method that comes.
func (r *reader) method() api.Method {
	m := api.Method{Access: r.number(2), Name: r.text(), Type: r.text()}
	r.pass(2, 2, 4)
	m.Code = r.code()
	return m
}

// code answers the code that comes.
func (r *reader) code() api.Code {
	return api.Code{
		Stack: r.number(2), Locals: r.number(2), Bytes: r.bytes(), Handlers: readList(r, r.handler), Maps: r.maps(),
	}
}

// bytes answers the bytes that come behind how many they are.
func (r *reader) bytes() []byte {
	b, e := r.Bytes(r.number(4))
	r.ended = r.ended || e != api.OK
	return b
}

// handler answers the handler that comes.
func (r *reader) handler() api.Handler {
	return api.Handler{From: r.number(2), To: r.number(2), At: r.number(2), Class: r.number(2)}
}

// maps answers the maps that come.
func (r *reader) maps() []api.Map {
	if r.number(2) == 0 {
		return nil
	}
	r.pass(2, 4)
	ahead := -1
	return readList(r, func() api.Map {
		r.pass(1)
		ahead += 1 + r.number(2)
		return api.Map{At: ahead, Locals: wide(readList(r, r.kind)), Stack: readList(r, r.kind)}
	})
}

// wide answers locals with a KTop behind each KLong, which their bytes don't tell.
func wide(told []api.Type) []api.Type {
	var l []api.Type
	for _, x := range told {
		l = append(l, x)
		if x.Kind == api.KLong {
			l = append(l, api.Type{Kind: api.KTop})
		}
	}
	return l
}

// kind answers the type that comes.
func (r *reader) kind() api.Type {
	x := api.Type{Kind: kindOf(r.number(1))}
	if x.Kind == api.KRef {
		x.Name = r.className()
	}
	return x
}

// kindOf answers the kind of the types that begin with that byte, -1 if there is none.
func kindOf(first int) int {
	for kind, b := range kindBytes {
		if b == first {
			return kind
		}
	}
	return -1
}
