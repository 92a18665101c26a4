package class

import (
	"larch/api"
	"larch/pool"
	"larch/word"
)

// What a class file has in all classes alike.
const (
	magic    = 0xcafebabe
	minor    = 0
	major    = 52
	access   = 33
	fullMap  = 255
	sizeSize = 4 // of the number that tells how many bytes follow
)

// kindBytes are the first bytes of types, by their kinds.
var kindBytes = [...]int{api.KTop: 0, api.KInt: 1, api.KLong: 4, api.KNull: 5, api.KRef: 7}

// writer writes the parts of a class that is right but for its length. All of its numbers fit, so none is refused.
type writer struct {
	*word.Writer
	*names
}

// bytesOf answers the bytes of a class that is right but for its length.
func bytesOf(c api.Class) []byte {
	w := writer{word.Make(), namesOf(c.Pool)}
	w.U(4, magic)
	w.U(2, minor, major)
	pool.Write(w.Writer, c.Pool)
	w.U(2, access, w.classes[c.Name], w.super(c), 0)
	writeList(w, c.Fields, w.field)
	writeList(w, c.Methods, w.method)
	w.U(2, 0)
	return w.All()
}

// writeList writes how many members l has, and these by what writes one.
func writeList[T any](w writer, l []T, one func(T)) {
	w.U(2, len(l))
	for _, x := range l {
		one(x)
	}
}

// writeSized writes what a part writes, and ahead of it how many bytes that is.
func (w writer) writeSized(part func()) {
	w.U(sizeSize, 0)
	from := w.Len()
	part()
	w.Patch(from-sizeSize, sizeSize, w.Len()-from)
}

// super answers the number of the superclass. An empty one is none, also where the pool has a class without a name.
func (w writer) super(c api.Class) int {
	if c.Super == "" {
		return 0
	}
	return w.classes[c.Super]
}

// field writes a field.
func (w writer) field(f api.Field) { w.U(2, f.Access, w.texts[f.Name], w.texts[f.Type], 0) }

// method writes a method.
func (w writer) method(m api.Method) {
	w.U(2, m.Access, w.texts[m.Name], w.texts[m.Type], 1, w.texts[codeText])
	w.writeSized(func() { w.code(m.Code) })
}

// code writes a code.
func (w writer) code(c api.Code) {
	w.U(2, c.Stack, c.Locals)
	w.U(4, len(c.Bytes))
	w.Bytes(c.Bytes...)
	writeList(w, c.Handlers, func(h api.Handler) { w.U(2, h.From, h.To, h.At, h.Class) })
	if len(c.Maps) == 0 {
		w.U(2, 0)
		return
	}
	w.U(2, 1, w.texts[mapsText])
	w.writeSized(func() { w.maps(c.Maps) })
}

// maps writes maps, each with how many places are between it and the one ahead.
func (w writer) maps(l []api.Map) {
	ahead := -1
	writeList(w, l, func(m api.Map) {
		w.U(1, fullMap)
		w.U(2, m.At-ahead-1)
		writeList(w, narrow(m.Locals), w.kind)
		writeList(w, m.Stack, w.kind)
		ahead = m.At
	})
}

// narrow answers the locals that are told: all but the KTop behind each KLong.
func narrow(l []api.Type) []api.Type {
	var told []api.Type
	for i, x := range l {
		if i == 0 || l[i-1].Kind != api.KLong {
			told = append(told, x)
		}
	}
	return told
}

// kind writes a type.
func (w writer) kind(x api.Type) {
	w.U(1, kindBytes[x.Kind])
	if x.Kind == api.KRef {
		w.U(2, w.classes[x.Name])
	}
}
