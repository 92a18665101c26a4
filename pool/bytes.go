package pool

import (
	"larch/api"
	"larch/word"
)

// readPool answers the pool whose bytes come. With an error the entries mean nothing, and r is left anywhere.
func readPool(r *word.Reader) ([]api.Entry, api.Errno) {
	n, e := r.U(2)
	if e != api.OK {
		return nil, e
	}
	if n < 1 || n > api.MaxPool {
		return nil, api.ErrPool
	}
	l := make([]api.Entry, n)
	for i := 1; i < n; i += numbers(l[i].Tag) {
		if l[i], e = readEntry(r); e != api.OK {
			return nil, e
		}
	}
	return l, Check(l)
}

// readEntry answers the entry whose bytes come. Of these just the tag is held against what it may be: all else is asked
// of the whole pool, once no bytes are missing.
func readEntry(r *word.Reader) (api.Entry, api.Errno) {
	tag, e := r.U(1)
	if e != api.OK {
		return api.Entry{}, e
	}
	x := api.Entry{Tag: tag}
	switch tag {
	case api.TUtf8:
		x.Text, e = readText(r)
	case api.TInt:
		x.N, e = r.S(4)
	case api.TLong:
		x.N, e = r.S(8)
	case api.TClass:
		x.A, e = r.U(2)
	case api.TField, api.TMethod, api.TName:
		x.A, x.B, e = readTwo(r)
	default:
		e = api.ErrPool
	}
	return x, e
}

// readText answers the text that comes behind how many bytes it has.
func readText(r *word.Reader) (string, api.Errno) {
	n, e := r.U(2)
	if e != api.OK {
		return "", e
	}
	b, e := r.Bytes(n)
	return string(b), e
}

// readTwo answers the two numbers that come.
func readTwo(r *word.Reader) (int, int, api.Errno) {
	a, e := r.U(2)
	if e != api.OK {
		return 0, 0, e
	}
	b, e := r.U(2)
	return a, b, e
}

// bytesOf answers the bytes of a right pool. All of its numbers fit, so its writer refuses none of them.
func bytesOf(l []api.Entry) []byte {
	w := word.Make()
	w.U(2, len(l))
	for i, x := range l {
		if !isGap(l, i) {
			writeEntry(w, x)
		}
	}
	return w.All()
}

// writeEntry writes the bytes of an entry of a right pool.
func writeEntry(w *word.Writer, x api.Entry) {
	w.U(1, x.Tag)
	switch x.Tag {
	case api.TUtf8:
		w.U(2, len(x.Text))
		w.Bytes([]byte(x.Text)...)
	case api.TInt:
		w.S(4, x.N)
	case api.TLong:
		w.S(8, x.N)
	case api.TClass:
		w.U(2, x.A)
	default:
		w.U(2, x.A, x.B)
	}
}
