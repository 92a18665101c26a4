package code

import (
	"cmp"
	"slices"

	"larch/api"
	"larch/word"
)

// reader reads instructions, one behind the other.
type reader struct {
	*word.Reader
	forms [formsInAll]operands
	begin int  // where the instruction that is read begins
	wrong bool // no code begins with what was read, and what is read means nothing
}

// operands are what reads the operands of a form, one behind the other; those that it does not name have none.
type operands struct {
	noughts func()
	a, b    func() int
	cases   func(first int) []api.Case
}

// readerOf answers a reader at the beginning of b.
func readerOf(b []byte) *reader {
	r := &reader{Reader: word.Read(b)}
	// The forms are kept, since a method value takes memory each time that it is made.
	r.forms = [...]operands{
		formByte:   {a: r.s1},
		formShort:  {a: r.s2},
		formSmall:  {a: r.u1},
		formWide:   {a: r.u2},
		formCount:  {a: r.u1, b: r.s1},
		formBranch: {a: r.near},
		formTable:  {noughts: r.noughts, a: r.far, b: r.s4, cases: r.table},
		formSearch: {noughts: r.noughts, a: r.far, cases: r.search},
	}
	return r
}

// instrsOf answers the instructions of b, and whether b is a code, however long.
func instrsOf(b []byte) ([]api.Instr, bool) {
	r := readerOf(b)
	var l []api.Instr
	for r.Left() > 0 && !r.wrong {
		l = append(l, r.instr())
	}
	return l, len(l) > 0 && !r.wrong && staysWithin(l)
}

// staysWithin holds if no instruction of a list leads to where none of them begins.
func staysWithin(l []api.Instr) bool {
	for _, i := range l {
		for _, to := range Targets(i) {
			if !begins(l, to) {
				return false
			}
		}
	}
	return true
}

// begins holds if one of the instructions, which stand in order, begins at a place.
func begins(l []api.Instr, at int) bool {
	_, ok := slices.BinarySearchFunc(l, at, func(i api.Instr, at int) int { return cmp.Compare(i.At, at) })
	return ok
}

// instr answers the instruction that comes.
func (r *reader) instr() api.Instr {
	r.begin = r.At()
	i := api.Instr{At: r.begin, Op: r.u1()}
	f := formOf(i.Op)
	r.refuseIf(f == formAbsent)
	o := r.forms[f]
	if o.noughts != nil {
		o.noughts()
	}
	if o.a != nil {
		i.A = o.a()
	}
	if o.b != nil {
		i.B = o.b()
	}
	if o.cases != nil {
		i.Cases = o.cases(i.B)
	}
	return i
}

// refuseIf says that what was read is no code's, if it holds.
func (r *reader) refuseIf(bad bool) { r.wrong = r.wrong || bad }

// number answers a number that was read, unless the bytes ended.
func (r *reader) number(n int, e api.Errno) int {
	r.refuseIf(e != api.OK)
	return n
}

// The number of so many bytes that comes, without a sign and with one.
func (r *reader) u1() int { return r.number(r.U(1)) }
func (r *reader) u2() int { return r.number(r.U(2)) }
func (r *reader) u4() int { return r.number(r.U(4)) }
func (r *reader) s1() int { return r.number(r.S(1)) }
func (r *reader) s2() int { return r.number(r.S(2)) }
func (r *reader) s4() int { return r.number(r.S(4)) }

// The place to which the number of so many bytes that comes leads from the instruction: near 2, far 4.
func (r *reader) near() int { return r.begin + r.s2() }
func (r *reader) far() int  { return r.begin + r.s4() }

// noughts passes over the bytes up to a place that 4 divides.
func (r *reader) noughts() {
	for r.At()%4 != 0 && !r.wrong {
		r.refuseIf(r.u1() != 0)
	}
}

// table answers the cases of a table, whose keys are those from first on.
func (r *reader) table(first int) []api.Case {
	n := r.s4() - first + 1
	r.refuseIf(n < 1)
	return r.cases(n, func(k int) int { return first + k })
}

// search answers the cases of a search, each of which has its key ahead of it.
func (r *reader) search(int) []api.Case {
	l := r.cases(r.u4(), func(int) int { return r.s4() })
	r.refuseIf(!rise(l))
	return l
}

// cases answers n cases whose keys are told by a function.
func (r *reader) cases(n int, key func(k int) int) []api.Case {
	r.refuseIf(n > api.MaxItems)
	var l []api.Case
	for k := 0; k < n && !r.wrong; k++ {
		l = append(l, api.Case{Key: key(k), To: r.far()})
	}
	return l
}

// rise holds if each key of a list is above the one ahead of it.
func rise(l []api.Case) bool {
	for k := 1; k < len(l); k++ {
		if l[k-1].Key >= l[k].Key {
			return false
		}
	}
	return true
}
