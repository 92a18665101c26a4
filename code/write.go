package code

import (
	"larch/api"
	"larch/word"
)

// writer writes instructions, one behind the other. What does not fit it leaves out: the bytes are not those of the
// instructions then, which shows once they are read again.
type writer struct {
	*word.Writer
	begin int // where the instruction that is written says that it begins
}

// bytesOf answers the bytes whose instructions l are, if there are such.
func bytesOf(l []api.Instr) []byte {
	w := &writer{Writer: word.Make()}
	for _, i := range l {
		w.instr(i)
	}
	return w.All()
}

// instr writes an instruction, as far as its form names what it has.
func (w *writer) instr(i api.Instr) {
	w.begin = i.At
	w.U(1, i.Op)
	switch formOf(i.Op) {
	case formByte:
		w.S(1, i.A)
	case formShort:
		w.S(2, i.A)
	case formSmall:
		w.U(1, i.A)
	case formWide:
		w.U(2, i.A)
	case formCount:
		w.U(1, i.A)
		w.S(1, i.B)
	case formBranch:
		w.S(2, w.wayTo(i.A))
	case formTable:
		w.table(i)
	case formSearch:
		w.search(i)
	}
}

// wayTo answers how far a place is from the instruction.
func (w *writer) wayTo(at int) int { return at - w.begin }

// noughts writes noughts up to a place that 4 divides.
func (w *writer) noughts() {
	for w.Len()%4 != 0 {
		w.U(1, 0)
	}
}

// table writes the operands of a table.
func (w *writer) table(i api.Instr) {
	w.noughts()
	w.S(4, w.wayTo(i.A), i.B, i.B+len(i.Cases)-1)
	for _, c := range i.Cases {
		w.S(4, w.wayTo(c.To))
	}
}

// search writes the operands of a search.
func (w *writer) search(i api.Instr) {
	w.noughts()
	w.S(4, w.wayTo(i.A))
	w.U(4, len(i.Cases))
	for _, c := range i.Cases {
		w.S(4, c.Key, w.wayTo(c.To))
	}
}
