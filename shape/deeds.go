package shape

// deed is one thing that an instruction does; it holds if that comes to pass.
type deed func() bool

// list is what an instruction does, in this order.
func list(l ...deed) []deed { return l }

// done does deeds one by one, up to the first one that does not come to pass.
func done(l ...deed) bool {
	for _, d := range l {
		if !d() {
			return false
		}
	}
	return true
}

// absent is what an instruction does that there is not.
func absent() bool { return false }

// deeds answers what the instruction does.
func (w *work) deeds() []deed {
	switch op := w.instr.Op; {
	case op <= 45:
		return w.pushes()
	case op <= 86:
		return w.stores()
	case op <= 95:
		return w.shuffles()
	case op <= 152:
		return w.sums()
	case op <= 177:
		return w.branches()
	case op <= 186:
		return w.members()
	}
	return w.objects()
}

// pushes are the deeds of what pushes constants and locals.
func (w *work) pushes() []deed {
	switch w.instr.Op {
	case 0:
		return list()
	case 1:
		return list(w.pushNull)
	case 17:
		return list(w.pushInt)
	case 9:
		return list(w.pushLong)
	case 18:
		return list(w.findInt, w.pushInt)
	case 20:
		return list(w.findLong, w.pushLong)
	case 21:
		return list(w.getInt, w.pushFirst)
	case 22:
		return list(w.getLong, w.pushFirst)
	case 25:
		return list(w.getReference, w.pushFirst)
	}
	return list(absent)
}

// stores are the deeds of what sets locals, and of what goes to an array's members.
func (w *work) stores() []deed {
	switch w.instr.Op {
	case 54:
		return list(w.popInt, w.setLocal)
	case 55:
		return list(w.popLong, w.setLocal)
	case 58:
		return list(w.popReference, w.setLocal)
	case 46:
		return list(w.popInt, w.popInts, w.pushInt)
	case 47:
		return list(w.popInt, w.popLongs, w.pushLong)
	case 51:
		return list(w.popInt, w.popBytes, w.pushInt)
	case 50:
		return list(w.popInt, w.popReferences, w.pushElement)
	case 79:
		return list(w.popInt, w.popInt, w.popInts)
	case 80:
		return list(w.popLong, w.popInt, w.popLongs)
	case 84:
		return list(w.popInt, w.popInt, w.popBytes)
	case 83:
		return list(w.popReference, w.popInt, w.popReferences)
	}
	return list(absent)
}

// shuffles are the deeds of what takes the top as it is, or lays it down again.
func (w *work) shuffles() []deed {
	switch w.instr.Op {
	case 87:
		return list(w.popSingle)
	case 88:
		return list(w.popPair)
	case 89:
		return list(w.popSingle, w.pushFirst, w.pushFirst)
	case 90:
		return list(w.popSingle, w.popSingle, w.pushFirst, w.pushLast, w.pushFirst)
	case 92:
		return list(w.popPair, w.pushBack, w.pushBack)
	case 95:
		return list(w.popSingle, w.popSingle, w.pushFirst, w.pushLast)
	}
	return list(absent)
}

// sums are the deeds of arithmetic.
func (w *work) sums() []deed {
	switch w.instr.Op {
	case 96, 100, 104, 108, 112, 120, 122, 124, 126, 128, 130:
		return list(w.popInt, w.popInt, w.pushInt)
	case 97, 101, 105, 109, 113, 127, 129, 131:
		return list(w.popLong, w.popLong, w.pushLong)
	case 121, 123, 125:
		return list(w.popInt, w.popLong, w.pushLong)
	case 116, 145, 146, 147:
		return list(w.popInt, w.pushInt)
	case 117:
		return list(w.popLong, w.pushLong)
	case 133:
		return list(w.popInt, w.pushLong)
	case 136:
		return list(w.popLong, w.pushInt)
	case 148:
		return list(w.popLong, w.popLong, w.pushInt)
	case 132:
		return list(w.getInt)
	}
	return list(absent)
}

// branches are the deeds of what leads elsewhere, or back to the caller; 198 and 199, whose numbers are far off, are among objects.
func (w *work) branches() []deed {
	switch w.instr.Op {
	case 167:
		return list()
	case 153, 154, 155, 156, 157, 158, 170, 171:
		return list(w.popInt)
	case 159, 160, 161, 162, 163, 164:
		return list(w.popInt, w.popInt)
	case 165, 166:
		return list(w.popReference, w.popReference)
	case 172:
		return list(w.answersInt, w.popAnswer)
	case 173:
		return list(w.answersLong, w.popAnswer)
	case 176:
		return list(w.answersReference, w.popAnswer)
	case 177:
		return list(w.answersNothing)
	}
	return list(absent)
}

// members are the deeds of what goes to fields and methods.
func (w *work) members() []deed {
	switch w.instr.Op {
	case 178:
		return list(w.findField, w.pushTold)
	case 179:
		return list(w.findField, w.popTold)
	case 180:
		return list(w.findField, w.popOwner, w.pushTold)
	case 181:
		return list(w.findField, w.popTold, w.popOwner)
	case 182, 183:
		return list(w.findMethod, w.popArguments, w.popOwner, w.pushAnswer)
	case 184:
		return list(w.findMethod, w.popArguments, w.pushAnswer)
	}
	return list(absent)
}

// objects are the deeds of what makes objects, or takes one as a whole.
func (w *work) objects() []deed {
	switch w.instr.Op {
	case 187:
		return list(w.findClass, w.isNoArray, w.pushTold)
	case 188:
		return list(w.popInt, w.pushNumbers)
	case 189:
		return list(w.findClass, w.popInt, w.pushArray)
	case 190:
		return list(w.popArray, w.pushInt)
	case 191:
		return list(w.popThrowable)
	case 192:
		return list(w.findClass, w.popReference, w.pushTold)
	case 193:
		return list(w.findClass, w.popReference, w.pushInt)
	case 194, 195, 198, 199:
		return list(w.popReference)
	}
	return list(absent)
}
