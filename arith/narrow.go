package arith

// narrow is the kind of ints: its own arithmetic goes round as theirs, and that of the least one by -1, too.
type narrow int32

func (a narrow) plus(b narrow) narrow  { return a + b }
func (a narrow) minus(b narrow) narrow { return a - b }
func (a narrow) times(b narrow) narrow { return a * b }
func (a narrow) by(b narrow) narrow    { return a / b }
func (a narrow) left(b narrow) narrow  { return a % b }

// The lowest bits of b are b modulo 32, of a b below 0, too.
func (a narrow) up(b narrow) narrow       { return a << (b & 31) }
func (a narrow) down(b narrow) narrow     { return a >> (b & 31) }
func (a narrow) downBare(b narrow) narrow { return narrow(uint32(a) >> (b & 31)) }

func (a narrow) and(b narrow) narrow { return a & b }
func (a narrow) or(b narrow) narrow  { return a | b }
func (a narrow) xor(b narrow) narrow { return a ^ b }

func (a narrow) negated() narrow   { return -a }
func (a narrow) itself() narrow    { return a }
func (a narrow) lowByte() narrow   { return narrow(int8(a)) }
func (a narrow) lowShort() narrow  { return narrow(int16(a)) }
func (a narrow) bareShort() narrow { return narrow(uint16(a)) }

func (a narrow) isLike(b narrow) bool       { return a == b }
func (a narrow) isNotLike(b narrow) bool    { return a != b }
func (a narrow) isLess(b narrow) bool       { return a < b }
func (a narrow) isNotLess(b narrow) bool    { return a >= b }
func (a narrow) isGreater(b narrow) bool    { return a > b }
func (a narrow) isNotGreater(b narrow) bool { return a <= b }

// narrowOfTwo answers the operation of two ints that has a number, nil if there is none.
func narrowOfTwo(op int) func(narrow, narrow) narrow {
	switch op {
	case 96:
		return narrow.plus
	case 100:
		return narrow.minus
	case 104:
		return narrow.times
	case 108:
		return narrow.by
	case 112:
		return narrow.left
	case 120:
		return narrow.up
	case 122:
		return narrow.down
	case 124:
		return narrow.downBare
	case 126:
		return narrow.and
	case 128:
		return narrow.or
	case 130:
		return narrow.xor
	}
	return nil
}

// narrowOfOne answers the operation of one int that has a number, nil if there is none.
func narrowOfOne(op int) func(narrow) narrow {
	switch op {
	case 116:
		return narrow.negated
	case 133:
		return narrow.itself
	case 145:
		return narrow.lowByte
	case 146:
		return narrow.bareShort
	case 147:
		return narrow.lowShort
	}
	return nil
}

// condition answers the condition that has a number, nil if there is none; those of a and 0 are those of a and b.
func condition(op int) func(narrow, narrow) bool {
	switch op {
	case 153, 159:
		return narrow.isLike
	case 154, 160:
		return narrow.isNotLike
	case 155, 161:
		return narrow.isLess
	case 156, 162:
		return narrow.isNotLess
	case 157, 163:
		return narrow.isGreater
	case 158, 164:
		return narrow.isNotGreater
	}
	return nil
}
