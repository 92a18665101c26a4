package arith

import "cmp"

// wide is the kind of longs: its own arithmetic goes round as theirs, and that of the least one by -1, too.
type wide int64

func (a wide) plus(b wide) wide  { return a + b }
func (a wide) minus(b wide) wide { return a - b }
func (a wide) times(b wide) wide { return a * b }
func (a wide) by(b wide) wide    { return a / b }
func (a wide) left(b wide) wide  { return a % b }

// The lowest bits of b are b modulo 64, of a b below 0, too.
func (a wide) up(b wide) wide       { return a << (b & 63) }
func (a wide) down(b wide) wide     { return a >> (b & 63) }
func (a wide) downBare(b wide) wide { return wide(uint64(a) >> (b & 63)) }

func (a wide) and(b wide) wide { return a & b }
func (a wide) or(b wide) wide  { return a | b }
func (a wide) xor(b wide) wide { return a ^ b }

func (a wide) against(b wide) wide { return wide(cmp.Compare(a, b)) }

func (a wide) negated() wide { return -a }
func (a wide) rounded() wide { return wide(narrow(a)) }

// wideOfTwo answers the operation of two longs that has a number, nil if there is none.
func wideOfTwo(op int) func(wide, wide) wide {
	switch op {
	case 97:
		return wide.plus
	case 101:
		return wide.minus
	case 105:
		return wide.times
	case 109:
		return wide.by
	case 113:
		return wide.left
	case 121:
		return wide.up
	case 123:
		return wide.down
	case 125:
		return wide.downBare
	case 127:
		return wide.and
	case 129:
		return wide.or
	case 131:
		return wide.xor
	case 148:
		return wide.against
	}
	return nil
}

// wideOfOne answers the operation of one long that has a number, nil if there is none.
func wideOfOne(op int) func(wide) wide {
	switch op {
	case 117:
		return wide.negated
	case 136:
		return wide.rounded
	}
	return nil
}
