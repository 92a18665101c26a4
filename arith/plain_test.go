package arith_test

import (
	"math/big"

	"larch/api"
)

// A plain reading of the chapter's words, in whole numbers without a bound, that everything is held against.

func whole(a int) *big.Int { return big.NewInt(int64(a)) }

// powerOfTwo is 2 to the n.
func powerOfTwo(n int) *big.Int { return new(big.Int).Exp(whole(2), whole(n), nil) }

// plainRound is the one from -2^(bits - 1) to 2^(bits - 1) - 1 that differs from x by a multiple of 2^bits.
func plainRound(x *big.Int, bits int) int {
	y := new(big.Int).Mod(x, powerOfTwo(bits)) // from 0 on
	if y.Cmp(powerOfTwo(bits-1)) >= 0 {
		y.Sub(y, powerOfTwo(bits))
	}
	return int(y.Int64())
}

// plainBare is x as a number of so many bits without a sign.
func plainBare(x *big.Int, bits int) *big.Int { return new(big.Int).Mod(x, powerOfTwo(bits)) }

// plainInt holds if a is from -2^31 to 2^31 - 1.
func plainInt(a int) bool {
	low := new(big.Int).Neg(powerOfTwo(31))
	return whole(a).Cmp(low) >= 0 && whole(a).Cmp(powerOfTwo(31)) < 0
}

// plainBy is a by b, towards nought, and what is left, with the sign of a: both by numbers that are not below 0.
func plainBy(a, b *big.Int) (*big.Int, *big.Int) {
	by, left := new(big.Int).DivMod(new(big.Int).Abs(a), new(big.Int).Abs(b), new(big.Int))
	if a.Sign()*b.Sign() < 0 {
		by.Neg(by)
	}
	if a.Sign() < 0 {
		left.Neg(left)
	}
	return by, left
}

// plainDown is x by 2 to the n, rounded down.
func plainDown(x *big.Int, n int) *big.Int {
	by, _ := new(big.Int).DivMod(x, powerOfTwo(n), new(big.Int)) // what is left is not below 0
	return by
}

// plainBits is the number without a sign whose bits a table tells: table[i][j] for a bit i of a and a bit j of b.
func plainBits(a, b *big.Int, bits int, table [2][2]int64) *big.Int {
	a, b = plainBare(a, bits), plainBare(b, bits)
	sum := new(big.Int)
	for k := range bits {
		bit := big.NewInt(table[a.Bit(k)][b.Bit(k)])
		sum.Add(sum, bit.Mul(bit, powerOfTwo(k)))
	}
	return sum
}

// plainTwo is what comes of two numbers by an operation of ints (32 bits), or of longs (64), told by the one of ints.
func plainTwo(op, bits, a, b int) (int, api.Errno) {
	if b == 0 && (op == 108 || op == 112) {
		return 0, api.ErrNone
	}
	x, y, z := whole(a), whole(b), new(big.Int)
	n := int(new(big.Int).Mod(y, whole(bits)).Int64())
	switch op {
	case 96:
		z.Add(x, y)
	case 100:
		z.Sub(x, y)
	case 104:
		z.Mul(x, y)
	case 108:
		z, _ = plainBy(x, y)
	case 112:
		_, z = plainBy(x, y)
	case 120:
		z.Mul(x, powerOfTwo(n))
	case 122:
		z = plainDown(x, n)
	case 124:
		z = plainDown(plainBare(x, bits), n)
	case 126:
		z = plainBits(x, y, bits, [2][2]int64{{0, 0}, {0, 1}})
	case 128:
		z = plainBits(x, y, bits, [2][2]int64{{0, 1}, {1, 1}})
	case 130:
		z = plainBits(x, y, bits, [2][2]int64{{0, 1}, {1, 0}})
	default:
		return 0, api.ErrArg
	}
	return plainRound(z, bits), api.OK
}

// plainIntOf is Int.
func plainIntOf(op, a, b int) (int, api.Errno) {
	if !plainInt(a) || !plainInt(b) {
		return 0, api.ErrArg
	}
	return plainTwo(op, 32, a, b)
}

// plainLongOf is Long.
func plainLongOf(op, a, b int) (int, api.Errno) {
	if op == 148 {
		return whole(a).Cmp(whole(b)), api.OK
	}
	return plainTwo(op-1, 64, a, b)
}

// plainOne is One.
func plainOne(op, a int) (int, api.Errno) {
	minus := new(big.Int).Neg(whole(a))
	switch op {
	case 117:
		return plainRound(minus, 64), api.OK
	case 136:
		return plainRound(whole(a), 32), api.OK
	}
	if !plainInt(a) {
		return 0, api.ErrArg
	}
	switch op {
	case 116:
		return plainRound(minus, 32), api.OK
	case 133:
		return a, api.OK
	case 145:
		return plainRound(whole(a), 8), api.OK
	case 146:
		return int(plainBare(whole(a), 16).Int64()), api.OK
	case 147:
		return plainRound(whole(a), 16), api.OK
	}
	return 0, api.ErrArg
}

// plainIf is If.
func plainIf(op, a, b int) (bool, api.Errno) {
	if !plainInt(a) || !plainInt(b) || op < 153 || op > 164 {
		return false, api.ErrArg
	}
	order := whole(a).Cmp(whole(b))
	if op <= 158 {
		order = whole(a).Sign()
		op += 6
	}
	holds := map[int]bool{159: order == 0, 160: order != 0, 161: order < 0, 162: order >= 0, 163: order > 0, 164: order <= 0}
	return holds[op], api.OK
}
