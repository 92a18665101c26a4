package step

import (
	"slices"

	"larch/api"
)

// deed is what the instructions of some numbers do.
type deed struct {
	do    func(*work)
	takes int // the kind of the values that it pops, where instructions differ in it
	gives int // the kind of the value that it pushes
	ops   []int
}

// deeds lists what all instructions do, in their plain form.
func deeds() []deed { return slices.Concat(movers(), sums(), branches(), objects()) }

// movers are the deeds of what goes from and to constants, locals and arrays, or moves on the stack.
func movers() []deed {
	return []deed{
		{(*work).nothing, api.KTop, api.KTop, []int{0}},
		{(*work).number, api.KTop, api.KRef, []int{1}},
		{(*work).number, api.KTop, api.KInt, []int{17}},
		{(*work).number, api.KTop, api.KLong, []int{9}},
		{(*work).pooled, api.KTop, api.KInt, []int{18}},
		{(*work).pooled, api.KTop, api.KLong, []int{20}},
		{(*work).load, api.KTop, api.KInt, []int{21}},
		{(*work).load, api.KTop, api.KLong, []int{22}},
		{(*work).load, api.KTop, api.KRef, []int{25}},
		{(*work).store, api.KInt, api.KTop, []int{54}},
		{(*work).store, api.KLong, api.KTop, []int{55}},
		{(*work).store, api.KRef, api.KTop, []int{58}},
		{(*work).count, api.KTop, api.KTop, []int{132}},
		{(*work).fetch, api.KTop, api.KInt, []int{46, 51}},
		{(*work).fetch, api.KTop, api.KLong, []int{47}},
		{(*work).fetch, api.KTop, api.KRef, []int{50}},
		{(*work).put, api.KInt, api.KTop, []int{79}},
		{(*work).put, api.KLong, api.KTop, []int{80}},
		{(*work).putByte, api.KInt, api.KTop, []int{84}},
		{(*work).putRef, api.KRef, api.KTop, []int{83}},
		{(*work).drop, api.KTop, api.KTop, []int{87}},
		{(*work).dropPair, api.KTop, api.KTop, []int{88}},
		{(*work).twice, api.KTop, api.KTop, []int{89}},
		{(*work).twiceAcross, api.KTop, api.KTop, []int{90}},
		{(*work).pairTwice, api.KTop, api.KTop, []int{92}},
		{(*work).swap, api.KTop, api.KTop, []int{95}},
	}
}

// sums are the deeds of arithmetic.
func sums() []deed {
	return []deed{
		{(*work).two, api.KInt, api.KInt, []int{96, 100, 104, 108, 112, 120, 122, 124, 126, 128, 130}},
		{(*work).two, api.KLong, api.KLong, []int{97, 101, 105, 109, 113, 127, 129, 131}},
		{(*work).two, api.KLong, api.KInt, []int{148}},
		{(*work).shift, api.KLong, api.KLong, []int{121, 123, 125}},
		{(*work).one, api.KInt, api.KInt, []int{116, 145, 146, 147}},
		{(*work).one, api.KLong, api.KLong, []int{117}},
		{(*work).one, api.KInt, api.KLong, []int{133}},
		{(*work).one, api.KLong, api.KInt, []int{136}},
	}
}

// branches are the deeds of what leads elsewhere, or back to the caller.
func branches() []deed {
	return []deed{
		{(*work).jump, api.KTop, api.KTop, []int{167}},
		{(*work).ifOne, api.KInt, api.KTop, []int{153, 154, 155, 156, 157, 158}},
		{(*work).ifTwo, api.KInt, api.KTop, []int{159, 160, 161, 162, 163, 164}},
		{(*work).ifSame, api.KRef, api.KTop, []int{165, 166}},
		{(*work).ifNull, api.KRef, api.KTop, []int{198, 199}},
		{(*work).choose, api.KInt, api.KTop, []int{170, 171}},
		{(*work).answer, api.KInt, api.KTop, []int{172}},
		{(*work).answer, api.KLong, api.KTop, []int{173}},
		{(*work).answer, api.KRef, api.KTop, []int{176}},
		{(*work).leave, api.KTop, api.KTop, []int{177}},
	}
}

// objects are the deeds of statics, fields, methods and objects.
func objects() []deed {
	return []deed{
		{(*work).getStatic, api.KTop, api.KTop, []int{178}},
		{(*work).putStatic, api.KTop, api.KTop, []int{179}},
		{(*work).getField, api.KTop, api.KTop, []int{180}},
		{(*work).putField, api.KTop, api.KTop, []int{181}},
		{(*work).callOn, api.KTop, api.KTop, []int{182, 183}},
		{(*work).callStatic, api.KTop, api.KTop, []int{184}},
		{(*work).create, api.KTop, api.KRef, []int{187}},
		{(*work).makeNumbers, api.KInt, api.KRef, []int{188}},
		{(*work).makeArray, api.KInt, api.KRef, []int{189}},
		{(*work).size, api.KTop, api.KInt, []int{190}},
		{(*work).throwThis, api.KRef, api.KTop, []int{191}},
		{(*work).cast, api.KRef, api.KRef, []int{192}},
		{(*work).isOf, api.KRef, api.KInt, []int{193}},
		{(*work).enter, api.KTop, api.KTop, []int{194}},
		{(*work).exit, api.KTop, api.KTop, []int{195}},
	}
}
