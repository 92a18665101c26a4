package shape_test

import (
	"math"
	"slices"
	"strings"
	"testing"

	"larch/api"
)

// Tests of 11.1: arrays, what shuffles the stack, what a method answers.

// inner answers what 50 pushes of an array; refused, if it is not one of references.
func inner(x string) string {
	elements := map[string]string{
		"N": "N", "[La;": "a", "[Lb;": "b", "[Lc;": "c", "[Lother;": "other", "[LObject;": "Object",
		"[[I": "[I", "[[J": "[J", "[[B": "[B", "[[La;": "[La;", "[[LObject;": "[LObject;",
	}
	if s, ok := elements[x]; ok {
		return s
	}
	return refused
}

func TestArraysOfReferences(t *testing.T) {
	for _, x := range strings.Fields(allTypes) {
		element, nothing := inner(x), ""
		if element == refused {
			nothing = refused
		}
		ask(50, 0).gives(t, x+" I", element)
		for _, y := range strings.Fields(allRefs) { // whether the array takes it is asked when it runs
			ask(83, 0).gives(t, x+" I "+y, nothing)
		}
		for _, y := range strings.Fields(allTypes) {
			if y != "I" {
				ask(50, 0).gives(t, x+" "+y, refused)
				ask(83, 0).gives(t, x+" "+y+" N", refused)
			}
		}
		for _, y := range []string{"I", "J", "T"} {
			ask(83, 0).gives(t, x+" I "+y, refused)
		}
		ask(50, 0).gives(t, x, refused)
	}
	ask(50, 0).gives(t, "J [La; I", "J a")
	ask(83, 0).gives(t, "J [La; I a", "J")
	ask(50, 0).gives(t, "I", refused)
	ask(50, 0).gives(t, "", refused)
	ask(83, 0).gives(t, "I a", refused)
	ask(83, 0).gives(t, "a", refused)
}

// 46, 47, 51, 79, 80, 84: each array of numbers for itself.
func TestArraysOfNumbers(t *testing.T) {
	for op, own := range map[int]string{46: "[I", 47: "[J", 51: "[B", 79: "[I", 80: "[J", 84: "[B"} {
		value, got := "I", "I"
		if own == "[J" {
			value, got = "J", "J"
		}
		for _, x := range strings.Fields(allTypes) {
			from, want := x+" I", got
			if op >= 79 {
				from, want = x+" I "+value, ""
			}
			if x != own && x != "N" {
				want = refused
			}
			ask(op, 0).gives(t, from, want)
		}
	}
}

// 190: arrays of all kinds.
func TestLength(t *testing.T) {
	for _, x := range strings.Fields(allTypes) {
		want := refused
		if x == "N" || strings.HasPrefix(x, "[") {
			want = "I"
		}
		ask(190, 0).gives(t, x, want)
	}
	deep := strings.Repeat("[", 8)
	ask(190, 0).gives(t, deep+"B", "I")
	ask(190, 0).gives(t, deep+"[B", refused) // no array's: too deep
	ask(190, 0).gives(t, "[V", refused)
	ask(50, 0).gives(t, deep+"J I", deep[1:]+"J")
	ask(50, 0).gives(t, deep+"[J I", refused)
	ask(83, 0).gives(t, "[[V I N", refused)
	ask(190, 0).gives(t, "", refused)
}

// 87 to 95: each Op there, and those between them.
func TestShuffles(t *testing.T) {
	for _, x := range []struct {
		op         int
		from, want string
	}{
		{87, "I", ""}, {87, "J I", "J"}, {87, "I J", refused}, {87, "J", refused}, {87, "", refused},
		{88, "J", ""}, {88, "I J", "I"}, {88, "I I", ""}, {88, "a I N", "a"}, {88, "J I", refused}, {88, "I", refused}, {88, "", refused}, {88, "J J", "J"}, {88, "J I a", "J"}, {88, "J T", refused},
		{89, "I", "I I"}, {89, "J I", "J I I"}, {89, "a b", "a b b"}, {89, "J", refused}, {89, "", refused}, {89, "I J", refused},
		{90, "I N", "N I N"}, {90, "a b", "b a b"}, {90, "J a b", "J b a b"}, {90, "c a b", "c b a b"}, {90, "J I", refused}, {90, "I J", refused}, {90, "J J", refused}, {90, "I", refused}, {90, "", refused}, {90, "J", refused},
		{92, "J", "J J"}, {92, "I J", "I J J"}, {92, "a b", "a b a b"}, {92, "c a b", "c a b a b"}, {92, "J a b", "J a b a b"}, {92, "J I", refused}, {92, "I", refused}, {92, "", refused}, {92, "J J", "J J J"},
		{95, "a b", "b a"}, {95, "c a b", "c b a"}, {95, "J a b", "J b a"}, {95, "J a", refused}, {95, "a J", refused}, {95, "J J", refused}, {95, "a", refused}, {95, "", refused},
		{91, "a b c", refused}, {93, "a b c", refused}, {94, "a b c", refused}, {91, "J a", refused}, {93, "I J", refused}, {94, "J J", refused},
	} {
		ask(x.op, 0).gives(t, x.from, x.want)
	}
}

// 87 to 95 of all types in both places: what is no long is a single, a KTop, too.
func TestShufflesOfEachType(t *testing.T) {
	give := func(op int, from, want string, ok bool) {
		t.Helper()
		if !ok {
			want = refused
		}
		ask(op, 0).gives(t, from, want)
	}
	for _, b := range strings.Fields(allTypes) {
		long := b == "J"
		give(87, b, "", !long)
		give(89, b, b+" "+b, !long)
		for _, a := range strings.Fields(allTypes) {
			s, singles := a+" "+b, a != "J" && !long
			give(87, s, a, !long)
			give(89, s, s+" "+b, !long)
			give(90, s, b+" "+a+" "+b, singles)
			give(95, s, b+" "+a, singles)
			if long {
				ask(88, 0).gives(t, s, a)
				ask(92, 0).gives(t, s, a+" J J")
				continue
			}
			give(88, s, "", singles)
			give(92, s, s+" "+s, singles)
		}
	}
}

// 172, 173, 176, 177 with each answer of a method, and each top.
func TestAnswers(t *testing.T) {
	fits := map[string]string{"a": "N a b c", "Object": allRefs, "Throwable": "N Throwable Bad", "[I": "N [I", "[La;": "N [La; [Lb; [Lc;", "none": "N none"}
	for _, back := range strings.Fields("T I J N a Object Throwable none [I [La;") {
		for _, x := range strings.Fields(allTypes) {
			for _, op := range []int{172, 173, 176, 177} {
				want := refused
				switch {
				case op == 172 && back == "I" && x == "I", op == 173 && back == "J" && x == "J":
					want = "T"
				case op == 176 && fits[back] != "" && slices.Contains(strings.Fields(fits[back]), x):
					want = "T"
				case op == 177 && back == "T":
					want = "T " + x
				}
				k := ask(op, 0)
				k.back = typeOf(back)
				k.gives(t, "T "+x, want)
			}
		}
		for _, op := range []int{172, 173, 176} {
			k := ask(op, 0)
			k.back = typeOf(back)
			k.gives(t, "", refused)
		}
	}
	for _, op := range []int{172, 173, 174, 175, 176, 177} { // an answer that there is not
		for _, kind := range []int{-1, 5, 1 << 32, math.MinInt} {
			k := ask(op, 0)
			k.back = api.Type{Kind: kind}
			k.gives(t, "a", refused)
			k.gives(t, "I", refused)
		}
	}
}

// 191: a Throwable, by the list.
func TestThrow(t *testing.T) {
	for _, x := range strings.Fields(allTypes) {
		k := ask(191, 0)
		want := refused
		if x == "N" || x == "Throwable" || x == "Bad" {
			want = "J"
		}
		k.gives(t, "J "+x, want)
		k.list = nil
		if x == "Bad" {
			want = refused
		}
		k.gives(t, "J "+x, want)
		k.list = classes("a<Throwable b<a")
		if x == "a" || x == "b" {
			want = "J"
		}
		k.gives(t, "J "+x, want)
	}
}

// 188: of each A.
func TestNewNumbers(t *testing.T) {
	arrays := map[int]string{8: "[B", 10: "[I", 11: "[J"}
	for _, a := range append(ops("0..12"), -1, -8, -10, 13, 255, 264, 1<<32+10, math.MaxInt, math.MinInt) {
		want, ok := arrays[a]
		if !ok {
			want = refused
		}
		ask(188, a).gives(t, "I", want)
		for _, x := range strings.Fields(allTypes) {
			if x != "I" {
				ask(188, a).gives(t, x, refused)
			}
			ask(188, a).gives(t, x+" I", map[bool]string{true: x + " " + want, false: refused}[ok])
		}
		ask(188, a).gives(t, "", refused)
	}
}
