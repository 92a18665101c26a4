package code_test

import (
	"fmt"
	"math"
	"math/rand"
	"slices"
	"testing"

	"larch/api"
	"larch/code"
)

// plainOf answers the plain form, by the chapter's words.
func plainOf(i api.Instr) api.Instr {
	all := map[int][2]int{
		2: {17, -1}, 3: {17, 0}, 4: {17, 1}, 5: {17, 2}, 6: {17, 3}, 7: {17, 4}, 8: {17, 5}, 10: {9, 1},
		26: {21, 0}, 27: {21, 1}, 28: {21, 2}, 29: {21, 3}, 30: {22, 0}, 31: {22, 1}, 32: {22, 2}, 33: {22, 3},
		42: {25, 0}, 43: {25, 1}, 44: {25, 2}, 45: {25, 3}, 59: {54, 0}, 60: {54, 1}, 61: {54, 2}, 62: {54, 3},
		63: {55, 0}, 64: {55, 1}, 65: {55, 2}, 66: {55, 3}, 75: {58, 0}, 76: {58, 1}, 77: {58, 2}, 78: {58, 3},
		16: {17, i.A}, 19: {18, i.A},
	}
	if x, ok := all[i.Op]; ok {
		i.Op, i.A = x[0], x[1]
	}
	return i
}

// plainFalls answers whether an instruction falls, by the chapter's words.
func plainFalls(op int) bool {
	return !slices.Contains([]int{167, 170, 171, 172, 173, 176, 177, 191}, op)
}

// tells asks for Plain, Targets and Falls of an instruction, and for what follows of them (9.6).
func tells(t *testing.T, i api.Instr) {
	t.Helper()
	what := fmt.Sprint(i)
	p := code.Plain(i)
	hasInstrs(t, "Plain of "+what, []api.Instr{p}, []api.Instr{plainOf(i)})
	hasInstrs(t, "Plain twice of "+what, []api.Instr{code.Plain(p)}, []api.Instr{p})
	if got, want := code.Targets(i), plainTargets(i); !slices.Equal(got, want) {
		t.Errorf("Targets of %s: %v, want %v", what, got, want)
	}
	if got, want := code.Targets(p), code.Targets(i); !slices.Equal(got, want) {
		t.Errorf("Targets of the plain form of %s: %v, want %v", what, got, want)
	}
	is(t, "Falls of "+what, code.Falls(i), plainFalls(i.Op))
	is(t, "Falls of the plain form of "+what, code.Falls(p), code.Falls(i))
}

// 9.2: each Op, with right operands.
func TestTellsOfEachOp(t *testing.T) {
	for _, op := range ops("") {
		_, i := alone(op)
		tells(t, i)
		for _, x := range bounds()[formName(op)] {
			tells(t, api.Instr{At: 9, Op: op, A: x.a, B: x.b})
		}
		tells(t, api.Instr{At: 4095, Op: op})
	}
}

// 9.2: the order of a switch's targets, and targets that are the same.
func TestOrderOfTargets(t *testing.T) {
	for _, op := range []int{170, 171} {
		i := api.Instr{Op: op, A: 7, Cases: []api.Case{{Key: 1, To: 9}, {Key: 2, To: 3}, {Key: 3, To: 9}, {Key: 4, To: 7}}}
		if got := code.Targets(i); !slices.Equal(got, []int{7, 9, 3, 9, 7}) {
			t.Errorf("Targets of %v: %v", i, got)
		}
	}
	if got := code.Targets(api.Instr{Op: 171, A: 5}); !slices.Equal(got, []int{5}) {
		t.Errorf("Targets of a search without cases: %v", got)
	}
}

// 9.2: instructions that are none.
func TestTellsOfAnything(t *testing.T) {
	numbers := []int{0, 1, -1, 5, 300, -300, 70000, 1 << 40, math.MinInt, math.MaxInt}
	cases := [][]api.Case{nil, {}, {{Key: 1, To: 2}}, {{Key: 2, To: -1}, {Key: 1, To: math.MaxInt}, {Key: 1, To: -1}}}
	for op := -300; op < 600; op++ {
		for k, n := range numbers {
			for _, c := range cases {
				tells(t, api.Instr{At: n, Op: op, A: numbers[(k+3)%10], B: numbers[(k+7)%10], Cases: c})
			}
		}
		if t.Failed() {
			return
		}
	}
	for _, far := range []int{1 << 32, -1 << 32, 1 << 16, math.MinInt, math.MaxInt - 255} {
		for op := range 256 {
			tells(t, api.Instr{Op: far + op, A: 3})
		}
	}
	g := rand.New(rand.NewSource(9))
	for range 20000 {
		tells(t, api.Instr{At: anyNumber(g), Op: anyNumber(g), A: anyNumber(g), B: anyNumber(g)})
	}
}
