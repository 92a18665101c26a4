package code_test

import (
	"fmt"
	"math"
	"slices"
	"testing"

	"larch/api"
	"larch/code"
)

// behind answers a code's bytes and instructions: n instructions of Op 0, the instruction i with these bytes behind its Op
// and its noughts, and 177.
func behind(n int, i api.Instr, rest []byte) ([]byte, []api.Instr) {
	var l []api.Instr
	for k := range n {
		l = append(l, api.Instr{At: k})
	}
	i.At = n
	b := append(make([]byte, n), byte(i.Op))
	for len(b)%4 != 0 {
		b = append(b, 0)
	}
	b = append(b, rest...)
	return append(b, 177), append(l, i, api.Instr{At: len(b), Op: 177})
}

// aTable answers a table at n that leads to 0 and to 177 behind it.
func aTable(n int) ([]byte, []api.Instr) {
	end := n + 4 - n%4 + 20
	i := api.Instr{Op: 170, A: end, B: -1, Cases: []api.Case{{Key: -1}, {Key: 0, To: end}}}
	return behind(n, i, four(end-n, -1, 0, -n, end-n))
}

// aSearch answers a search at n that leads to 0 and to 177 behind it.
func aSearch(n int) ([]byte, []api.Instr) {
	end := n + 4 - n%4 + 24
	i := api.Instr{Op: 171, A: end, Cases: []api.Case{{Key: -5}, {Key: 7, To: end}}}
	return behind(n, i, four(end-n, 2, -5, -n, 7, end-n))
}

// 9.1: a table and a search at places one behind the other.
func TestNoughts(t *testing.T) {
	for n := range 9 {
		for k, make := range []func(int) ([]byte, []api.Instr){aTable, aSearch} {
			what := fmt.Sprintf("%s at %d", []string{"table", "search"}[k], n)
			b, l := make(n)
			isCode(t, what, b, l...)
			for at := n + 1; at%4 != 0; at++ {
				for x := 1; x < 256; x++ {
					b[at] = byte(x)
					noCode(t, fmt.Sprintf("%s with %d at %d", what, x, at), b...)
				}
				b[at] = 0
				noCode(t, fmt.Sprintf("%s with a nought less", what), slices.Delete(slices.Clone(b), at, at+1)...)
			}
			more := slices.Insert(slices.Clone(b), n+1, 0)
			noCode(t, what+" with a nought more", more...)
		}
	}
}

// tableOf answers a table at 0 of n keys from first on, that all lead to 0.
func tableOf(first, n int) ([]byte, api.Instr) {
	i, b := api.Instr{Op: 170, B: first}, append([]byte{170, 0, 0, 0}, four(0, first, first+n-1)...)
	for k := range max(n, 0) {
		i.Cases, b = append(i.Cases, api.Case{Key: first + k}), append(b, 0, 0, 0, 0)
	}
	return b, i
}

// 9.1: how many keys a table has.
func TestKeysOfTables(t *testing.T) {
	for _, first := range []int{0, 1, -1, -128, -300, 300, math.MinInt32, math.MinInt32 + 1, math.MaxInt32 - 256, math.MaxInt32 - 255} {
		for _, n := range []int{1, 2, 3, 255, 256, 257, 258, 512} {
			what := fmt.Sprintf("%d keys from %d on", n, first)
			b, i := tableOf(first, n)
			if n <= 256 {
				isCode(t, what, b, i)
			} else {
				noList(t, what, i)
				noCode(t, what, b...)
			}
		}
		for n := 0; n > -5; n-- {
			if first+n-1 >= math.MinInt32 {
				b, i := tableOf(first, n)
				noCode(t, fmt.Sprintf("%d keys from %d on", n, first), b...)
				noList(t, fmt.Sprintf("no keys from %d on", first), i)
				noCode(t, fmt.Sprintf("%d keys from %d on, and one", n, first), append(b, 0, 0, 0, 0)...)
			}
		}
	}
	for _, first := range []int{math.MaxInt32, math.MaxInt32 - 1} {
		b, i := tableOf(first, math.MaxInt32-first+1)
		isCode(t, fmt.Sprintf("up to the last key, from %d on", first), b, i)
		_, i = tableOf(first, math.MaxInt32-first+2)
		noList(t, fmt.Sprintf("beyond the last key, from %d on", first), i)
	}
	for _, first := range []int{math.MaxInt32 + 1, math.MinInt32 - 1, math.MaxInt, math.MinInt, 1 << 32, -1 << 32} {
		for _, n := range []int{0, 1, 2, 3} {
			_, i := tableOf(first, n)
			noList(t, fmt.Sprintf("%d keys from %d on", n, first), i)
		}
	}
	noCode(t, "all keys that there are", append([]byte{170, 0, 0, 0}, four(0, math.MinInt32, math.MaxInt32, 0, 0)...)...)
	noCode(t, "a last key far below", append([]byte{170, 0, 0, 0}, four(0, math.MaxInt32, math.MinInt32, 0, 0)...)...)
}

// 9.1: keys of a table that are not those from B on.
func TestOtherKeysOfTables(t *testing.T) {
	for _, keys := range [][]int{{1, 2, 4}, {1, 1, 2}, {2, 3, 4}, {0, 1, 2}, {3, 2, 1}, {1, 3, 2}, {1, 2, 1<<32 + 3}, {-1, -2, -3}} {
		i := api.Instr{Op: 170, B: 1}
		for _, k := range keys {
			i.Cases = append(i.Cases, api.Case{Key: k})
		}
		noList(t, fmt.Sprintf("keys %v from 1 on", keys), i)
	}
}

// searchOf answers a search at 0 with these keys, that all lead to 0.
func searchOf(keys ...int) ([]byte, api.Instr) {
	i, b := api.Instr{Op: 171}, append([]byte{171, 0, 0, 0}, four(0, len(keys))...)
	for _, k := range keys {
		i.Cases, b = append(i.Cases, api.Case{Key: k}), append(b, four(k, 0)...)
	}
	return b, i
}

// 9.1: how many cases a search has.
func TestCasesOfSearches(t *testing.T) {
	for _, n := range []int{0, 1, 2, 255, 256, 257, 258, 510} {
		var keys []int
		for k := range n {
			keys = append(keys, 3*k-300)
		}
		what := fmt.Sprintf("%d cases", n)
		b, i := searchOf(keys...)
		if n <= 256 {
			isCode(t, what, b, i)
			b[7]++
			noCode(t, what+", and one that is not there", b...)
		} else {
			noCode(t, what, b...)
			noList(t, what, i)
		}
	}
	for _, n := range []int{-1, math.MinInt32, math.MaxInt32, 256 + 1<<24, 1 << 16} {
		noCode(t, fmt.Sprintf("%d cases that are not there", n), append([]byte{171, 0, 0, 0}, four(0, n, 0, 0)...)...)
	}
	for _, b := range []int{1, -1, 256, math.MinInt, math.MaxInt, 1 << 32} {
		_, i := searchOf(1, 2)
		i.B = b
		noList(t, fmt.Sprintf("a search with B %d", b), i)
		noList(t, fmt.Sprintf("a search without cases with B %d", b), api.Instr{Op: 171, B: b})
	}
}

// 9.1: keys of a search rise.
func TestKeysOfSearches(t *testing.T) {
	for _, keys := range [][]int{
		{0}, {-1, 0, 1}, {math.MinInt32, math.MaxInt32}, {math.MinInt32, math.MinInt32 + 1, 0, math.MaxInt32 - 1, math.MaxInt32},
		{1, 5, 9}, {-9, -5, -1}, {127, 128, 255, 256, 32767, 32768, 65535, 65536}, {math.MaxInt32}, {math.MinInt32},
	} {
		b, i := searchOf(keys...)
		isCode(t, fmt.Sprintf("keys %v", keys), b, i)
	}
	for _, keys := range [][]int{
		{0, 0}, {1, 0}, {0, -1}, {-1, -2}, {1, 2, 2}, {1, 1, 2}, {1, 3, 2}, {2, 1, 3}, {math.MaxInt32, math.MinInt32}, {5, 6, 7, 7},
	} {
		b, i := searchOf(keys...)
		noCode(t, fmt.Sprintf("keys %v", keys), b...)
		noList(t, fmt.Sprintf("keys %v", keys), i)
	}
	for _, k := range []int{math.MaxInt32 + 1, math.MinInt32 - 1, 1 << 32, -1 << 32, math.MaxInt, math.MinInt} {
		_, i := searchOf(k)
		noList(t, fmt.Sprintf("key %d", k), i)
	}
}

// leads answers the list of a table or a search, with one of the places that it leads to changed: A, or a case's To.
func leads(l []api.Instr, k, which, to int) []api.Instr {
	l = copied(l)
	if which == 0 {
		l[k].A = to
	} else {
		l[k].Cases[which-1].To = to
	}
	return l
}

// 9.1: where a table and a search lead.
func TestTargetsOfSwitches(t *testing.T) {
	for n := range 4 {
		for m, make := range []func(int) ([]byte, []api.Instr){aTable, aSearch} {
			b, l := make(n)
			first := n + 4 - n%4
			places := [][]int{{first, first + 12, first + 16}, {first, first + 12, first + 20}}[m]
			begins := map[int]bool{}
			for _, i := range l {
				begins[i.At] = true
			}
			for which, place := range places {
				for to := -10; to < len(b)+10; to++ {
					what := fmt.Sprintf("%s at %d: place %d leads to %d", []string{"table", "search"}[m], n, which, to)
					c, x := slices.Clone(b), leads(l, n, which, to)
					copy(c[place:], four(to-n))
					if begins[to] {
						isCode(t, what, c, x...)
					} else {
						noCode(t, what, c...)
						noList(t, what, x...)
					}
				}
				for _, to := range []int{1 << 32, -1 << 32, n + 1<<32, math.MinInt, math.MaxInt, math.MaxInt32, math.MinInt32, math.MinInt + n} {
					noList(t, fmt.Sprintf("at %d: place %d leads to %d", n, which, to), leads(l, n, which, to)...)
				}
				for _, far := range []int{math.MaxInt32, math.MinInt32, 1 << 16, -1 << 16} {
					c := slices.Clone(b)
					copy(c[place:], four(far))
					noCode(t, fmt.Sprintf("at %d: place %d leads as far as %d", n, which, far), c...)
				}
			}
		}
	}
}

// nothingOf answers an instruction of Op 0 at each place below n.
func nothingOf(n int) []api.Instr {
	var l []api.Instr
	for k := range n {
		l = append(l, api.Instr{At: k})
	}
	return l
}

// 9.1: no bytes, and as many as there may be.
func TestLengths(t *testing.T) {
	noCode(t, "nil")
	noCode(t, "no bytes", []byte{}...)
	refusesBytes(t, "an empty list", []byte{}, api.ErrCode)
	noList(t, "nil")
	refusesList(t, "an empty list", []api.Instr{}, api.ErrCode)

	for _, n := range []int{1, 255, 256, 257, 4095, 4096} {
		isCode(t, fmt.Sprintf("%d bytes", n), make([]byte, n), nothingOf(n)...)
	}
	bad := make([]byte, 4096)
	for _, k := range []int{0, 2000, 4095} {
		bad[k] = 14
		noCode(t, fmt.Sprintf("MaxCode bytes, with 14 at %d", k), bad...)
		bad[k] = 0
	}
	bad[4095] = 17
	noCode(t, "MaxCode bytes that end in an instruction", bad...)
	for _, n := range []int{4097, 4098, 8192, 65536, 100000} {
		refusesBytes(t, fmt.Sprintf("%d noughts", n), make([]byte, n), api.ErrLong)
		refusesList(t, fmt.Sprintf("%d noughts", n), nothingOf(n), api.ErrLong)
		b := make([]byte, n)
		b[0] = 14
		refusesBytes(t, fmt.Sprintf("%d bytes that are no code", n), b, api.ErrLong)
	}
}

// 9.1: lists that are longer than a code may be, and no code besides.
func TestLongLists(t *testing.T) {
	last := api.Instr{At: 4094, Op: 16, A: -1}
	fits := append(nothingOf(4094), last)
	b := append(make([]byte, 4094), 16, 255)
	isCode(t, "MaxCode bytes just", b, fits...)
	last.At++
	refusesList(t, "an instruction over the bound", append(nothingOf(4095), last), api.ErrLong)

	for _, n := range []int{4096, 5000, 30000} {
		what := fmt.Sprintf("%d and 3 bytes", n)
		l := append(nothingOf(n), api.Instr{At: n, Op: 167, A: n - 1})
		refusesList(t, what, l, api.ErrLong)
		l[0] = api.Instr{Op: 14}
		noList(t, what+", and an Op that there is not at the front", l...)
		l[0] = api.Instr{A: 1}
		noList(t, what+", and an operand that is not named", l...)
		l[0] = api.Instr{At: 1}
		noList(t, what+", and an At that is not right", l...)
		l[0] = api.Instr{}
		for _, a := range []int{-1, n + 1, n + 2, n + 3, n + 100} {
			l[n].A = a
			noList(t, fmt.Sprintf("%s, that lead to %d", what, a), l...)
		}
		l[n] = api.Instr{At: n, Op: 200}
		noList(t, what+", and an Op that there is not at the end", l...)
	}
}

// 9.1: a code but for the bound that leads far behind it.
func TestFarBehindTheBound(t *testing.T) {
	long := func(n int, first api.Instr) []api.Instr {
		l, at := []api.Instr{first}, size(first)
		for ; at < n; at++ {
			l = append(l, api.Instr{At: at})
		}
		return l
	}
	for _, to := range []int{4096, 4097, 32766, 32767} {
		refusesList(t, fmt.Sprintf("a branch to %d", to), long(40000, api.Instr{Op: 167, A: to}), api.ErrLong)
	}
	for _, to := range []int{32768, 32769, 39999, 40000, 65535, 65536} {
		noList(t, fmt.Sprintf("a branch to %d, which it does not reach", to), long(40000, api.Instr{Op: 167, A: to})...)
	}
	for _, to := range []int{4096, 32768, 65536, 99999} {
		table := api.Instr{Op: 170, A: to, Cases: []api.Case{{To: to}}}
		refusesList(t, fmt.Sprintf("a table to %d", to), long(100000, table), api.ErrLong)
		search := api.Instr{Op: 171, A: to, Cases: []api.Case{{To: to}}}
		refusesList(t, fmt.Sprintf("a search to %d", to), long(100000, search), api.ErrLong)
	}
	for _, to := range []int{100000, 100001, 1 << 31, 1 << 32} {
		noList(t, fmt.Sprintf("a table to %d", to), long(100000, api.Instr{Op: 170, Cases: []api.Case{{To: to}}})...)
		noList(t, fmt.Sprintf("a search to %d", to), long(100000, api.Instr{Op: 171, A: to})...)
	}
	l := append(nothingOf(33000), api.Instr{At: 33000, Op: 167, A: 33000 - 32768})
	refusesList(t, "a branch back as far as it reaches", l, api.ErrLong)
	l[33000].A--
	noList(t, "a branch back farther than it reaches", l...)
}

// 9.1: MaxCode bytes with tables and searches up to the end.
func TestSwitchesUpToTheEnd(t *testing.T) {
	var l []api.Instr
	end := 0
	for end < 3000 {
		_, table := tableOf(end, 250)
		_, search := searchOf(1, 2, 3)
		for _, i := range []api.Instr{table, search} {
			i.At = end
			end += size(i)
			l = append(l, i)
		}
	}
	for ; end < 4096; end++ {
		l = append(l, api.Instr{At: end})
	}
	b, e := plainEncode(l)
	is(t, "the words' own answer", e, api.OK)
	isCode(t, "MaxCode bytes of switches", b, l...)
	plainlyList(t, "a byte more", append(l, api.Instr{At: end}))
	is(t, "Falls of a table", code.Falls(l[0]), false)
}
