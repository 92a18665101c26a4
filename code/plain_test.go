package code_test

import (
	"bytes"
	"encoding/binary"
	"fmt"
	"math"
	"math/rand"
	"slices"
	"strconv"
	"strings"
	"testing"

	"larch/api"
	"larch/code"
)

// A plain reading of the chapter's words, against which the calls are held.

// The chapter's table of forms.
func formTexts() [][2]string {
	return [][2]string{
		{"none", "0 to 10, 26 to 33, 42 to 47, 50, 51, 59 to 66, 75 to 80, 83, 84, 87 to 90, 92, 95, 96, 97, 100, 101, 104, 105, 108, 109, 112, 113, 116, 117, 120 to 131, 133, 136, 145 to 148, 172, 173, 176, 177, 190, 191, 194, 195"},
		{"byte", "16"},
		{"short", "17"},
		{"small", "18, 21, 22, 25, 54, 55, 58, 188"},
		{"wide", "19, 20, 178 to 184, 187, 189, 192, 193"},
		{"count", "132"},
		{"branch", "153 to 167, 198, 199"},
		{"table", "170"},
		{"search", "171"},
	}
}

var formNames = func() map[int]string {
	names := map[int]string{}
	for _, x := range formTexts() {
		for _, s := range strings.Split(x[1], ", ") {
			first, last, ok := strings.Cut(s, " to ")
			if !ok {
				last = first
			}
			from, _ := strconv.Atoi(first)
			to, _ := strconv.Atoi(last)
			for op := from; op <= to; op++ {
				names[op] = x[0]
			}
		}
	}
	return names
}()

// formName answers the name of an Op's form, none if there is no such Op.
func formName(op int) string { return formNames[op] }

// at answers the number of k bytes at a place, without a sign and with one.
func at(b []byte, place, k int) (int, int, bool) {
	if place < 0 || place+k > len(b) {
		return 0, 0, false
	}
	switch k {
	case 1:
		return int(b[place]), int(int8(b[place])), true
	case 2:
		n := binary.BigEndian.Uint16(b[place:])
		return int(n), int(int16(n)), true
	}
	n := binary.BigEndian.Uint32(b[place:])
	return int(n), int(int32(n)), true
}

// plainSwitch answers the table or search at a place, and where it ends.
func plainSwitch(b []byte, i api.Instr) (api.Instr, int, bool) {
	place := i.At + 1
	for ; place%4 != 0; place++ {
		if place >= len(b) || b[place] != 0 {
			return i, 0, false
		}
	}
	_, far, ok := at(b, place, 4)
	count, first, yes := at(b, place+4, 4)
	if !ok || !yes {
		return i, 0, false
	}
	i.A = i.At + far
	place += 8
	if i.Op == 170 {
		_, last, ok := at(b, place, 4)
		if !ok || last < first {
			return i, 0, false
		}
		i.B, count, place = first, last-first+1, place+4
	}
	for k := range count {
		c := api.Case{Key: first + k}
		if i.Op == 171 {
			if _, c.Key, ok = at(b, place, 4); !ok || k > 0 && c.Key <= i.Cases[k-1].Key {
				return i, 0, false
			}
			place += 4
		}
		if _, far, ok = at(b, place, 4); !ok {
			return i, 0, false
		}
		c.To, place = i.At+far, place+4
		i.Cases = append(i.Cases, c)
	}
	return i, place, count <= 256
}

// plainInstr answers the instruction at a place, and where it ends.
func plainInstr(b []byte, place int) (api.Instr, int, bool) {
	i := api.Instr{At: place, Op: int(b[place])}
	u1, s1, ok1 := at(b, place+1, 1)
	u2, s2, ok2 := at(b, place+1, 2)
	switch formName(i.Op) {
	case "none":
		return i, place + 1, true
	case "byte":
		i.A = s1
		return i, place + 2, ok1
	case "small":
		i.A = u1
		return i, place + 2, ok1
	case "short":
		i.A = s2
		return i, place + 3, ok2
	case "wide":
		i.A = u2
		return i, place + 3, ok2
	case "count":
		i.A = u1
		_, i.B, _ = at(b, place+2, 1)
		return i, place + 3, ok2
	case "branch":
		i.A = place + s2
		return i, place + 3, ok2
	case "table", "search":
		return plainSwitch(b, i)
	}
	return i, 0, false
}

// plainTargets answers where an instruction leads.
func plainTargets(i api.Instr) []int {
	var l []int
	switch formName(i.Op) {
	case "branch":
		l = []int{i.A}
	case "table", "search":
		l = []int{i.A}
		for _, c := range i.Cases {
			l = append(l, c.To)
		}
	}
	return l
}

// plainInside holds if all instructions lead to where instructions begin.
func plainInside(l []api.Instr) bool {
	begins := map[int]bool{}
	for _, i := range l {
		begins[i.At] = true
	}
	for _, i := range l {
		for _, to := range plainTargets(i) {
			if !begins[to] {
				return false
			}
		}
	}
	return true
}

// plainDecode answers what Decode answers.
func plainDecode(b []byte) ([]api.Instr, api.Errno) {
	if len(b) > 4096 {
		return nil, api.ErrLong
	}
	if len(b) == 0 {
		return nil, api.ErrCode
	}
	var l []api.Instr
	for place := 0; place < len(b); {
		i, end, ok := plainInstr(b, place)
		if !ok {
			return nil, api.ErrCode
		}
		l, place = append(l, i), end
	}
	if !plainInside(l) {
		return nil, api.ErrCode
	}
	return l, api.OK
}

// within holds if n is from least to most.
func within(n, least, most int) bool { return least <= n && n <= most }

// bytesTell answers the bytes behind an Op, by the form, of an instruction whose operands fit, and whether they do.
func bytesTell(i api.Instr) ([]byte, bool) {
	far := i.A - i.At
	bare := i.B == 0 && len(i.Cases) == 0
	switch formName(i.Op) {
	case "none":
		return nil, bare && i.A == 0
	case "byte":
		return []byte{byte(i.A)}, bare && within(i.A, -128, 127)
	case "small":
		return []byte{byte(i.A)}, bare && within(i.A, 0, 255)
	case "short":
		return []byte{byte(i.A >> 8), byte(i.A)}, bare && within(i.A, -32768, 32767)
	case "wide":
		return []byte{byte(i.A >> 8), byte(i.A)}, bare && within(i.A, 0, 65535)
	case "count":
		return []byte{byte(i.A), byte(i.B)}, len(i.Cases) == 0 && within(i.A, 0, 255) && within(i.B, -128, 127)
	case "branch":
		return []byte{byte(far >> 8), byte(far)}, bare && within(far, -32768, 32767)
	case "table", "search":
		return switchTells(i)
	}
	return nil, false
}

// switchTells does so for a table and a search.
func switchTells(i api.Instr) ([]byte, bool) {
	var b []byte
	for place := i.At + 1; place%4 != 0; place++ {
		b = append(b, 0)
	}
	ok, n := len(i.Cases) <= 256, len(i.Cases)
	add := func(x int, fits bool) {
		ok = ok && fits
		b = binary.BigEndian.AppendUint32(b, uint32(x))
	}
	signed := func(x int) { add(x, within(x, math.MinInt32, math.MaxInt32)) }
	signed(i.A - i.At)
	if i.Op == 170 {
		signed(i.B)
		ok = ok && n > 0
		signed(i.B + n - 1)
	} else {
		ok = ok && i.B == 0
		add(n, within(n, 0, math.MaxUint32))
	}
	for k, c := range i.Cases {
		if i.Op == 170 {
			ok = ok && c.Key == i.B+k
		} else {
			signed(c.Key)
			ok = ok && (k == 0 || i.Cases[k-1].Key < c.Key)
		}
		signed(c.To - i.At)
	}
	return b, ok
}

// plainEncode answers what Encode answers.
func plainEncode(l []api.Instr) ([]byte, api.Errno) {
	var b []byte
	for _, i := range l {
		if i.At != len(b) {
			return nil, api.ErrCode
		}
		behind, ok := bytesTell(i)
		if !ok {
			return nil, api.ErrCode
		}
		b = append(append(b, byte(i.Op)), behind...)
	}
	switch {
	case len(l) == 0 || !plainInside(l):
		return nil, api.ErrCode
	case len(b) > 4096:
		return nil, api.ErrLong
	}
	return b, api.OK
}

// plainly asks for Decode of b and for the words' answer.
func plainly(t *testing.T, what string, b []byte) {
	t.Helper()
	want, wanted := plainDecode(b)
	got, e := code.Decode(b)
	if e != wanted || !slices.EqualFunc(got, want, sameInstr) {
		t.Errorf("%s: Decode of % x: %v, %v, want %v, %v", what, b, got, e, want, wanted)
	}
}

// plainlyList does so for Encode.
func plainlyList(t *testing.T, what string, l []api.Instr) {
	t.Helper()
	want, wanted := plainEncode(l)
	got, e := code.Encode(l)
	if e != wanted || !bytes.Equal(got, want) {
		t.Errorf("%s: Encode of %v: % x, %v, want % x, %v", what, l, got, e, want, wanted)
	}
}

// ops answers all Ops that there are, or those of one form.
func ops(form string) []int {
	var l []int
	for op := range 256 {
		if formName(op) != "" && (form == "" || formName(op) == form) {
			l = append(l, op)
		}
	}
	return l
}

// anyOperands answers an instruction of an Op, with operands that fit, but for where it leads.
func anyOperands(g *rand.Rand, op int) api.Instr {
	i := api.Instr{Op: op}
	pick := func(least, most int) int {
		return []int{least, most, least + g.Intn(most-least+1), least + g.Intn(most-least+1)}[g.Intn(4)]
	}
	switch formName(op) {
	case "byte":
		i.A = pick(-128, 127)
	case "short":
		i.A = pick(-32768, 32767)
	case "small":
		i.A = pick(0, 255)
	case "wide":
		i.A = pick(0, 65535)
	case "count":
		i.A, i.B = pick(0, 255), pick(-128, 127)
	case "table":
		n := 1 + g.Intn(5)
		i.B = pick(math.MinInt32, math.MaxInt32-n+1)
		for k := range n {
			i.Cases = append(i.Cases, api.Case{Key: i.B + k})
		}
	case "search":
		keys := map[int]bool{}
		for range g.Intn(5) {
			keys[pick(math.MinInt32, math.MaxInt32)] = true
		}
		for k := range keys {
			i.Cases = append(i.Cases, api.Case{Key: k})
		}
		slices.SortFunc(i.Cases, func(a, b api.Case) int { return a.Key - b.Key })
	}
	return i
}

// size answers how many bytes an instruction takes.
func size(i api.Instr) int {
	switch formName(i.Op) {
	case "none":
		return 1
	case "byte", "small":
		return 2
	case "table":
		return 1 + (3 - i.At%4) + 12 + 4*len(i.Cases)
	case "search":
		return 1 + (3 - i.At%4) + 8 + 8*len(i.Cases)
	}
	return 3
}

// anyInstrs answers n instructions that are a code.
func anyInstrs(g *rand.Rand, n int) []api.Instr {
	var l []api.Instr
	end := 0
	for range n {
		all := ops([]string{"", "", "none", "branch", "branch", "table", "search", "count"}[g.Intn(8)])
		i := anyOperands(g, all[g.Intn(len(all))])
		i.At = end
		end += size(i)
		l = append(l, i)
	}
	any := func() int { return l[g.Intn(n)].At }
	for k := range l {
		if len(plainTargets(l[k])) > 0 {
			l[k].A = any()
		}
		for c := range l[k].Cases {
			l[k].Cases[c].To = any()
		}
	}
	return l
}

// anyNumber answers a number near a bound of the forms, or any.
func anyNumber(g *rand.Rand) int {
	switch g.Intn(4) {
	case 0:
		return g.Intn(60) - 10
	case 1:
		return int(g.Uint64())
	}
	n := 1<<g.Intn(64) + g.Intn(3) - 1
	if g.Intn(2) == 0 {
		return -n
	}
	return n
}

// changed answers a list with something changed in it.
func changed(g *rand.Rand, l []api.Instr) []api.Instr {
	l = copied(l)
	i := &l[g.Intn(len(l))]
	number := func(n *int) {
		if g.Intn(2) == 0 {
			*n = anyNumber(g)
		} else {
			*n += g.Intn(5) - 2
		}
	}
	switch g.Intn(8) {
	case 0:
		number(&i.At)
	case 1:
		i.Op = g.Intn(256)
	case 2:
		number(&i.A)
	case 3:
		number(&i.B)
	case 4:
		i.Cases = append(i.Cases, api.Case{Key: anyNumber(g), To: l[g.Intn(len(l))].At})
	case 5:
		l = slices.Delete(l, 0, g.Intn(len(l)+1))
	case 6:
		l = l[:g.Intn(len(l)+1)]
	default:
		if len(i.Cases) > 0 {
			c := &i.Cases[g.Intn(len(i.Cases))]
			number([]*int{&c.Key, &c.To}[g.Intn(2)])
		}
	}
	return l
}

// copied answers a list in memory of its own.
func copied(l []api.Instr) []api.Instr {
	l = slices.Clone(l)
	for k := range l {
		l[k].Cases = slices.Clone(l[k].Cases)
	}
	return l
}

// 9.1: all codes of one and of two bytes, and many of three and four.
func TestShortCodes(t *testing.T) {
	few := []byte{0, 1, 2, 3, 127, 128, 253, 254, 255, 16, 153, 167, 170, 171, 177}
	for a := range 256 {
		plainly(t, "one byte", []byte{byte(a)})
		for b := range 256 {
			plainly(t, "two bytes", []byte{byte(a), byte(b)})
			for _, c := range few {
				plainly(t, "three bytes", []byte{byte(a), byte(b), c})
			}
		}
		for _, b := range few {
			for _, c := range few {
				for _, d := range few {
					plainly(t, "four bytes", []byte{byte(a), b, c, d})
				}
			}
		}
		if t.Failed() {
			return
		}
	}
}

// 9.1 and 9.4: codes, and bytes that differ from a code's in a few of them.
func TestDecodeOfAnything(t *testing.T) {
	for seed := range int64(6000) {
		g := rand.New(rand.NewSource(seed))
		b, e := plainEncode(anyInstrs(g, 1+g.Intn(12)))
		is(t, "the words' own answer", e, api.OK)
		plainly(t, fmt.Sprintf("seed %d", seed), b)
		for range 6 {
			c := slices.Clone(b)
			for range 1 + g.Intn(2) {
				c[g.Intn(len(c))] = []byte{0, 1, 4, 255, byte(g.Intn(256)), byte(g.Intn(256))}[g.Intn(6)]
			}
			plainly(t, fmt.Sprintf("seed %d, changed", seed), c)
		}
		from := g.Intn(len(b))
		plainly(t, fmt.Sprintf("seed %d, cut", seed), b[:from])
		plainly(t, fmt.Sprintf("seed %d, without its beginning", seed), b[from:])
		plainly(t, fmt.Sprintf("seed %d, with a byte more", seed), slices.Insert(slices.Clone(b), from, byte(g.Intn(256))))
		for k := range b {
			b[k] = byte(g.Intn(256))
		}
		plainly(t, fmt.Sprintf("seed %d, any bytes", seed), b)
		if t.Failed() {
			return
		}
	}
}

// 9.1: each byte of a code changed to each other one.
func TestEachByteChanged(t *testing.T) {
	for seed := range int64(15) {
		b, _ := plainEncode(anyInstrs(rand.New(rand.NewSource(seed)), 8))
		for k := range b {
			was := b[k]
			for x := range 256 {
				b[k] = byte(x)
				plainly(t, fmt.Sprintf("seed %d, byte %d", seed, k), b)
			}
			b[k] = was
		}
		if t.Failed() {
			return
		}
	}
}

// 9.1: lists that are codes, and lists that differ from these in a few members.
func TestEncodeOfAnything(t *testing.T) {
	for seed := range int64(6000) {
		g := rand.New(rand.NewSource(seed))
		l := anyInstrs(g, 1+g.Intn(12))
		plainlyList(t, fmt.Sprintf("seed %d", seed), l)
		for range 12 {
			plainlyList(t, fmt.Sprintf("seed %d, changed", seed), changed(g, l))
		}
		if t.Failed() {
			return
		}
	}
}
