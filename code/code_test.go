package code_test

import (
	"bytes"
	"fmt"
	"math"
	"slices"
	"testing"

	"larch/api"
	"larch/code"
)

func is[T comparable](t *testing.T, what string, got, want T) {
	t.Helper()
	if got != want {
		t.Errorf("%s: %v, want %v", what, got, want)
	}
}

func sameInstr(a, b api.Instr) bool {
	return a.At == b.At && a.Op == b.Op && a.A == b.A && a.B == b.B && slices.Equal(a.Cases, b.Cases)
}

func hasInstrs(t *testing.T, what string, got, want []api.Instr) {
	t.Helper()
	if !slices.EqualFunc(got, want, sameInstr) {
		t.Errorf("%s: %v, want %v", what, got, want)
	}
}

func hasBytes(t *testing.T, what string, got, want []byte) {
	t.Helper()
	if !bytes.Equal(got, want) {
		t.Errorf("%s: % x, want % x", what, got, want)
	}
}

// isCode asks for b's instructions, and for the bytes of these.
func isCode(t *testing.T, what string, b []byte, want ...api.Instr) {
	t.Helper()
	l, e := code.Decode(b)
	is(t, what+": Decode's error", e, api.OK)
	hasInstrs(t, what+": Decode", l, want)
	c, e := code.Encode(want)
	is(t, what+": Encode's error", e, api.OK)
	hasBytes(t, what+": Encode", c, b)
}

// refusesBytes asks that Decode refuses b.
func refusesBytes(t *testing.T, what string, b []byte, want api.Errno) {
	t.Helper()
	l, e := code.Decode(b)
	is(t, what+": Decode's error", e, want)
	if l != nil {
		t.Errorf("%s: Decode answers %v beside its error", what, l)
	}
}

// noCode asks that b is refused.
func noCode(t *testing.T, what string, b ...byte) {
	t.Helper()
	refusesBytes(t, what, b, api.ErrCode)
}

// refusesList asks that Encode refuses l.
func refusesList(t *testing.T, what string, l []api.Instr, want api.Errno) {
	t.Helper()
	b, e := code.Encode(l)
	is(t, what+": Encode's error", e, want)
	if b != nil {
		t.Errorf("%s: Encode answers % x beside its error", what, b)
	}
}

// noList asks that l is refused.
func noList(t *testing.T, what string, l ...api.Instr) {
	t.Helper()
	refusesList(t, what, l, api.ErrCode)
}

// four answers numbers as four bytes each, the highest first.
func four(l ...int) []byte {
	var b []byte
	for _, n := range l {
		b = append(b, byte(n>>24), byte(n>>16), byte(n>>8), byte(n))
	}
	return b
}

func joined(l ...[]byte) []byte { return bytes.Join(l, nil) }

// The chapter's examples, 9.1 and 9.2.
func TestExamples(t *testing.T) {
	isCode(t, "04 ac", []byte{0x04, 0xac}, api.Instr{Op: 4}, api.Instr{At: 1, Op: 172})
	hasInstrs(t, "Plain of 4", []api.Instr{code.Plain(api.Instr{Op: 4})}, []api.Instr{{Op: 17, A: 1}})
	isCode(t, "a7 00 00", []byte{0xa7, 0, 0}, api.Instr{Op: 167})
}

// alone answers the bytes of an instruction of an Op that there is, and that alone is a code, and the instruction.
func alone(op int) ([]byte, api.Instr) {
	i, behind := api.Instr{Op: op}, []byte(nil)
	switch formName(op) {
	case "byte":
		i.A, behind = -2, []byte{0xfe}
	case "short":
		i.A, behind = -32766, []byte{0x80, 2}
	case "small":
		i.A, behind = 200, []byte{200}
	case "wide":
		i.A, behind = 0xfedc, []byte{0xfe, 0xdc}
	case "count":
		i.A, i.B, behind = 200, -3, []byte{200, 0xfd}
	case "branch":
		behind = []byte{0, 0}
	case "table":
		i.B, i.Cases = -1, []api.Case{{Key: -1}, {Key: 0}}
		behind = joined([]byte{0, 0, 0}, four(0, -1, 0, 0, 0))
	case "search":
		i.Cases = []api.Case{{Key: -7}, {Key: 9}}
		behind = joined([]byte{0, 0, 0}, four(0, 2, -7, 0, 9, 0))
	}
	return append([]byte{byte(op)}, behind...), i
}

// 9.1: each Op, alone and with another instruction ahead of it and behind it.
func TestEachOp(t *testing.T) {
	some := 0
	for op := range 256 {
		what := fmt.Sprintf("Op %d", op)
		if formName(op) == "" {
			for n := range 30 {
				noCode(t, what, append([]byte{byte(op)}, make([]byte, n)...)...)
				noCode(t, what+" behind 0", append([]byte{0, byte(op)}, make([]byte, n)...)...)
			}
			noList(t, what, api.Instr{Op: op})
			noList(t, what+" behind 0", api.Instr{}, api.Instr{At: 1, Op: op})
			continue
		}
		some++
		b, i := alone(op)
		isCode(t, what, b, i)
		isCode(t, what+", and another", append(b, 4), i, api.Instr{At: len(b), Op: 4})
		if formName(op) != "branch" && formName(op) != "table" && formName(op) != "search" {
			i.At = 1
			isCode(t, what+", behind another", append([]byte{5}, b...), api.Instr{Op: 5}, i)
		}
	}
	is(t, "how many Ops there are", some, 130)
}

// 9.1: an instruction that is cut.
func TestCut(t *testing.T) {
	for op := range 256 {
		if formName(op) == "" {
			continue
		}
		b, _ := alone(op)
		for n := range b {
			noCode(t, fmt.Sprintf("Op %d, cut at %d", op, n), b[:n]...)
		}
	}
	for n := range 4 {
		for k, make := range []func(int) ([]byte, []api.Instr){aTable, aSearch} {
			b, l := make(n)
			for end := n + 1; end < len(b); end++ {
				noCode(t, fmt.Sprintf("Op %d at %d, cut at %d", 170+k, n, end), b[:end]...)
			}
			noList(t, fmt.Sprintf("Op %d at %d, without what it leads to", 170+k, n), l[:n+1]...)
		}
	}
}

// operandCase is an instruction's operands, and the bytes behind its Op.
type operandCase struct {
	a, b  int
	bytes []byte
}

// bounds answers the operands at their bounds, and between them, by the form.
func bounds() map[string][]operandCase {
	return map[string][]operandCase{
		"byte": {{-128, 0, []byte{0x80}}, {-1, 0, []byte{0xff}}, {0, 0, []byte{0}}, {127, 0, []byte{0x7f}}},
		"short": {
			{-32768, 0, []byte{0x80, 0}}, {-1, 0, []byte{0xff, 0xff}}, {0, 0, []byte{0, 0}}, {255, 0, []byte{0, 0xff}},
			{256, 0, []byte{1, 0}}, {32767, 0, []byte{0x7f, 0xff}},
		},
		"small": {{0, 0, []byte{0}}, {127, 0, []byte{0x7f}}, {128, 0, []byte{0x80}}, {255, 0, []byte{0xff}}},
		"wide": {
			{0, 0, []byte{0, 0}}, {255, 0, []byte{0, 0xff}}, {256, 0, []byte{1, 0}}, {32767, 0, []byte{0x7f, 0xff}},
			{32768, 0, []byte{0x80, 0}}, {65535, 0, []byte{0xff, 0xff}},
		},
		"count": {
			{0, 0, []byte{0, 0}}, {255, -128, []byte{0xff, 0x80}}, {128, 127, []byte{0x80, 0x7f}},
			{127, -1, []byte{0x7f, 0xff}}, {0, 1, []byte{0, 1}}, {1, 0, []byte{1, 0}},
		},
	}
}

// 9.1: operands at their bounds.
func TestOperands(t *testing.T) {
	for op := range 256 {
		for _, x := range bounds()[formName(op)] {
			b := append([]byte{byte(op)}, x.bytes...)
			isCode(t, fmt.Sprintf("Op %d: %v", op, x), b, api.Instr{Op: op, A: x.a, B: x.b})
		}
	}
}

// beyond answers numbers that fit no form whose numbers are from least to most.
func beyond(least, most int) []int {
	return []int{
		least - 1, most + 1, least - 256, most + 256, least - 65536, most + 65536, least - 1<<32, most + 1<<32,
		1 << 32, -1 << 32, math.MinInt, math.MaxInt, math.MinInt + 1, math.MaxInt32, math.MinInt32,
	}
}

// 9.1: operands that do not fit their form.
func TestOperandsThatDoNotFit(t *testing.T) {
	spans := map[string][2]int{
		"none": {0, 0}, "byte": {-128, 127}, "short": {-32768, 32767}, "small": {0, 255}, "wide": {0, 65535}, "count": {0, 255},
	}
	for op := range 256 {
		s, ok := spans[formName(op)]
		if !ok {
			continue
		}
		for _, n := range beyond(s[0], s[1]) {
			noList(t, fmt.Sprintf("Op %d, A %d", op, n), api.Instr{Op: op, A: n})
		}
	}
	for _, n := range beyond(-128, 127) {
		noList(t, fmt.Sprintf("132, B %d", n), api.Instr{Op: 132, A: 1, B: n})
	}
}

// 9.1: operands that the form does not name are 0, Cases empty.
func TestOperandsThatAreNotNamed(t *testing.T) {
	for op := range 256 {
		form := formName(op)
		if form == "" {
			continue
		}
		_, i := alone(op)
		for _, n := range []int{1, -1, 255, 256, 1 << 32, math.MinInt, math.MaxInt} {
			x := i
			if form == "none" {
				x.A = n
				noList(t, fmt.Sprintf("Op %d with A %d", op, n), x)
			}
			x = i
			if form != "count" && form != "table" {
				x.B = n
				noList(t, fmt.Sprintf("Op %d with B %d", op, n), x)
			}
		}
		if form != "table" && form != "search" {
			i.Cases = []api.Case{{}}
			noList(t, fmt.Sprintf("Op %d with a case", op), i)
			i.Cases = []api.Case{}
			_, e := code.Encode([]api.Instr{i})
			is(t, fmt.Sprintf("Op %d with an empty list of cases", op), e, api.OK)
		}
	}
}

// 9.1: an At that is not where the instruction begins.
func TestPlacesOfInstructions(t *testing.T) {
	l := []api.Instr{{Op: 17, A: 3}, {At: 3, Op: 87}, {At: 4, Op: 153, A: 0}, {At: 7, Op: 177}}
	isCode(t, "as it is", []byte{17, 0, 3, 87, 153, 0xff, 0xfc, 177}, l...)
	for k := range l {
		for _, d := range []int{1, -1, 4, -4, 1 << 32, math.MinInt, math.MaxInt} {
			x := slices.Clone(l)
			x[k].At += d
			noList(t, fmt.Sprintf("instruction %d moved by %d", k, d), x...)
			for n := k; n < len(x); n++ {
				x[n].At = l[n].At + d
			}
			noList(t, fmt.Sprintf("all from instruction %d on moved by %d", k, d), x...)
		}
	}
	noList(t, "in another order", l[1], l[0], l[2], l[3])
	noList(t, "all moved, with where they lead", api.Instr{At: 4, Op: 167, A: 4})
	noList(t, "a table that is moved", api.Instr{At: 4, Op: 170, A: 4, Cases: []api.Case{{To: 4}}})
}

// 9.1: an Op that there is not.
func TestOpsThatThereAreNot(t *testing.T) {
	for _, op := range []int{-1, -256, 256, 256 + 177, -256 + 177, 1<<32 + 177, -1<<32 + 177, math.MinInt, math.MaxInt, 14, 255} {
		noList(t, fmt.Sprintf("Op %d", op), api.Instr{Op: op})
		noList(t, fmt.Sprintf("Op %d between others", op), api.Instr{}, api.Instr{At: 1, Op: op}, api.Instr{At: 2})
	}
}

// 9.1: where a branch leads.
func TestBranches(t *testing.T) {
	for op := range 256 {
		if formName(op) != "branch" {
			continue
		}
		// Instructions begin at 0, 3, 4, 7 and 9; the branch is at 4; the end is at 10.
		begins := map[int]bool{0: true, 3: true, 4: true, 7: true, 9: true}
		for a := -300; a < 300; a++ {
			what := fmt.Sprintf("Op %d to %d", op, a)
			l := []api.Instr{{Op: 17, A: 1}, {At: 3}, {At: 4, Op: op, A: a}, {At: 7, Op: 16, A: 2}, {At: 9, Op: 177}}
			b := []byte{17, 0, 1, 0, byte(op), byte((a - 4) >> 8), byte(a - 4), 16, 2, 177}
			if begins[a] {
				isCode(t, what, b, l...)
			} else {
				noCode(t, what, b...)
				noList(t, what, l...)
			}
		}
		for _, a := range []int{4 + 1<<16, 4 - 1<<16, 1 << 32, -1 << 32, 4 + 1<<32, math.MinInt, math.MaxInt, math.MinInt + 4} {
			noList(t, fmt.Sprintf("Op %d to %d", op, a), api.Instr{Op: 17}, api.Instr{At: 3}, api.Instr{At: 4, Op: op, A: a})
		}
	}
}

// What is handed in is not changed; what is handed out is the caller's own.
func TestOwnMemory(t *testing.T) {
	b := joined([]byte{170, 0, 0, 0}, four(0, 5, 6, 0, 24), []byte{171, 0, 0, 0}, four(0, 1, 3, -24), []byte{177})
	was := slices.Clone(b)
	l, e := code.Decode(b)
	is(t, "Decode's error", e, api.OK)
	first, _ := code.Decode(b)
	hasBytes(t, "what was decoded", b, was)
	for n := range b {
		b[n] = 255
	}
	hasInstrs(t, "what Decode answered, once the bytes are others", l, first)
	l[0].Cases[0].To = 9
	l[0].Cases = append(l[0].Cases, api.Case{Key: 77, To: 88})
	l[1].Cases[0].Key = 99
	again, _ := code.Decode(was)
	hasInstrs(t, "Decode again", again, first)

	c, e := code.Encode(first)
	is(t, "Encode's error", e, api.OK)
	hasInstrs(t, "what was encoded", first, again)
	first[0].Cases[0].To = 12345
	hasBytes(t, "what Encode answered, once the list is another", c, was)
	c[0] = 1
	d, _ := code.Encode(again)
	hasBytes(t, "Encode again", d, was)

	for op := range 256 {
		i := api.Instr{At: 1, Op: op, A: 2, B: 3, Cases: []api.Case{{Key: 1, To: 2}, {Key: 3, To: 4}}}
		p := code.Plain(i)
		p.Cases[1].To = 5
		to := code.Targets(i)
		for n := range to {
			to[n] = 77
		}
		kept := api.Instr{At: 1, Op: op, A: 2, B: 3, Cases: []api.Case{{Key: 1, To: 2}, {Key: 3, To: 4}}}
		hasInstrs(t, fmt.Sprintf("Op %d, once its plain form is another", op), []api.Instr{i}, []api.Instr{kept})
	}
}
