package code_test

import (
	"fmt"
	"math/rand"
	"testing"

	"larch/api"
	"larch/code"
)

// 9.3: what Encode tells is decoded to the same list, and what Decode reads is encoded to the same bytes.
func TestThereAndBack(t *testing.T) {
	for seed := range int64(4000) {
		g := rand.New(rand.NewSource(seed))
		what := fmt.Sprintf("seed %d", seed)
		l := anyInstrs(g, 1+g.Intn(30))
		kept := copied(l)
		b, e := code.Encode(l)
		is(t, what+": Encode's error", e, api.OK)
		hasInstrs(t, what+": the list", l, kept)
		back, e := code.Decode(b)
		is(t, what+": Decode's error", e, api.OK)
		hasInstrs(t, what+": there and back", back, l)
		c, e := code.Encode(back)
		is(t, what+": Encode's error of what was read", e, api.OK)
		hasBytes(t, what+": and there again", c, b)
		if t.Failed() {
			return
		}
	}
}

// 9.3 and 9.4: whatever the bytes, they are refused, or their instructions have just these bytes.
func TestWhateverTheBytes(t *testing.T) {
	codes := 0
	for seed := range int64(30000) {
		g := rand.New(rand.NewSource(seed))
		b := make([]byte, 1+g.Intn(40))
		all := ops([]string{"none", "", "table", "search"}[g.Intn(4)])
		for k := range b {
			b[k] = byte([]int{0, 0, g.Intn(20), g.Intn(256), all[g.Intn(len(all))], all[g.Intn(len(all))]}[g.Intn(6)])
		}
		l, e := code.Decode(b)
		if e != api.OK {
			refusesBytes(t, fmt.Sprintf("seed %d", seed), b, api.ErrCode)
			continue
		}
		codes++
		c, e := code.Encode(l)
		is(t, fmt.Sprintf("seed %d: Encode's error", seed), e, api.OK)
		hasBytes(t, fmt.Sprintf("seed %d", seed), c, b)
	}
	if codes < 1000 {
		t.Errorf("just %d codes among all these bytes", codes)
	}
}

// 9.3: whatever the list, it is refused, or its bytes have just these instructions.
func TestWhateverTheList(t *testing.T) {
	codes := 0
	for seed := range int64(10000) {
		g := rand.New(rand.NewSource(seed))
		l := changed(g, anyInstrs(g, 1+g.Intn(6)))
		b, e := code.Encode(l)
		if e != api.OK {
			refusesList(t, fmt.Sprintf("seed %d", seed), l, api.ErrCode)
			continue
		}
		codes++
		back, e := code.Decode(b)
		is(t, fmt.Sprintf("seed %d: Decode's error", seed), e, api.OK)
		hasInstrs(t, fmt.Sprintf("seed %d", seed), back, l)
	}
	if codes < 1000 {
		t.Errorf("just %d codes among all these lists", codes)
	}
}

// leadsOut holds if one of the instructions leads to the place, or behind it.
func leadsOut(l []api.Instr, end int) bool {
	for _, i := range l {
		for _, to := range code.Targets(i) {
			if to >= end {
				return true
			}
		}
	}
	return false
}

// 9.5: a code's beginnings.
func TestBeginnings(t *testing.T) {
	whole, cut := 0, 0
	for seed := range int64(3000) {
		g := rand.New(rand.NewSource(seed))
		l := anyInstrs(g, 1+g.Intn(12))
		for k := range l {
			// Most lead back, so that beginnings are codes often.
			if g.Intn(5) > 0 && len(plainTargets(l[k])) > 0 {
				l[k].A = l[g.Intn(k+1)].At
				for c := range l[k].Cases {
					l[k].Cases[c].To = l[g.Intn(k+1)].At
				}
			}
		}
		b, e := code.Encode(l)
		is(t, fmt.Sprintf("seed %d: Encode's error", seed), e, api.OK)
		for k := 1; k < len(l); k++ {
			end := l[k].At
			what := fmt.Sprintf("seed %d, cut at %d", seed, end)
			if leadsOut(l[:k], end) {
				cut++
				noCode(t, what, b[:end]...)
				noList(t, what, l[:k]...)
			} else {
				whole++
				isCode(t, what, b[:end], l[:k]...)
			}
		}
		if t.Failed() {
			return
		}
	}
	if whole < 1000 || cut < 1000 {
		t.Errorf("just %d beginnings that are codes, and %d that are none", whole, cut)
	}
}

// 9.5: a beginning of a code by hand, with a branch that leads out of it and one that does not.
func TestBeginningsByHand(t *testing.T) {
	b := []byte{3, 153, 0, 6, 167, 0xff, 0xfc, 5, 172}
	isCode(t, "all of it", b, api.Instr{Op: 3}, api.Instr{At: 1, Op: 153, A: 7}, api.Instr{At: 4, Op: 167},
		api.Instr{At: 7, Op: 5}, api.Instr{At: 8, Op: 172})
	isCode(t, "up to 1", b[:1], api.Instr{Op: 3})
	noCode(t, "up to 4, with a branch to 7", b[:4]...)
	noCode(t, "up to 7, with a branch to 7", b[:7]...)
	isCode(t, "up to 8", b[:8], api.Instr{Op: 3}, api.Instr{At: 1, Op: 153, A: 7}, api.Instr{At: 4, Op: 167}, api.Instr{At: 7, Op: 5})
	noCode(t, "up to 0, which is no code's length")
}
