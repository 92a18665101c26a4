package pool_test

import (
	"fmt"
	"math/rand"
	"testing"

	"larch/api"
	"larch/pool"
	"larch/word"
)

// 7.1 against a plain reading of its words: right pools, and such with one or two changes.
func TestCheckOfAllPools(t *testing.T) {
	right := 0
	for seed := range int64(20000) {
		g := rand.New(rand.NewSource(seed))
		l := anyPool(g, 20)
		is(t, fmt.Sprintf("seed %d: Check of a right pool", seed), pool.Check(l), api.OK)
		for range 1 + g.Intn(2) {
			l = spoiled(g, l)
			if len(l) == 0 {
				break
			}
		}
		want := api.ErrPool
		if plainRight(l) {
			want = api.OK
			right++
		}
		given := l.clone()
		is(t, fmt.Sprintf("seed %d: Check(%v)", seed, l), pool.Check(l), want)
		hasPool(t, "what was handed in", l, given)
		if t.Failed() {
			return
		}
	}
	is(t, "some of those that were changed are right", right > 1000, true)
	is(t, "some of those that were changed are not", right < 19000, true)
}

// 7.1 against a plain reading of its words: bytes of pools with changes.
func TestReadOfAllBytes(t *testing.T) {
	seen := map[api.Errno]int{}
	for seed := range int64(20000) {
		g := rand.New(rand.NewSource(seed))
		b := spoiledBytes(g, raw(anyPool(g, 12)))
		ahead := g.Intn(5)
		r := word.Read(append(make([]byte, ahead), b...))
		r.Bytes(ahead)
		want, size, wanted := plainRead(b)
		got, e := pool.Read(r)
		what := fmt.Sprintf("seed %d: Read of %.200x", seed, b)
		is(t, what+": its error", e, wanted)
		hasPool(t, what, got, want)
		stands(t, what, r, ahead+size, len(b)-size)
		seen[e]++
		if t.Failed() {
			return
		}
	}
	for _, e := range []api.Errno{api.OK, api.ErrShort, api.ErrPool} {
		is(t, fmt.Sprintf("some answered %v", e), seen[e] > 1000, true)
	}
}

// 7.4: what is written is read, and nothing is left.
func TestReadOfWrite(t *testing.T) {
	for seed := range int64(5000) {
		g := rand.New(rand.NewSource(seed))
		l, next := anyPool(g, 40), anyPool(g, 10)
		w := word.Make()
		is(t, "Write", pool.Write(w, l), api.OK)
		is(t, "Write of the next", pool.Write(w, next), api.OK)
		hasBytes(t, "their bytes", w.All(), append(raw(l), raw(next)...))
		r := word.Read(w.All())
		reads(t, fmt.Sprintf("seed %d: Read", seed), r, l)
		reads(t, fmt.Sprintf("seed %d: Read of the next", seed), r, next)
		is(t, "Left", r.Left(), 0)
		if t.Failed() {
			return
		}
	}
}

// 7.4: what is read is written as it was.
func TestWriteOfRead(t *testing.T) {
	for seed := range int64(10000) {
		g := rand.New(rand.NewSource(seed))
		b := spoiledBytes(g, raw(anyPool(g, 12)))
		r := word.Read(b)
		l, e := pool.Read(r)
		if e != api.OK {
			continue
		}
		w := word.Make()
		is(t, fmt.Sprintf("seed %d: Write", seed), pool.Write(w, l), api.OK)
		hasBytes(t, fmt.Sprintf("seed %d: Write of Read", seed), w.All(), b[:r.At()])
	}
}

// 7.2 against a plain reading of its words.
func TestTextAndConstOfAllPools(t *testing.T) {
	for seed := range int64(1000) {
		l := anyPool(rand.New(rand.NewSource(seed)), 30)
		for i := -2; i < len(l)+2; i++ {
			s, e := plainText(l, i)
			hasText(t, l, i, s, e)
			c, e := plainConst(l, i)
			hasConst(t, l, i, c, e)
		}
		if t.Failed() {
			return
		}
	}
}

// 7.3, 7.5 and 7.6: constants are put one behind the other into any pool.
func TestPutIntoAllPools(t *testing.T) {
	for seed := range int64(2000) {
		g := rand.New(rand.NewSource(seed))
		l := anyPool(g, 30)
		for range 12 {
			c := anyConst(g)
			if have, e := plainConst(l, g.Intn(len(l))); e == api.OK && g.Intn(3) == 0 {
				c = have
			}
			l = putOne(t, l, c)
			if t.Failed() {
				t.Logf("seed %d", seed)
				return
			}
		}
	}
}

// putOne puts c, and asks for all that follows from it.
func putOne(t *testing.T, l poolOf, c api.Const) poolOf {
	t.Helper()
	what := fmt.Sprintf("Put(%v, %v)", l, c)
	want, wanted, _ := plainPut(l, c)
	got, i, e := pool.Put(l, c)
	is(t, what+": its error", e, api.OK)
	is(t, what+": the number", i, wanted)
	hasPool(t, what, got, want)
	is(t, what+": Check", pool.Check(got), api.OK)
	hasConst(t, got, i, c, api.OK)
	hasPool(t, what+": what was there", got[:min(len(got), len(l))], l)
	again, j, e := pool.Put(got, c)
	is(t, what+", again: its error", e, api.OK)
	is(t, what+", again: the number", j, i)
	hasPool(t, what+", again", again, got)
	return got
}

// 7.3 and 7.6: a pool is filled till nothing more goes in; what is there is found still.
func TestPutTillItIsFull(t *testing.T) {
	for seed := range int64(6) {
		g := rand.New(rand.NewSource(seed))
		l, refused := of(), 0
		put := map[api.Const]int{}
		for refused < 20 {
			c := anyConst(g)
			want, wanted, e := plainPut(l, c)
			if e == api.ErrLong {
				putsNone(t, l, c, api.ErrLong)
				refused++
				continue
			}
			put[c] = wanted
			puts(t, l, c, wanted, want[len(l):]...)
			l = want
			if t.Failed() {
				return
			}
		}
		is(t, "how many entries there are: near MaxPool", len(l) > api.MaxPool-8, true)
		for c, i := range put {
			puts(t, l, c, i)
			hasConst(t, l, i, c, api.OK)
		}
	}
}
