package verify_test

import (
	"math/rand"
	"slices"
	"testing"

	"larch/api"
	"larch/class"
	"larch/code"
	"larch/kind"
	"larch/shape"
	"larch/verify"
)

// Tests of what follows: 12.3 to 12.5; 12.6 is with the random ones.

// leadsOn holds what Frames tells of method 0 against what may be done to it, instruction by instruction.
func leadsOn(t *testing.T, l []api.Class, c api.Class) {
	t.Helper()
	m := c.Methods[0]
	instrs, _ := code.Decode(m.Code.Bytes)
	frames, e := verify.Frames(l, c, 0)
	if e != api.OK || len(frames) != len(instrs) {
		t.Fatalf("%s: %d frames of %d instructions, %v", told(c, 0), len(frames), len(instrs), e)
	}
	at := map[int]api.Frame{}
	for n, i := range instrs {
		at[i.At] = frames[n]
	}
	_, back, _ := kind.Method(m.Type)
	first, _ := shape.Begin(c, m)
	if !shape.May(l, first, frames[0]) {
		t.Fatalf("%s: it begins with %v, which may not stand for %v", told(c, 0), first, frames[0])
	}
	for n, i := range instrs {
		if len(frames[n].Locals) != m.Code.Locals || shape.Words(frames[n]) > m.Code.Stack || slices.Contains(frames[n].Stack, of(api.KTop)) {
			t.Fatalf("%s: %v ahead of %d", told(c, 0), frames[n], i.At)
		}
		f, e := shape.Step(l, c, back, i, frames[n], m.Code.Stack)
		if e != api.OK {
			t.Fatalf("%s: %v may not be done to %v", told(c, 0), i, frames[n])
		}
		places := code.Targets(i)
		if code.Falls(i) {
			places = append(places, i.At+sizeOf(i, i.At))
		}
		for _, to := range places {
			if g, ok := at[to]; !ok || !shape.May(l, f, g) {
				t.Fatalf("%s: %d leads to %d with %v, which may not stand for %v", told(c, 0), i.At, to, f, g)
			}
		}
		for _, h := range m.Code.Handlers {
			if i.At < h.From || i.At >= h.To {
				continue
			}
			name := "Throwable"
			if h.Class != 0 {
				name = c.Pool[c.Pool[h.Class].A].Text
			}
			thrown := api.Frame{Locals: frames[n].Locals, Stack: []api.Type{ref(name)}}
			if g, ok := at[h.At]; !ok || !shape.May(l, thrown, g) {
				t.Fatalf("%s: %d throws to %d with %v, which may not stand for %v", told(c, 0), i.At, h.At, thrown, g)
			}
		}
	}
}

// 12.3
func TestFramesLeadOn(t *testing.T) {
	t.Parallel()
	soundOnes(t, 123, 2000, true, func(r *rand.Rand, c api.Class) { leadsOn(t, family(), c) })
	bentOnes := 0
	soundOnes(t, 1233, 800, true, func(r *rand.Rand, c api.Class) {
		for range 4 {
			own := class.Copy(c)
			bend(r, &own)
			if _, e := verify.Method(family(), own, 0); e == api.OK {
				leadsOn(t, family(), own)
				bentOnes++
			}
		}
	})
	if bentOnes < 500 {
		t.Errorf("just %d that were changed are sound", bentOnes)
	}
}

// 12.4
func TestNoMapsAreNeeded(t *testing.T) {
	t.Parallel()
	soundOnes(t, 124, 3000, false, func(r *rand.Rand, c api.Class) {
		if d := c.Methods[0].Code; len(d.Maps) != 0 || len(d.Handlers) != 0 {
			t.Fatalf("%s has maps", told(c, 0))
		}
		leadsOn(t, family(), c)
	})
}

// 12.4: also without the text of maps in the pool.
func TestNoMapsAtAll(t *testing.T) {
	c := api.Class{Name: "a", Pool: []api.Entry{{}}}
	put(&c, "class a")
	putTexts(&c, "Code", "m", "(IJ)J")
	c.Methods = []api.Method{{Access: api.AStatic, Name: "m", Type: "(IJ)J", Code: api.Code{Stack: 4, Locals: 3, Bytes: []byte{0x1a, 0x85, 0x1f, 0x61, 0xad}}}}
	if n, e := asks(t, nil, c, 0); n != 5 || e != api.OK {
		t.Errorf("%d %v", n, e)
	}
}

// staysSound holds a sound method against the same one with a map more that is just the frame there, at each of its places, and
// at all of them.
func staysSound(t *testing.T, c api.Class) int {
	t.Helper()
	instrs, _ := code.Decode(c.Methods[0].Code.Bytes)
	frames, _ := verify.Frames(family(), c, 0)
	more := 0
	all := class.Copy(c)
	for n, i := range instrs {
		if slices.ContainsFunc(c.Methods[0].Code.Maps, func(m api.Map) bool { return m.At == i.At }) {
			continue
		}
		more++
		m := api.Map{At: i.At, Locals: frames[n].Locals, Stack: frames[n].Stack}
		own := class.Copy(c)
		putMap(&own, 0, m)
		putMap(&all, 0, m)
		again, e := verify.Frames(family(), own, 0)
		if e != api.OK || !sameFrames(again, frames) {
			t.Fatalf("%s with a map at %d: %v", told(c, 0), i.At, e)
		}
	}
	again, e := verify.Frames(family(), all, 0)
	if e != api.OK || !sameFrames(again, frames) {
		t.Fatalf("%s with maps everywhere: %v", told(c, 0), e)
	}
	return more
}

// 12.5
func TestWithMapsMore(t *testing.T) {
	t.Parallel()
	more := 0
	soundOnes(t, 125, 600, true, func(r *rand.Rand, c api.Class) { more += staysSound(t, c) })
	soundOnes(t, 1255, 300, false, func(r *rand.Rand, c api.Class) { more += staysSound(t, c) })
	if more < 4000 {
		t.Errorf("just %d maps more", more)
	}
}
