package frame_test

import (
	"bytes"
	"fmt"
	"math/rand"
	"slices"
	"strings"
	"testing"

	"larch/api"
	"larch/frame"
)

// some answers a list of records, the same one for each seed, none with an epoch below that of the one ahead of it.
func some(seed int64) []api.Record {
	g := rand.New(rand.NewSource(seed))
	l := make([]api.Record, g.Intn(7))
	epoch := g.Intn(3)
	for i := range l {
		data := make([]byte, g.Intn(20)*g.Intn(2))
		for k := range data {
			data[k] = byte(g.Intn(256))
		}
		l[i] = rec(epoch, string(data))
		epoch += g.Intn(3) * g.Intn(1<<29)
	}
	return l
}

// nones answers bytes that no record begins with, behind records up to epoch.
func nones(epoch int) [][]byte {
	cut := bytesOf(rec(epoch, "cut"))
	wrong := bytesOf(rec(epoch, "wrong"))
	wrong[9] ^= 4
	l := [][]byte{
		nil, {0}, make([]byte, 7), make([]byte, 12), make([]byte, 256), bytes.Repeat([]byte{0xff}, 50),
		cut[:len(cut)-1], cut[:8], wrong, append(wrong[:len(wrong):len(wrong)], bytesOf(rec(epoch, "good"))...),
		plain(most+1, uint32(epoch), strings.Repeat("x", most+1)),
	}
	if epoch > 0 {
		l = append(l, bytesOf(rec(epoch-1, "elder")), append(bytesOf(rec(0, "")), bytesOf(rec(epoch, "good"))...))
	}
	return l
}

// lastEpoch answers the epoch that the next record may not fall below.
func lastEpoch(l []api.Record) int {
	if len(l) == 0 {
		return 0
	}
	return l[len(l)-1].Epoch
}

// 3.3.
func TestRecordsComeBack(t *testing.T) {
	for seed := range int64(300) {
		l := some(seed)
		b, e := frame.All(l...)
		is(t, "All", e, api.OK)
		for _, behind := range nones(lastEpoch(l)) {
			scans(t, append(b[:len(b):len(b)], behind...), l, len(b))
		}
	}
}

// 3.3: going on by First finds the same ones, and sizes add up.
func TestFirstByFirst(t *testing.T) {
	for seed := range int64(100) {
		l := some(seed)
		b, _ := frame.All(l...)
		for _, r := range l {
			got, n, e := frame.First(b)
			is(t, "First", e, api.OK)
			isRecord(t, "its record", got, r)
			is(t, "how many bytes", n, frame.Size(r))
			b = b[n:]
		}
		is(t, "what is left", len(b), 0)
	}
}

// 3.4: in every place but the number's, by whatever it differs.
func TestATurnedByteIsFound(t *testing.T) {
	for _, r := range []api.Record{rec(0, ""), rec(1, "ab"), rec(1<<32-1, "\x00\x00\x00\x00"), rec(300, strings.Repeat("y", 60))} {
		good := bytesOf(r)
		next := bytesOf(rec(1<<32-1, "next"))
		for at := 4; at < len(good); at++ {
			for d := 1; d < 256; d++ {
				b := append(bytes.Clone(good), next...)
				b[at] ^= byte(d)
				noFirst(t, b[:len(good)], api.ErrFrame)
				noFirst(t, b, api.ErrFrame)
				scans(t, b, nil, 0)
			}
		}
	}
	good := bytesOf(rec(9, strings.Repeat("z", most)))
	for at := 4; at < len(good); at += 97 {
		b := bytes.Clone(good)
		b[at] ^= 0x80
		noFirst(t, b, api.ErrFrame)
	}
}

// 3.4: wherever it stands among others, those ahead of it stay and those behind it are gone.
func TestATurnedByteEndsTheRecords(t *testing.T) {
	l := []api.Record{rec(1, "ab"), rec(1, ""), rec(3, "cdefg"), rec(4, "h")}
	b := put(l...)
	begin := 0
	for i, r := range l {
		end := begin + frame.Size(r)
		for at := begin + 4; at < end; at++ {
			for bit := range 8 {
				x := bytes.Clone(b)
				x[at] ^= 1 << bit
				scans(t, x, l[:i], begin)
			}
		}
		begin = end
	}
}

// Beyond 3.4: a turned byte of a number makes no other record of these, since nothing fits.
func TestATurnedNumber(t *testing.T) {
	b := bytesOf(rec(1, "ab"))
	for at := range 4 {
		for d := 1; d < 256; d++ {
			x := bytes.Clone(b)
			x[at] ^= byte(d)
			n := int(x[0])<<24 | int(x[1])<<16 | int(x[2])<<8 | int(x[3])
			want := api.ErrShort
			if n > most || n < 2 {
				want = api.ErrFrame
			}
			noFirst(t, x, want)
			scans(t, x, nil, 0)
		}
	}
}

// 3.5: cut at every place, the records are those that are whole.
func TestCutAnywhere(t *testing.T) {
	lists := [][]api.Record{{rec(1, "ab"), rec(1, ""), rec(3, "c"), rec(3, ""), rec(1<<32-1, "last")}}
	for seed := range int64(60) {
		lists = append(lists, some(seed))
	}
	for _, l := range lists {
		b, _ := frame.All(l...)
		whole, size := 0, 0
		for n := range len(b) + 1 {
			for whole < len(l) && size+frame.Size(l[whole]) <= n {
				size += frame.Size(l[whole])
				whole++
			}
			scans(t, b[:n], l[:whole], size)
			// What lies behind the cut in memory is not read.
			scans(t, bytes.Clone(b[:n]), l[:whole], size)
		}
		is(t, "all of them", whole, len(l))
	}
}

// 3.5: bytes of any kind, cut anywhere, have the first few of their records.
func TestCutAnywhereWithOthersBehind(t *testing.T) {
	l := []api.Record{rec(2, "ab"), rec(5, "c"), rec(5, "")}
	for _, behind := range nones(5) {
		if len(behind) > 300 {
			continue
		}
		b := append(put(l...), behind...)
		all, taken := frame.Scan(b)
		for n := range len(b) + 1 {
			front, size := frame.Scan(b[:n])
			is(t, fmt.Sprintf("the first few of %d bytes", n), slices.Equal(front, all[:len(front)]), true)
			is(t, "no more bytes than there are", size <= min(n, taken), true)
		}
	}
}

// 3.6: wherever the elder one stands, and whatever follows it.
func TestAnElderEpochEndsTheRecords(t *testing.T) {
	for seed := range int64(200) {
		l := some(seed)
		for i := 1; i <= len(l); i++ {
			newer := l[i-1].Epoch
			for _, elder := range []int{0, newer / 2, newer - 1} {
				if elder < 0 || elder >= newer {
					continue
				}
				mixed := slices.Insert(slices.Clone(l), i, rec(elder, "elder"))
				b, e := frame.All(mixed...)
				is(t, "All", e, api.OK)
				scans(t, b, l[:i], len(put(l[:i]...)))
			}
		}
	}
}

// 3.6: just one epoch counts, that of the one ahead: each one that does not fall goes on.
func TestEpochsInEveryOrder(t *testing.T) {
	for code := range 4 * 4 * 4 * 4 {
		var l []api.Record
		for k := range 4 {
			l = append(l, rec(code>>(2*k)&3, string(rune('a'+k))))
		}
		want := 1
		for want < len(l) && l[want].Epoch >= l[want-1].Epoch {
			want++
		}
		b, _ := frame.All(l...)
		scans(t, b, l[:want], want*13)
	}
}

// P1: bytes of any kind neither panic nor make what can't be written again.
func TestBytesOfAnyKind(t *testing.T) {
	g := rand.New(rand.NewSource(1))
	for range 20000 {
		b := put(some(int64(g.Intn(50)))...)
		for range g.Intn(4) {
			if len(b) > 0 {
				b[g.Intn(len(b))] = byte(g.Intn(256))
			}
		}
		if len(b) > 0 && g.Intn(2) == 0 {
			b = b[g.Intn(len(b)):]
		}
		l, n := frame.Scan(b)
		again, e := frame.All(l...)
		is(t, "All of what was found", e, api.OK)
		hasBytes(t, "All of what was found", again, b[:n])
		r, size, e := frame.First(b)
		is(t, "First finds one where Scan does", e == api.OK, len(l) > 0)
		if e == api.OK {
			isRecord(t, "the same one", r, l[0])
			is(t, "as many bytes", size, frame.Size(r))
		}
	}
}
