package frame_test

import (
	"bytes"
	"encoding/binary"
	"fmt"
	"hash/crc32"
	"math"
	"slices"
	"strings"
	"testing"

	"larch/api"
	"larch/frame"
)

const most = api.MaxRecord

var castagnoli = crc32.MakeTable(crc32.Castagnoli)

// plain is what stands ahead of a record's sum, with whatever numbers, and its sum, by the chapter's words.
func plain(count, epoch uint32, data string) []byte {
	b := binary.BigEndian.AppendUint32(nil, count)
	b = binary.BigEndian.AppendUint32(b, epoch)
	b = append(b, data...)
	return binary.BigEndian.AppendUint32(b, crc32.Checksum(b, castagnoli))
}

// bytesOf is a record's bytes, by the chapter's words.
func bytesOf(r api.Record) []byte {
	return plain(uint32(len(r.Data)), uint32(r.Epoch), r.Data)
}

// put is the bytes of records, one behind the other.
func put(l ...api.Record) []byte {
	var b []byte
	for _, r := range l {
		b = append(b, bytesOf(r)...)
	}
	return b
}

func rec(epoch int, data string) api.Record { return api.Record{Epoch: epoch, Data: data} }

func is(t *testing.T, what string, got, want any) {
	t.Helper()
	if got != want {
		t.Errorf("%s: %v, want %v", what, got, want)
	}
}

func isRecord(t *testing.T, what string, got, want api.Record) {
	t.Helper()
	if got != want {
		t.Errorf("%s: {%d %.80q}, want {%d %.80q}", what, got.Epoch, got.Data, want.Epoch, want.Data)
	}
}

func hasBytes(t *testing.T, what string, got, want []byte) {
	t.Helper()
	if !bytes.Equal(got, want) {
		t.Errorf("%s: %.80x, want %.80x", what, got, want)
	}
}

// short tells a few of the bytes.
func short(b []byte) string {
	if len(b) > 24 {
		return fmt.Sprintf("%d bytes %x..", len(b), b[:24])
	}
	return fmt.Sprintf("%x", b)
}

// writes asks for Write and All of one record, and for its Size.
func writes(t *testing.T, r api.Record, want []byte) {
	t.Helper()
	what := fmt.Sprintf("{%d, %d bytes}", r.Epoch, len(r.Data))
	b, e := frame.Write(r)
	is(t, "Write"+what, e, api.OK)
	hasBytes(t, "Write"+what, b, want)
	is(t, "Size"+what, frame.Size(r), len(want))
	b, e = frame.All(r)
	is(t, "All"+what, e, api.OK)
	hasBytes(t, "All"+what, b, want)
}

// refuses asks for Write and All of one record, and for its Size, with nothing beside the error.
func refuses(t *testing.T, r api.Record, want api.Errno) {
	t.Helper()
	what := fmt.Sprintf("{%d, %d bytes}", r.Epoch, len(r.Data))
	b, e := frame.Write(r)
	is(t, "Write"+what, e, want)
	is(t, "bytes of Write"+what, len(b), 0)
	is(t, "Size"+what, frame.Size(r), 0)
	b, e = frame.All(r)
	is(t, "All"+what, e, want)
	is(t, "bytes of All"+what, len(b), 0)
}

// firstIs asks for a record that b begins with.
func firstIs(t *testing.T, b []byte, want api.Record, size int) {
	t.Helper()
	r, n, e := frame.First(b)
	is(t, "First "+short(b), e, api.OK)
	isRecord(t, "record of First "+short(b), r, want)
	is(t, "size of First "+short(b), n, size)
}

// noFirst asks for an error, and nothing beside it.
func noFirst(t *testing.T, b []byte, want api.Errno) {
	t.Helper()
	r, n, e := frame.First(b)
	is(t, "First "+short(b), e, want)
	isRecord(t, "record of First "+short(b), r, api.Record{})
	is(t, "size of First "+short(b), n, 0)
}

// scans asks for these records, and for how many bytes they take.
func scans(t *testing.T, b []byte, want []api.Record, size int) {
	t.Helper()
	l, n := frame.Scan(b)
	if !slices.Equal(l, want) {
		t.Errorf("Scan %s: %.200q, want %.200q", short(b), fmt.Sprint(l), fmt.Sprint(want))
	}
	is(t, "size of Scan "+short(b), n, size)
}

// Example 1.
func TestExample(t *testing.T) {
	b, e := frame.Write(rec(1, "ab"))
	is(t, "Write", e, api.OK)
	is(t, "how many bytes", len(b), 14)
	hasBytes(t, "all but the sum", b[:10], []byte{0, 0, 0, 2, 0, 0, 0, 1, 0x61, 0x62})
	is(t, "its sum", binary.BigEndian.Uint32(b[10:]), crc32.Checksum(b[:10], castagnoli))
	is(t, "Size", frame.Size(rec(1, "ab")), 14)
	firstIs(t, b, rec(1, "ab"), 14)
}

// 3.1, Limits: none, one, and up to MaxRecord bytes.
func TestWriteOfAnyLength(t *testing.T) {
	hasBytes(t, "no bytes", bytesOf(rec(0, ""))[:8], make([]byte, 8))
	for _, n := range []int{0, 1, 2, 3, 4, 255, 256, 257, 4095, most} {
		r := rec(3, strings.Repeat("x", n))
		want := bytesOf(r)
		is(t, "how many bytes", len(want), n+12)
		writes(t, r, want)
		firstIs(t, want, r, n+12)
	}
	for _, n := range []int{most + 1, most + 2, 2 * most, 1 << 16, 1 << 20} {
		refuses(t, rec(3, strings.Repeat("x", n)), api.ErrLong)
	}
}

// 3.1: whatever the bytes are, texts or none.
func TestWriteOfAnyBytes(t *testing.T) {
	for v := range 256 {
		r := rec(v, string([]byte{byte(v), byte(255 - v), byte(v)}))
		writes(t, r, bytesOf(r))
		firstIs(t, bytesOf(r), r, 15)
	}
	for _, s := range []string{"\x00", "\xff\xfe", "ä", "\xc3", strings.Repeat("\x00", 12), strings.Repeat("\xff", most)} {
		r := rec(9, s)
		writes(t, r, bytesOf(r))
		firstIs(t, bytesOf(r), r, len(s)+12)
	}
}

// 3.1, Words: epochs from 0 to 2^32 - 1.
func TestEpochs(t *testing.T) {
	const top = 1<<32 - 1
	for _, n := range []int{0, 1, 255, 256, 65535, 65536, 0x01020304, 1<<31 - 1, 1 << 31, top - 1, top} {
		for _, s := range []string{"", "ab", strings.Repeat("z", most)} {
			r := rec(n, s)
			writes(t, r, bytesOf(r))
			firstIs(t, bytesOf(r), r, len(s)+12)
			scans(t, bytesOf(r), []api.Record{r}, len(s)+12)
		}
	}
	b, _ := frame.Write(rec(0x01020304, ""))
	hasBytes(t, "the highest byte first", b[4:8], []byte{1, 2, 3, 4})
	for _, n := range []int{-1, -2, math.MinInt, top + 1, top + 2, 1 << 33, 1<<32 + 1<<31, math.MaxInt} {
		refuses(t, rec(n, ""), api.ErrArg)
		refuses(t, rec(n, "ab"), api.ErrArg)
		refuses(t, rec(n, strings.Repeat("x", most)), api.ErrArg)
		// Both refusals at once: the promise names ErrArg first.
		refuses(t, rec(n, strings.Repeat("x", most+1)), api.ErrArg)
	}
	refuses(t, rec(0, strings.Repeat("x", most+1)), api.ErrLong)
	refuses(t, rec(top, strings.Repeat("x", most+1)), api.ErrLong)
}

// 3.1: fewer than eight bytes, whatever they are.
func TestFirstOfFewBytes(t *testing.T) {
	noFirst(t, nil, api.ErrShort)
	noFirst(t, []byte{}, api.ErrShort)
	for n := range 8 {
		noFirst(t, make([]byte, n), api.ErrShort)
		noFirst(t, bytes.Repeat([]byte{0xff}, n), api.ErrShort)
		noFirst(t, bytesOf(rec(1, "abc"))[:n], api.ErrShort)
		noFirst(t, bytesOf(rec(1, strings.Repeat("x", most)))[:n], api.ErrShort)
	}
}

// 3.1: bytes that end within a record's, even where what is there can't be right.
func TestFirstOfBytesThatEndEarly(t *testing.T) {
	for _, s := range []string{"", "a", "ab", "abcdefgh", strings.Repeat("x", most)} {
		whole := bytesOf(rec(7, s))
		for n := range whole {
			noFirst(t, whole[:n], api.ErrShort)
		}
		firstIs(t, whole, rec(7, s), len(whole))
	}
	noFirst(t, plain(most, 0, "")[:8], api.ErrShort)
	noFirst(t, plain(3, 0, "ab"), api.ErrShort)
	noFirst(t, plain(most, 0, strings.Repeat("x", most-1)), api.ErrShort)
}

// 3.1: a number above MaxRecord, whether as many bytes are there or not, even if the sum is right.
func TestFirstOfNumbersAboveTheBound(t *testing.T) {
	for _, n := range []uint32{most + 1, most + 2, 1 << 16, 1 << 24, 1<<31 - 1, 1 << 31, 1<<32 - 13, 1<<32 - 12, 1<<32 - 1} {
		b := binary.BigEndian.AppendUint32(nil, n)
		b = append(b, 0, 0, 0, 1)
		noFirst(t, b, api.ErrFrame)
		noFirst(t, append(b, 1, 2, 3, 4), api.ErrFrame)
		noFirst(t, append(b, make([]byte, 3*most)...), api.ErrFrame)
		noFirst(t, plain(n, 1, ""), api.ErrFrame)
	}
	noFirst(t, plain(most+1, 1, strings.Repeat("x", most+1)), api.ErrFrame)
	noFirst(t, plain(most+4, 1, strings.Repeat("x", most+4)), api.ErrFrame)
	noFirst(t, plain(1<<16, 1, strings.Repeat("x", 1<<16)), api.ErrFrame)
	firstIs(t, plain(most, 1, strings.Repeat("x", most)), rec(1, strings.Repeat("x", most)), most+12)
}

// 3.1: sums that are not right.
func TestFirstOfWrongSums(t *testing.T) {
	noFirst(t, make([]byte, 12), api.ErrFrame)
	noFirst(t, make([]byte, 300), api.ErrFrame)
	noFirst(t, []byte{0, 0, 0, 2, 0, 0, 0, 1, 0x61, 0x62, 0, 0, 0, 0}, api.ErrFrame)
	good := bytesOf(rec(1, "ab"))
	back := bytes.Clone(good)
	slices.Reverse(back[10:])
	noFirst(t, back, api.ErrFrame)
	// The sum of the bytes alone, or of all but the number, is not the sum of all these.
	for _, from := range []int{4, 8} {
		b := binary.BigEndian.AppendUint32(bytes.Clone(good[:10]), crc32.Checksum(good[from:10], castagnoli))
		noFirst(t, b, api.ErrFrame)
	}
	// A number that tells fewer bytes than there are, with the sum of all of them behind.
	noFirst(t, plain(1, 1, "ab"), api.ErrFrame)
	for at := 10; at < 14; at++ {
		for v := range 256 {
			b := bytes.Clone(good)
			b[at] = byte(v)
			if byte(v) == good[at] {
				firstIs(t, b, rec(1, "ab"), 14)
			} else {
				noFirst(t, b, api.ErrFrame)
			}
		}
	}
}

// 3.1: more bytes behind the record change nothing.
func TestFirstWithMoreBehind(t *testing.T) {
	for _, s := range []string{"", "a", "abcd", strings.Repeat("x", most)} {
		r := rec(5, s)
		for _, more := range [][]byte{{0}, {0xff}, make([]byte, 100), bytesOf(rec(6, "next")), bytesOf(rec(4, "elder")), bytesOf(rec(5, "cut"))[:9]} {
			firstIs(t, append(bytesOf(r), more...), r, len(s)+12)
		}
		wrong := append(bytesOf(r), bytesOf(rec(6, "next"))...)
		wrong[len(s)+11] ^= 1
		noFirst(t, wrong, api.ErrFrame)
	}
}

// 3.2: where there is no record.
func TestScanOfNone(t *testing.T) {
	for _, b := range [][]byte{nil, {}, {0}, make([]byte, 7), make([]byte, 8), make([]byte, 12), make([]byte, 256), bytes.Repeat([]byte{0xff}, 40)} {
		scans(t, b, nil, 0)
	}
	scans(t, bytesOf(rec(1, "ab"))[:13], nil, 0)
	scans(t, append([]byte{0}, bytesOf(rec(1, "ab"))...), nil, 0)
	scans(t, plain(most+1, 1, strings.Repeat("x", most+1)), nil, 0)
}

// 3.2, Words: equal and rising epochs go on, a falling one ends the records.
func TestScanOfEpochs(t *testing.T) {
	const top = 1<<32 - 1
	tests := []struct {
		epochs []int
		want   int
	}{
		{[]int{0}, 1}, {[]int{top}, 1}, {[]int{0, 0, 0}, 3}, {[]int{7, 7}, 2}, {[]int{top, top}, 2},
		{[]int{0, 1, 2, 3}, 4}, {[]int{0, top}, 2}, {[]int{1, 5, 5, 9, 1 << 31, top}, 6},
		{[]int{1, 0}, 1}, {[]int{top, 0}, 1}, {[]int{top, top - 1}, 1}, {[]int{1 << 31, 1<<31 - 1}, 1},
		{[]int{3, 4, 3, 4}, 2}, {[]int{3, 4, 3, 5}, 2}, {[]int{2, 2, 1, 2, 2}, 2}, {[]int{5, 6, 7, 0, 8}, 3},
		{[]int{1 << 31, 1}, 1}, {[]int{1<<31 - 1, 1 << 31}, 2}, {[]int{0, 256, 1}, 2},
	}
	for _, c := range tests {
		var l []api.Record
		for i, n := range c.epochs {
			l = append(l, rec(n, strings.Repeat("q", i)))
		}
		scans(t, put(l...), l[:c.want], len(put(l[:c.want]...)))
	}
}

// 3.2: a record that is none ends them, whatever follows.
func TestScanEndsAtTheFirstThatIsNone(t *testing.T) {
	l := []api.Record{rec(1, "ab"), rec(2, ""), rec(2, "cde")}
	b := put(l...)
	next := bytesOf(rec(3, "next"))
	behind := [][]byte{
		{}, {0}, make([]byte, 7), make([]byte, 8), make([]byte, 500), {1, 2}, next[:len(next)-1],
		append([]byte{0}, next...), plain(1, 3, "ab"), plain(most+1, 3, strings.Repeat("x", most+1)),
		append(plain(2, 3, "a"), next...), bytes.Repeat([]byte{0xff}, 30), bytesOf(rec(1, "elder")), append(bytesOf(rec(0, "")), next...),
	}
	for _, x := range behind {
		scans(t, append(bytes.Clone(b), x...), l, len(b))
	}
	scans(t, append(bytes.Clone(b), next...), append(slices.Clone(l), rec(3, "next")), len(b)+len(next))
	for i, at := range []int{9, 20, 30} {
		x := append(bytes.Clone(b), next...)
		x[at] ^= 0x40
		scans(t, x, l[:i], len(put(l[:i]...)))
	}
}

// 3.2: records of all sizes, and a great many.
func TestScanOfMany(t *testing.T) {
	var l []api.Record
	for n := range 600 {
		l = append(l, rec(n/7, strings.Repeat("m", n*37%(most+1))))
	}
	l = append(l, rec(100, strings.Repeat("m", most)), rec(100, ""))
	b, e := frame.All(l...)
	is(t, "All", e, api.OK)
	hasBytes(t, "All", b, put(l...))
	scans(t, b, l, len(b))
	small := slices.Repeat([]api.Record{rec(2, "")}, 50000)
	scans(t, put(small...), small, 50000*12)
}

// 3.2.
func TestAll(t *testing.T) {
	for _, none := range [][]api.Record{nil, {}} {
		b, e := frame.All(none...)
		is(t, "All of none", e, api.OK)
		is(t, "bytes of none", len(b), 0)
	}
	b, e := frame.All()
	is(t, "All()", e, api.OK)
	is(t, "bytes of All()", len(b), 0)
	lists := [][]api.Record{
		{rec(0, "")}, {rec(1, "ab")}, {rec(1, "ab"), rec(1, ""), rec(3, "c")}, {rec(1, ""), rec(1, "")},
		// All does not ask for an order of the epochs.
		{rec(2, "x"), rec(1, "y")}, {rec(1<<32-1, strings.Repeat("x", most)), rec(0, strings.Repeat("y", most))},
	}
	for _, l := range lists {
		b, e := frame.All(l...)
		is(t, fmt.Sprintf("All of %d", len(l)), e, api.OK)
		hasBytes(t, "its bytes", b, put(l...))
		var each []byte
		for _, r := range l {
			x, _ := frame.Write(r)
			each = append(each, x...)
		}
		hasBytes(t, "Write of each", b, each)
	}
}

// 3.2, rule 1: the error of the first that is refused.
func TestAllRefuses(t *testing.T) {
	good, arg, long := rec(1, "ab"), rec(-1, "ab"), rec(1, strings.Repeat("x", most+1))
	both := rec(1<<32, strings.Repeat("x", most+1))
	tests := []struct {
		l    []api.Record
		want api.Errno
	}{
		{[]api.Record{arg, good, good}, api.ErrArg}, {[]api.Record{good, arg, good}, api.ErrArg}, {[]api.Record{good, good, arg}, api.ErrArg},
		{[]api.Record{long, good, good}, api.ErrLong}, {[]api.Record{good, long, good}, api.ErrLong}, {[]api.Record{good, good, long}, api.ErrLong},
		{[]api.Record{arg, long}, api.ErrArg}, {[]api.Record{long, arg}, api.ErrLong},
		{[]api.Record{good, long, good, arg}, api.ErrLong}, {[]api.Record{good, arg, good, long}, api.ErrArg},
		{[]api.Record{both, long}, api.ErrArg}, {[]api.Record{long, both}, api.ErrLong}, {[]api.Record{good, both}, api.ErrArg},
	}
	for i, c := range tests {
		b, e := frame.All(c.l...)
		is(t, fmt.Sprintf("All of list %d", i), e, c.want)
		is(t, "its bytes", len(b), 0)
	}
}

// Rule 4: no argument is changed, nor what lies behind it.
func TestArgumentsStay(t *testing.T) {
	b := put(rec(1, "ab"), rec(2, ""), rec(2, "cde"), rec(1, "elder"))
	was := bytes.Clone(b)
	for n := range len(b) + 1 {
		frame.First(b[:n])
		frame.First(b[n:])
		frame.Scan(b[:n])
		frame.Scan(b[n:])
		hasBytes(t, "what was handed in", b, was)
	}
	l := []api.Record{rec(1, "ab"), rec(2, ""), rec(-1, ""), rec(1, strings.Repeat("x", most+1)), rec(0, "")}
	kept := slices.Clone(l)
	for n := range len(l) + 1 {
		frame.All(l[:n]...)
		frame.All(l[n:]...)
	}
	is(t, "the list that was handed in", slices.Equal(l, kept), true)
}

// Rule 4: what is answered is the caller's own.
func TestAnswersAreTheCallersOwn(t *testing.T) {
	l := []api.Record{rec(1, "ab"), rec(2, ""), rec(2, "cde")}
	want := put(l...)
	one, _ := frame.All(l...)
	other, _ := frame.All(l...)
	alone, _ := frame.All(l[0])
	written, _ := frame.Write(l[0])
	again, _ := frame.Write(l[0])
	r, _, _ := frame.First(one)
	found, _ := frame.Scan(one)
	foundToo, _ := frame.Scan(one)
	for i := range one {
		one[i] ^= 0xff
	}
	for i := range written {
		written[i] ^= 0xff
	}
	found[0] = rec(9, "changed")
	hasBytes(t, "another All", other, want)
	hasBytes(t, "All of one", alone, bytesOf(l[0]))
	hasBytes(t, "another Write", again, bytesOf(l[0]))
	isRecord(t, "First, once its bytes are changed", r, l[0])
	is(t, "Scan, once its bytes and the other list are changed", slices.Equal(foundToo, l), true)
	is(t, "the list that was handed in", slices.Equal(l, []api.Record{rec(1, "ab"), rec(2, ""), rec(2, "cde")}), true)
}
