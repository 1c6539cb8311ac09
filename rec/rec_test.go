package rec_test

import (
	"bytes"
	"encoding/binary"
	"hash/crc32"
	"math"
	"slices"
	"testing"

	"franking/api"
	"franking/rec"
)

// beside is how many bytes a record has beside its body.
const beside = 16

// encode is the definition, with any number and any length: the checksum is
// right even where the record is not.
func encode(length uint32, num int64, body []byte) []byte {
	b := binary.BigEndian.AppendUint32(nil, length)
	b = binary.BigEndian.AppendUint64(b, uint64(num))
	b = append(b, body...)
	return binary.BigEndian.AppendUint32(b, crc32.ChecksumIEEE(b))
}

func encoded(r rec.Rec) []byte {
	return encode(uint32(len(r.Body)), r.Num, r.Body)
}

// decode is the definition of Get, condition by condition.
func decode(b []byte) (rec.Rec, int, api.Errno) {
	if len(b) < 4 {
		return rec.Rec{}, 0, api.EMORE
	}
	length := int64(binary.BigEndian.Uint32(b))
	if length > api.MaxValue {
		return rec.Rec{}, 0, api.EFORM
	}
	if int64(len(b)) < length+beside {
		return rec.Rec{}, 0, api.EMORE
	}
	num := int64(binary.BigEndian.Uint64(b[4:]))
	if num < 1 {
		return rec.Rec{}, 0, api.EFORM
	}
	if crc32.ChecksumIEEE(b[:12+length]) != binary.BigEndian.Uint32(b[12+length:]) {
		return rec.Rec{}, 0, api.EFORM
	}
	return rec.Rec{Num: num, Body: b[12 : 12+length]}, int(length) + beside, api.OK
}

// bytesOf returns n bytes without a short period, the same ones every time.
func bytesOf(n int) []byte {
	b := make([]byte, n)
	state := uint32(n)
	for i := range b {
		state = state*1664525 + 1013904223
		b[i] = byte(state >> 24)
	}
	return b
}

func equal(a, b rec.Rec) bool {
	return a.Num == b.Num && bytes.Equal(a.Body, b.Body)
}

func mustPut(t *testing.T, b []byte, r rec.Rec) []byte {
	t.Helper()
	out, err := rec.Put(b, r)
	if err != api.OK {
		t.Fatalf("Put of number %d with %d bytes: %v", r.Num, len(r.Body), err)
	}
	return out
}

func expectGet(t *testing.T, what string, b []byte, want rec.Rec, size int) {
	t.Helper()
	r, n, err := rec.Get(b)
	if err != api.OK || n != size || !equal(r, want) {
		t.Errorf("%s: number %d with %d bytes, %d read, %v, want number %d with %d bytes, %d read",
			what, r.Num, len(r.Body), n, err, want.Num, len(want.Body), size)
	}
}

func expectNoGet(t *testing.T, what string, b []byte, want api.Errno) {
	t.Helper()
	r, n, err := rec.Get(b)
	if err != want || n != 0 || r.Num != 0 || r.Body != nil {
		t.Errorf("%s: number %d with %d bytes, %d read, %v, want nothing and %v", what, r.Num, len(r.Body), n, err, want)
	}
}

func expectScan(t *testing.T, what string, b []byte, first int64, want []rec.Rec) {
	t.Helper()
	size := 0
	for _, r := range want {
		size += len(r.Body) + beside
	}
	l, n := rec.Scan(b, first)
	if n != size || !slices.EqualFunc(l, want, equal) {
		t.Errorf("%s: %d records in %d bytes, want %d records in %d bytes", what, len(l), n, len(want), size)
	}
}

func series(first int64, bodies ...string) []rec.Rec {
	var l []rec.Rec
	for i, s := range bodies {
		l = append(l, rec.Rec{Num: first + int64(i), Body: []byte(s)})
	}
	return l
}

func joined(l []rec.Rec) []byte {
	var b []byte
	for _, r := range l {
		b = append(b, encoded(r)...)
	}
	return b
}

func goodRecords() []rec.Rec {
	var l []rec.Rec
	for _, num := range []int64{1, 2, 255, 256, 1 << 31, 1 << 32, 0x0102030405060708, math.MaxInt64 - 1, math.MaxInt64} {
		for _, n := range []int{0, 1, 2, 255, 256, 257, 496, 512, 65535, 65536} {
			l = append(l, rec.Rec{Num: num, Body: bytesOf(n)})
		}
	}
	return append(l,
		rec.Rec{Num: 7},
		rec.Rec{Num: 7, Body: []byte("\r\n\x00\xff")},
		rec.Rec{Num: 7, Body: make([]byte, 300)},
		rec.Rec{Num: 7, Body: bytesOf(api.MaxValue - 1)},
		rec.Rec{Num: 7, Body: bytesOf(api.MaxValue)},
		rec.Rec{Num: math.MaxInt64, Body: make([]byte, api.MaxValue)})
}

func badRecords() []rec.Rec {
	return []rec.Rec{
		{},
		{Body: []byte("a")},
		{Num: -1, Body: []byte("a")},
		{Num: math.MinInt64, Body: []byte("a")},
		{Num: math.MinInt64},
		{Num: -1 << 32},
		{Num: 1, Body: bytesOf(api.MaxValue + 1)},
		{Num: math.MaxInt64, Body: bytesOf(api.MaxValue * 2)},
		{Num: 0, Body: bytesOf(api.MaxValue)},
		{Num: 0, Body: bytesOf(api.MaxValue + 1)},
	}
}

func TestExample(t *testing.T) {
	if b := mustPut(t, nil, rec.Rec{Num: 1, Body: []byte("ab")}); len(b) != 18 {
		t.Errorf("%d bytes", len(b))
	}
}

func TestPutWritesTheParts(t *testing.T) {
	b := mustPut(t, nil, rec.Rec{Num: 0x0102030405060708, Body: []byte("123")})
	want := "\x00\x00\x00\x03" + "\x01\x02\x03\x04\x05\x06\x07\x08" + "123"
	sum := crc32.ChecksumIEEE([]byte(want))
	want += string([]byte{byte(sum >> 24), byte(sum >> 16), byte(sum >> 8), byte(sum)})
	if string(b) != want {
		t.Errorf("%x, want %x", b, want)
	}
}

func TestPutOfEveryKind(t *testing.T) {
	for _, r := range goodRecords() {
		if b := mustPut(t, nil, r); !bytes.Equal(b, encoded(r)) {
			t.Errorf("number %d with %d bytes: %d bytes that are not its encoding", r.Num, len(r.Body), len(b))
		}
	}
}

func TestPutGoesOnAfterWhatIsThere(t *testing.T) {
	r := rec.Rec{Num: 9, Body: []byte("body")}
	for _, before := range [][]byte{nil, {}, []byte("x"), encoded(r), bytesOf(3000)} {
		want := append(bytes.Clone(before), encoded(r)...)
		if b := mustPut(t, before, r); !bytes.Equal(b, want) {
			t.Errorf("after %d bytes: %x, want %x", len(before), b, want)
		}
	}
}

func TestPutRefuses(t *testing.T) {
	for _, r := range badRecords() {
		for _, before := range [][]byte{nil, []byte("before")} {
			if b, err := rec.Put(before, r); b != nil || err != api.EARG {
				t.Errorf("number %d with %d bytes: %d bytes, %v", r.Num, len(r.Body), len(b), err)
			}
		}
	}
}

func TestPutLeavesItsArgumentsAlone(t *testing.T) {
	memory := []byte("before" + string(bytes.Repeat([]byte{'-'}, 40)))
	before := memory[:6]
	text := []byte("body++++")
	out := mustPut(t, before, rec.Rec{Num: 1, Body: text[:4]})
	want := bytes.Clone(out)
	if string(before) != "before" || !bytes.Equal(memory[6:], bytes.Repeat([]byte{'-'}, 40)) {
		t.Errorf("what was before is now %q", memory)
	}
	if string(text) != "body++++" {
		t.Errorf("the body is now %q", text)
	}
	memory[0], text[0] = '!', '!'
	if !bytes.Equal(out, want) {
		t.Errorf("the result follows its arguments: %x, want %x", out, want)
	}
}

func TestPutTwiceOnTheSameBytes(t *testing.T) {
	memory := make([]byte, 3, 100)
	one := mustPut(t, memory, rec.Rec{Num: 1, Body: []byte("one")})
	two := mustPut(t, memory, rec.Rec{Num: 2, Body: []byte("two")})
	expectGet(t, "the first", one[3:], rec.Rec{Num: 1, Body: []byte("one")}, 19)
	expectGet(t, "the second", two[3:], rec.Rec{Num: 2, Body: []byte("two")}, 19)
}

func TestSize(t *testing.T) {
	for _, r := range goodRecords() {
		if got := rec.Size(r); got != len(r.Body)+beside || got != len(mustPut(t, nil, r)) {
			t.Errorf("number %d with %d bytes: %d", r.Num, len(r.Body), got)
		}
	}
	for _, r := range badRecords() {
		if got := rec.Size(r); got != 0 {
			t.Errorf("number %d with %d bytes: %d, want 0", r.Num, len(r.Body), got)
		}
	}
}

func TestGetReadsWhatPutWrites(t *testing.T) {
	for _, r := range goodRecords() {
		b := mustPut(t, nil, r)
		expectGet(t, "alone", b, r, len(r.Body)+beside)
		expectGet(t, "with bytes behind it", append(b, 0), r, len(r.Body)+beside)
		expectGet(t, "with itself behind it", append(b, b...), r, len(r.Body)+beside)
	}
}

func TestGetOfNothing(t *testing.T) {
	for _, b := range [][]byte{nil, {}, {0}, {0, 0}, {0, 0, 0}, {255}, {255, 255}, {255, 255, 255}} {
		expectNoGet(t, "fewer than 4 bytes", b, api.EMORE)
	}
}

func TestGetOfRecordsThatAreCutOff(t *testing.T) {
	for _, r := range series(5, "", "a", "ab", "a longer body with more bytes") {
		b := encoded(r)
		for n := range b {
			expectNoGet(t, "cut off", b[:n:n], api.EMORE)
			// Bytes beyond the length of the slice do not belong to it.
			expectNoGet(t, "cut off, in front of the rest", b[:n], api.EMORE)
		}
	}
	b := encoded(rec.Rec{Num: 5, Body: bytesOf(api.MaxValue)})
	for _, n := range []int{4, 11, 12, 13, 512, api.MaxValue, api.MaxValue + 12, api.MaxValue + 15} {
		expectNoGet(t, "a long record cut off", b[:n], api.EMORE)
	}
}

func TestGetOfWrongLengths(t *testing.T) {
	for _, length := range []uint32{api.MaxValue + 1, api.MaxValue + 2, 1 << 24, math.MaxInt32, 1 << 31, 1<<31 + 2, math.MaxUint32 - 15, math.MaxUint32} {
		b := encode(length, 1, []byte("ab"))
		expectNoGet(t, "a wrong length", b, api.EFORM)
		expectNoGet(t, "a wrong length and no more", b[:4], api.EFORM)
		expectNoGet(t, "a wrong length and a part of the number", b[:9], api.EFORM)
	}
	for _, length := range []uint32{3, 4, api.MaxValue - 1, api.MaxValue} {
		b := encode(length, 1, []byte("ab"))
		expectNoGet(t, "a length for which more must come", b, api.EMORE)
		expectNoGet(t, "a length for which all must come", b[:4], api.EMORE)
	}
	for _, length := range []uint32{0, 1} {
		expectNoGet(t, "a length that is too small", encode(length, 1, []byte("ab")), api.EFORM)
	}
	long := bytesOf(api.MaxValue + 1)
	expectNoGet(t, "a whole record that is too long", encode(api.MaxValue+1, 1, long), api.EFORM)
	expectGet(t, "the longest record", encode(api.MaxValue, 1, long[1:]), rec.Rec{Num: 1, Body: long[1:]}, api.MaxValue+beside)
}

// The checksums are right here, so that only the number can be refused.
func TestGetOfWrongNumbers(t *testing.T) {
	for _, num := range []int64{0, -1, -2, -1 << 32, math.MinInt64, math.MinInt64 + 1} {
		for _, body := range []string{"", "ab"} {
			b := encode(uint32(len(body)), num, []byte(body))
			expectNoGet(t, "a wrong number", b, api.EFORM)
			expectNoGet(t, "a wrong number and bytes behind it", append(b, b...), api.EFORM)
			expectNoGet(t, "a wrong number, cut off", b[:len(b)-1], api.EMORE)
		}
	}
}

func TestGetOfWrongSums(t *testing.T) {
	r := rec.Rec{Num: 3, Body: []byte("body")}
	good := encoded(r)
	at := len(good) - 4
	for _, sum := range []uint32{
		0,
		math.MaxUint32,
		^binary.BigEndian.Uint32(good[at:]),
		binary.LittleEndian.Uint32(good[at:]),
		crc32.ChecksumIEEE(r.Body),
		crc32.ChecksumIEEE(good[4:at]),
		crc32.ChecksumIEEE(good),
	} {
		b := binary.BigEndian.AppendUint32(bytes.Clone(good[:at]), sum)
		expectNoGet(t, "a wrong checksum", b, api.EFORM)
	}
}

func TestGetOfEveryChangedBit(t *testing.T) {
	for _, r := range series(0x0102030405060708, "", "a", "a body of some length") {
		good := encoded(r)
		for at := range good {
			for bit := range 8 {
				b := bytes.Clone(good)
				b[at] ^= 1 << bit
				_, _, want := decode(b)
				if want == api.OK {
					t.Fatalf("the definition takes a record with a changed bit")
				}
				expectNoGet(t, "a changed bit", b, want)
			}
		}
	}
}

func TestGetOfEveryChangedByte(t *testing.T) {
	good := encoded(rec.Rec{Num: 1, Body: []byte("ab")})
	for at := range good {
		for c := range 256 {
			b := append(bytes.Clone(good), good...)
			b[at] = byte(c)
			r, size, want := decode(b)
			if want == api.OK {
				expectGet(t, "the same byte again", b, r, size)
			} else {
				expectNoGet(t, "a changed byte", b, want)
			}
		}
	}
}

// A torn record has its first bytes and behind them what stood there before. If
// only its length came through, an older record of that length may be whole.
func TestGetOfTornRecords(t *testing.T) {
	r := rec.Rec{Num: 4, Body: bytesOf(1000)}
	good := encoded(r)
	older := encoded(rec.Rec{Num: 3, Body: bytes.Repeat([]byte("older"), 200)})
	for _, old := range [][]byte{make([]byte, len(good)), bytes.Repeat([]byte{255}, len(good)), older} {
		for n := 12; n < len(good)-4; n++ {
			b := append(bytes.Clone(good[:n]), old[n:]...)
			expectNoGet(t, "torn", b, api.EFORM)
		}
	}
	for _, from := range []int{0, 256, 512, 768} {
		b := bytes.Clone(good)
		clear(b[from:min(from+256, len(b))])
		expectNoGet(t, "without a part", b, api.EFORM)
	}
}

func TestGetOfAnyBytes(t *testing.T) {
	for n := range 40 {
		for c := range 256 {
			b := bytes.Repeat([]byte{byte(c)}, n)
			_, _, want := decode(b)
			expectNoGet(t, "equal bytes", b, want)
		}
	}
	b := bytesOf(5000)
	for at := range b {
		_, _, want := decode(b[at:])
		expectNoGet(t, "any bytes", b[at:], want)
	}
	expectNoGet(t, "zeros", make([]byte, 100000), api.EFORM)
}

func TestGetSharesNothing(t *testing.T) {
	b := append(encoded(rec.Rec{Num: 1, Body: []byte("body")}), "rest"...)
	before := bytes.Clone(b)
	one, _, _ := rec.Get(b)
	two, _, _ := rec.Get(b)
	one.Body = one.Body[:cap(one.Body)]
	for i := range one.Body {
		one.Body[i] = '!'
	}
	if !bytes.Equal(b, before) || string(two.Body) != "body" {
		t.Errorf("a change of the result has changed %q or %q", b, two.Body)
	}
	clear(b)
	if string(two.Body) != "body" {
		t.Errorf("the result follows its argument: %q", two.Body)
	}
}

func TestScan(t *testing.T) {
	for _, first := range []int64{1, 2, 77, 1 << 40, math.MaxInt64 - 4} {
		l := series(first, "one", "", "three", "four")
		b := joined(l)
		expectScan(t, "all", b, first, l)
		expectScan(t, "the rest", b[19:], first+1, l[1:])
		expectScan(t, "all and bytes behind them", append(b, "and so on"...), first, l)
		expectScan(t, "all and zeros behind them", append(b, make([]byte, 900)...), first, l)
		for _, other := range []int64{first - 1, first + 1, first + 4, -first, 0, math.MinInt64, math.MaxInt64} {
			expectScan(t, "another first number", b, other, nil)
		}
	}
}

func TestScanOfNothing(t *testing.T) {
	for _, first := range []int64{0, 1, -1, math.MaxInt64, math.MinInt64} {
		for _, b := range [][]byte{nil, {}, {0}, {255, 255, 255, 255}, make([]byte, 1000), bytesOf(1000)} {
			if l, n := rec.Scan(b, first); l != nil || n != 0 {
				t.Errorf("Scan of %d bytes from %d: %d records in %d bytes", len(b), first, len(l), n)
			}
		}
	}
}

func TestScanNeedsNumbersInOrder(t *testing.T) {
	for i, c := range []struct {
		nums []int64
		want int
	}{
		{[]int64{1, 2, 3}, 3},
		{[]int64{1, 3, 4}, 1},
		{[]int64{1, 1, 2}, 1},
		{[]int64{1, 2, 1, 2, 3}, 2},
		{[]int64{1, 2, 4, 3}, 2},
		{[]int64{2, 1, 2, 3}, 0},
		{[]int64{3, 2, 1}, 0},
		{[]int64{1, 2, 3 + 1<<32}, 2},
	} {
		var l []rec.Rec
		for _, num := range c.nums {
			l = append(l, rec.Rec{Num: num, Body: []byte("body")})
		}
		if got, n := rec.Scan(joined(l), 1); len(got) != c.want || n != c.want*20 || !slices.EqualFunc(got, l[:c.want], equal) {
			t.Errorf("list %d: %d records in %d bytes, want %d", i, len(got), n, c.want)
		}
	}
}

// A record that Put would refuse ends the scan, also where its number is the
// one that comes next.
func TestScanStopsAtWrongNumbers(t *testing.T) {
	for _, first := range []int64{0, -1, -2, math.MinInt64} {
		expectScan(t, "from a wrong number", joined(series(first, "a", "b", "c")), first, nil)
	}
}

func TestScanStopsAtTheGreatestNumber(t *testing.T) {
	last := series(math.MaxInt64-1, "one before", "last")
	for _, num := range []int64{math.MinInt64, math.MaxInt64, -1, 0, 1} {
		behind := encode(6, num, []byte("behind"))
		expectScan(t, "two records and one more", append(joined(last), behind...), math.MaxInt64-1, last)
		expectScan(t, "the last record and one more", append(encoded(last[1]), behind...), math.MaxInt64, last[1:])
	}
	expectScan(t, "the last record alone", encoded(last[1]), math.MaxInt64, last[1:])
}

func TestScanOfRecordsThatAreCutOff(t *testing.T) {
	l := series(8, "first", "", "third")
	b := joined(l)
	for n := range len(b) + 1 {
		whole, end := 0, 0
		for whole < len(l) && end+len(l[whole].Body)+beside <= n {
			end += len(l[whole].Body) + beside
			whole++
		}
		expectScan(t, "cut off", b[:n], 8, l[:whole])
	}
}

func TestScanOfChangedRecords(t *testing.T) {
	l := series(8, "first", "", "third")
	good := joined(l)
	for at := range good {
		whole, end := 0, 0
		for end+len(l[whole].Body)+beside <= at {
			end += len(l[whole].Body) + beside
			whole++
		}
		for _, bit := range []byte{1, 0x80} {
			b := bytes.Clone(good)
			b[at] ^= bit
			expectScan(t, "changed", b, 8, l[:whole])
		}
	}
}

func TestScanOfManyRecords(t *testing.T) {
	var l []rec.Rec
	for i := range 3000 {
		l = append(l, rec.Rec{Num: int64(i) + 1, Body: bytesOf(i % 300)})
	}
	expectScan(t, "many", joined(l), 1, l)
	l = []rec.Rec{
		{Num: 1, Body: bytesOf(api.MaxValue)},
		{Num: 2},
		{Num: 3, Body: make([]byte, api.MaxValue)},
	}
	b := joined(l)
	expectScan(t, "long ones", b, 1, l)
	b = append(b, encode(api.MaxValue+1, 4, make([]byte, api.MaxValue+1))...)
	expectScan(t, "long ones and one that is too long", b, 1, l)
}

func TestScanReadsWhatPutWrites(t *testing.T) {
	var b []byte
	l := series(41, "one", "two", "", "four")
	for _, r := range l {
		b = mustPut(t, b, r)
	}
	expectScan(t, "written one after another", b, 41, l)
}

func TestScanSharesNothing(t *testing.T) {
	want := series(1, "one", "two", "three")
	b := joined(want)
	before := bytes.Clone(b)
	l, _ := rec.Scan(b, 1)
	for i := range l {
		body := l[i].Body[:cap(l[i].Body)]
		for j := range body {
			body[j] = '!'
		}
		for j := i + 1; j < len(l); j++ {
			if !equal(l[j], want[j]) {
				t.Errorf("a change of record %d has changed record %d", i, j)
			}
		}
	}
	if !bytes.Equal(b, before) {
		t.Errorf("a change of the records has changed the bytes")
	}
	l, _ = rec.Scan(b, 1)
	clear(b)
	if !slices.EqualFunc(l, want, equal) {
		t.Errorf("the records follow the bytes")
	}
}

func TestNothingIsKept(t *testing.T) {
	b := encoded(rec.Rec{Num: 1, Body: []byte("one")})
	for range 2 {
		mustPut(t, b, rec.Rec{Num: 2, Body: []byte("two")})
		expectNoGet(t, "a part", b[:5], api.EMORE)
		expectGet(t, "the whole", b, rec.Rec{Num: 1, Body: []byte("one")}, 19)
		expectScan(t, "the whole", b, 1, series(1, "one"))
	}
}
