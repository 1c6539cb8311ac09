package dev_test

import (
	"bytes"
	"math"
	"slices"
	"strconv"
	"testing"

	"franking/api"
	"franking/dev"
)

// half is how much of a torn write becomes durable.
const half = 256

func newDev(t *testing.T, sectors int) *dev.Dev {
	t.Helper()
	d, err := dev.New(sectors)
	if d == nil || err != api.OK {
		t.Fatalf("New(%d): %v", sectors, err)
	}
	return d
}

// fill returns a sector that has the byte c everywhere.
func fill(c byte) []byte { return bytes.Repeat([]byte{c}, api.MaxSector) }

// mix returns a sector that has the byte a in its first half and b in the
// other one.
func mix(a, b byte) []byte {
	return append(fill(a)[:half], fill(b)[half:]...)
}

// pattern returns a sector without a short period.
func pattern(seed uint32) []byte {
	b := make([]byte, api.MaxSector)
	for i := range b {
		seed = seed*1664525 + 1013904223
		b[i] = byte(seed >> 24)
	}
	return b
}

func put(t *testing.T, d *dev.Dev, at int, b []byte) {
	t.Helper()
	if err := d.Write(at, b); err != api.OK {
		t.Fatalf("Write(%d): %v", at, err)
	}
}

func flush(t *testing.T, d *dev.Dev) {
	t.Helper()
	if err := d.Flush(); err != api.OK {
		t.Fatalf("Flush: %v", err)
	}
}

// expect reads the sector.
func expect(t *testing.T, what string, d *dev.Dev, at int, want []byte) {
	t.Helper()
	if got, err := d.Read(at); err != api.OK || !bytes.Equal(got, want) {
		t.Errorf("%s: Read(%d): %d bytes, first %s, %v, want first %s", what, at, len(got), ends(got), err, ends(want))
	}
}

// ends tells a sector by one byte of each half.
func ends(b []byte) string {
	if len(b) != api.MaxSector {
		return "no sector"
	}
	return strconv.Itoa(int(b[0])) + " and last " + strconv.Itoa(int(b[api.MaxSector-1]))
}

// expectOff tells that the power is off, for every call that says so.
func expectOff(t *testing.T, what string, d *dev.Dev) {
	t.Helper()
	b, read := d.Read(0)
	if !d.Off() || b != nil || read != api.EOFF || d.Write(0, fill(1)) != api.EOFF || d.Flush() != api.EOFF || d.Unsafe() != 0 {
		t.Errorf("%s: the power is not off", what)
	}
}

func expectOn(t *testing.T, what string, d *dev.Dev, unsafe int) {
	t.Helper()
	if d.Off() || d.Unsafe() != unsafe {
		t.Errorf("%s: Off is %v, Unsafe is %d, want %d", what, d.Off(), d.Unsafe(), unsafe)
	}
}

func wrongNumbers(sectors int) []int {
	return []int{-1, sectors, sectors + 1, -sectors, 1 << 40, -1 << 40, math.MaxInt, math.MinInt}
}

func TestExample(t *testing.T) {
	d := newDev(t, 1)
	put(t, d, 0, fill(1))
	flush(t, d)
	put(t, d, 0, fill(2))
	d.Crash(nil, -1)
	d.On()
	expect(t, "after Write, Crash and On", d, 0, fill(1))
	put(t, d, 0, fill(2))
	flush(t, d)
	d.Crash(nil, -1)
	d.On()
	expect(t, "after Write, Flush, Crash and On", d, 0, fill(2))
}

func TestNewRefusesWrongSizes(t *testing.T) {
	for _, n := range []int{0, -1, -api.MaxSectors, api.MaxSectors + 1, 1 << 40, math.MaxInt, math.MinInt} {
		if d, err := dev.New(n); d != nil || err != api.EARG {
			t.Errorf("New(%d): a device: %v, %v", n, d != nil, err)
		}
	}
}

func TestNew(t *testing.T) {
	for _, n := range []int{1, 2, 3, 100, api.MaxSectors - 1, api.MaxSectors} {
		d := newDev(t, n)
		expectOn(t, "a new device", d, 0)
		if d.Sectors() != n {
			t.Errorf("New(%d): Sectors is %d", n, d.Sectors())
		}
		for at := range n {
			expect(t, "a new device", d, at, fill(0))
		}
	}
}

func TestSectorsAtBothEnds(t *testing.T) {
	for _, n := range []int{1, 2, 3, api.MaxSectors} {
		d := newDev(t, n)
		put(t, d, 0, pattern(1))
		put(t, d, n-1, pattern(2))
		if n > 1 {
			expect(t, "the first sector", d, 0, pattern(1))
		}
		expect(t, "the last sector", d, n-1, pattern(2))
		for at := 1; at < n-1; at++ {
			expect(t, "a sector between", d, at, fill(0))
		}
		d.Crash([]int{1}, 0)
		d.On()
		if n > 1 {
			expect(t, "the first sector, torn", d, 0, append(pattern(1)[:half], make([]byte, half)...))
		}
		expect(t, "the last sector, kept", d, n-1, pattern(2))
	}
}

func TestWriteAndReadEverySector(t *testing.T) {
	const n = 40
	d := newDev(t, n)
	for at := range n {
		put(t, d, at, pattern(uint32(at)))
		expectOn(t, "after Write", d, at+1)
	}
	for range 2 {
		for at := range n {
			expect(t, "after all writes", d, at, pattern(uint32(at)))
		}
		flush(t, d)
	}
}

func TestReadReturnsWhatWasWrittenLast(t *testing.T) {
	d := newDev(t, 2)
	for i := range 300 {
		put(t, d, i%2, pattern(uint32(i)))
		expect(t, "the sector of the last write", d, i%2, pattern(uint32(i)))
		if i > 0 {
			expect(t, "the other sector", d, 1-i%2, pattern(uint32(i-1)))
		}
		if i%7 == 0 {
			flush(t, d)
			expect(t, "after Flush", d, i%2, pattern(uint32(i)))
		}
	}
}

func TestWriteRefuses(t *testing.T) {
	const n = 3
	d := newDev(t, n)
	put(t, d, n-1, fill(1))
	for _, at := range wrongNumbers(n) {
		if err := d.Write(at, fill(2)); err != api.EARG {
			t.Errorf("Write(%d): %v", at, err)
		}
	}
	for _, size := range []int{0, 1, half, api.MaxSector - 1, api.MaxSector + 1, 2 * api.MaxSector} {
		for at := range n {
			if err := d.Write(at, make([]byte, size)); err != api.EARG {
				t.Errorf("Write(%d) of %d bytes: %v", at, size, err)
			}
		}
	}
	if err := d.Write(0, nil); err != api.EARG {
		t.Errorf("Write(0, nil): %v", err)
	}
	expectOn(t, "after refused calls", d, 1)
	for at, c := range []byte{0, 0, 1} {
		expect(t, "after refused calls", d, at, fill(c))
	}
}

func TestReadRefuses(t *testing.T) {
	for _, n := range []int{1, 3, api.MaxSectors} {
		d := newDev(t, n)
		for _, at := range wrongNumbers(n) {
			if b, err := d.Read(at); b != nil || err != api.EARG {
				t.Errorf("%d sectors: Read(%d): %d bytes, %v", n, at, len(b), err)
			}
		}
	}
}

func TestNoPowerComesBeforeWrongArguments(t *testing.T) {
	const n = 2
	d := newDev(t, n)
	d.Crash(nil, -1)
	for _, at := range append(wrongNumbers(n), 0, 1) {
		if b, err := d.Read(at); b != nil || err != api.EOFF {
			t.Errorf("Read(%d): %d bytes, %v", at, len(b), err)
		}
		for _, size := range []int{0, 1, api.MaxSector, api.MaxSector + 1} {
			if err := d.Write(at, make([]byte, size)); err != api.EOFF {
				t.Errorf("Write(%d) of %d bytes: %v", at, size, err)
			}
		}
	}
}

func TestWriteCopiesItsArgument(t *testing.T) {
	d := newDev(t, 1)
	backing := append(pattern(1), "spare"...)
	b := backing[:api.MaxSector]
	put(t, d, 0, b)
	flush(t, d)
	put(t, d, 0, b)
	if !bytes.Equal(backing, append(pattern(1), "spare"...)) {
		t.Error("Write changes its argument")
	}
	clear(backing)
	expect(t, "after a change of the argument", d, 0, pattern(1))
	d.Crash([]int{0}, -1)
	d.On()
	expect(t, "and after a crash", d, 0, pattern(1))
}

func TestReadReturnsNewMemory(t *testing.T) {
	d := newDev(t, 2)
	put(t, d, 0, pattern(1))
	flush(t, d)
	put(t, d, 0, pattern(2))
	first, _ := d.Read(0)
	second, _ := d.Read(0)
	zeros, _ := d.Read(1)
	for _, b := range [][]byte{first, zeros} {
		whole := b[:cap(b)]
		for i := range whole {
			whole[i] = 7
		}
	}
	if !bytes.Equal(second, pattern(2)) {
		t.Error("two results share memory")
	}
	expect(t, "after a change of the result", d, 0, pattern(2))
	expect(t, "after a change of the zeros", d, 1, fill(0))
	expect(t, "a new device", newDev(t, 1), 0, fill(0))
	d.Crash(nil, 0)
	d.On()
	expect(t, "after a torn write", d, 0, append(pattern(2)[:half], pattern(1)[half:]...))
}

func TestReadKeepsNothingOfALaterWrite(t *testing.T) {
	d := newDev(t, 1)
	put(t, d, 0, fill(1))
	b, _ := d.Read(0)
	put(t, d, 0, fill(2))
	flush(t, d)
	if !bytes.Equal(b, fill(1)) {
		t.Error("a write changes an earlier result")
	}
}

func TestUnsafe(t *testing.T) {
	d := newDev(t, 2)
	flush(t, d)
	expectOn(t, "after Flush of nothing", d, 0)
	for i := range 5 {
		put(t, d, 1, fill(1))
		expectOn(t, "writes to one sector", d, i+1)
	}
	flush(t, d)
	expectOn(t, "after Flush", d, 0)
	put(t, d, 0, fill(2))
	expectOn(t, "one more write", d, 1)
	d.Crash([]int{0}, -1)
	expectOff(t, "after Crash", d)
	d.On()
	expectOn(t, "after On", d, 0)
}

func TestFlushMakesAllDurable(t *testing.T) {
	d := newDev(t, 3)
	put(t, d, 0, fill(1))
	put(t, d, 1, fill(2))
	put(t, d, 0, fill(3))
	flush(t, d)
	put(t, d, 1, fill(4))
	put(t, d, 2, fill(5))
	d.Crash(nil, -1)
	d.On()
	for at, c := range []byte{3, 2, 0} {
		expect(t, "after a crash", d, at, fill(c))
	}
}

// What each crash leaves of three writes to one sector, which had the byte 9,
// and of a write to another one.
func TestCrash(t *testing.T) {
	for _, c := range []struct {
		keep  []int
		torn  int
		want  []byte
		other byte
	}{
		{nil, -1, fill(9), 0},
		{[]int{}, -1, fill(9), 0},
		{[]int{0}, -1, fill(1), 0},
		{[]int{1}, -1, fill(2), 0},
		{[]int{3}, -1, fill(3), 0},
		{[]int{2}, -1, fill(9), 4},
		{[]int{0, 1, 2, 3}, -1, fill(3), 4},
		{[]int{3, 2, 1, 0}, -1, fill(3), 4},
		{[]int{1, 0}, -1, fill(2), 0},
		{[]int{0, 0, 0}, -1, fill(1), 0},
		{[]int{-1, 4, math.MaxInt, math.MinInt}, -1, fill(9), 0},
		{[]int{-1, 4, math.MaxInt, math.MinInt, 1}, -1, fill(2), 0},
		{nil, 0, mix(1, 9), 0},
		{nil, 1, mix(2, 9), 0},
		{nil, 3, mix(3, 9), 0},
		{[]int{0}, 0, fill(1), 0},
		{[]int{1}, 1, fill(2), 0},
		{[]int{2, 3}, 3, fill(3), 4},
		{[]int{0}, 1, mix(2, 1), 0},
		{[]int{0}, 3, mix(3, 1), 0},
		{[]int{0, 1}, 3, mix(3, 2), 0},
		{[]int{1}, 0, fill(2), 0},
		{[]int{3}, 1, fill(3), 0},
		{[]int{0, 3}, 1, fill(3), 0},
		{[]int{2}, 0, mix(1, 9), 4},
		{[]int{0}, 4, fill(1), 0},
		{[]int{0}, math.MaxInt, fill(1), 0},
		{[]int{0}, math.MinInt, fill(1), 0},
		{[]int{7}, 7, fill(9), 0},
	} {
		for _, byFuse := range []bool{false, true} {
			d := newDev(t, 2)
			put(t, d, 0, fill(9))
			flush(t, d)
			for i, at := range []int{0, 0, 1, 0} {
				put(t, d, at, fill([]byte{1, 2, 4, 3}[i]))
			}
			keep := slices.Clone(c.keep)
			if byFuse {
				d.Fuse(1, keep, c.torn)
				d.Flush()
			} else {
				d.Crash(keep, c.torn)
			}
			what := "keep " + show(c.keep) + ", torn " + strconv.Itoa(c.torn) + ", by Fuse: " + strconv.FormatBool(byFuse)
			if !slices.Equal(keep, c.keep) {
				t.Errorf("%s: keep is now %s", what, show(keep))
			}
			expectOff(t, what, d)
			d.On()
			expectOn(t, what, d, 0)
			expect(t, what, d, 0, c.want)
			expect(t, what, d, 1, fill(c.other))
		}
	}
}

func show(l []int) string {
	s := ""
	for _, n := range l {
		s += strconv.Itoa(n) + ","
	}
	return s
}

func TestATornOtherSector(t *testing.T) {
	d := newDev(t, 2)
	put(t, d, 0, fill(1))
	put(t, d, 1, fill(2))
	d.Crash([]int{0}, 1)
	d.On()
	expect(t, "the kept write", d, 0, fill(1))
	expect(t, "the torn write", d, 1, mix(2, 0))
}

// The border of a torn write lies after exactly 256 bytes.
func TestTornBorder(t *testing.T) {
	d := newDev(t, 1)
	put(t, d, 0, pattern(1))
	flush(t, d)
	put(t, d, 0, pattern(2))
	d.Crash(nil, 0)
	d.On()
	expect(t, "a torn write", d, 0, append(pattern(2)[:256], pattern(1)[256:]...))
}

func TestTornWritesOneAfterAnother(t *testing.T) {
	d := newDev(t, 1)
	put(t, d, 0, fill(1))
	d.Crash(nil, 0)
	d.On()
	expect(t, "the first crash", d, 0, mix(1, 0))
	put(t, d, 0, fill(2))
	d.Crash(nil, 0)
	d.On()
	expect(t, "the second crash", d, 0, mix(2, 0))
	d.Crash([]int{0}, 0)
	d.On()
	expect(t, "a crash without writes", d, 0, mix(2, 0))
}

// Numbers begin again from 0 after Flush and after a crash.
func TestNumbersOfWrites(t *testing.T) {
	d := newDev(t, 4)
	put(t, d, 0, fill(1))
	flush(t, d)
	put(t, d, 1, fill(2))
	put(t, d, 2, fill(3))
	d.Crash([]int{0}, -1)
	d.On()
	put(t, d, 3, fill(4))
	d.Crash([]int{0}, -1)
	d.On()
	for at, c := range []byte{1, 2, 0, 4} {
		expect(t, "after two crashes", d, at, fill(c))
	}
}

func TestRefusedWritesHaveNoNumber(t *testing.T) {
	d := newDev(t, 2)
	d.Write(2, fill(1))
	d.Write(0, nil)
	put(t, d, 1, fill(2))
	d.Crash([]int{0}, -1)
	d.On()
	expect(t, "the only write", d, 1, fill(2))
	expect(t, "the other sector", d, 0, fill(0))
}

func TestCrashWithoutPowerDoesNothing(t *testing.T) {
	d := newDev(t, 1)
	put(t, d, 0, fill(1))
	d.Crash(nil, -1)
	d.Crash([]int{0}, 0)
	expectOff(t, "after two crashes", d)
	d.On()
	expect(t, "after On", d, 0, fill(0))
}

func TestCallsWithoutPowerHaveNoEffect(t *testing.T) {
	d := newDev(t, 2)
	put(t, d, 0, fill(1))
	flush(t, d)
	put(t, d, 1, fill(2))
	d.Crash(nil, -1)
	d.Write(0, fill(3))
	d.Write(1, fill(3))
	d.Flush()
	d.Crash([]int{0, 1}, -1)
	if d.Sectors() != 2 {
		t.Errorf("Sectors without power is %d", d.Sectors())
	}
	d.On()
	expectOn(t, "after On", d, 0)
	expect(t, "the flushed write", d, 0, fill(1))
	expect(t, "the lost write", d, 1, fill(0))
	flush(t, d)
	expect(t, "after one more Flush", d, 1, fill(0))
}

func TestOnWithPowerDoesNothing(t *testing.T) {
	d := newDev(t, 1)
	put(t, d, 0, fill(1))
	d.Fuse(2, []int{0}, -1)
	d.On()
	expectOn(t, "after On", d, 1)
	expect(t, "after On", d, 0, fill(1))
	put(t, d, 0, fill(2))
	if err := d.Flush(); err != api.EOFF {
		t.Errorf("the fuse is gone after On: %v", err)
	}
	d.On()
	d.On()
	expect(t, "after the crash", d, 0, fill(1))
}

// Every row of up to six calls, of which the last one crashes.
func TestFuseCountsWritesAndFlushes(t *testing.T) {
	for n := 1; n <= 6; n++ {
		for flushes := range 1 << n {
			d := newDev(t, n)
			d.Fuse(n, nil, -1)
			want := make([]byte, n)
			for call := range n - 1 {
				if flushes>>call&1 == 0 {
					put(t, d, call, fill(byte(call+1)))
					continue
				}
				flush(t, d)
				for at := range call {
					want[at] = byte(at+1) * byte(1-flushes>>at&1)
				}
			}
			if flushes>>(n-1) == 0 && d.Write(n-1, fill(7)) != api.EOFF || flushes>>(n-1) == 1 && d.Flush() != api.EOFF {
				t.Errorf("call %d does not return EOFF", n)
			}
			what := strconv.Itoa(n) + " calls, flushes " + strconv.FormatInt(int64(flushes), 2)
			expectOff(t, what, d)
			d.On()
			for at, c := range want {
				expect(t, what, d, at, fill(c))
			}
		}
	}
}

func TestFuseOfAWrite(t *testing.T) {
	d := newDev(t, 2)
	put(t, d, 0, fill(1))
	d.Fuse(1, []int{0, 1}, -1)
	expectOn(t, "after Fuse", d, 1)
	if err := d.Write(1, fill(2)); err != api.EOFF {
		t.Errorf("the call that crashes returns %v", err)
	}
	expectOff(t, "after the fuse", d)
	d.On()
	expect(t, "the write before", d, 0, fill(1))
	expect(t, "the write that was not performed", d, 1, fill(0))
}

func TestFuseOfAFlush(t *testing.T) {
	d := newDev(t, 2)
	put(t, d, 0, fill(1))
	put(t, d, 1, fill(2))
	d.Fuse(1, nil, 1)
	if err := d.Flush(); err != api.EOFF {
		t.Errorf("the call that crashes returns %v", err)
	}
	expectOff(t, "after the fuse", d)
	d.On()
	expect(t, "the lost write", d, 0, fill(0))
	expect(t, "the torn write", d, 1, mix(2, 0))
}

func TestFuseCountsOnlyWhatWouldSucceed(t *testing.T) {
	d := newDev(t, 2)
	d.Fuse(2, nil, -1)
	other := func() {
		for _, at := range wrongNumbers(2) {
			if d.Write(at, fill(1)) != api.EARG {
				t.Errorf("Write(%d) is not refused", at)
			}
			d.Read(at)
		}
		if d.Write(0, nil) != api.EARG || d.Write(1, make([]byte, api.MaxSector+1)) != api.EARG {
			t.Error("a Write of a wrong length is not refused")
		}
		d.Read(0)
		d.On()
		d.Off()
		d.Unsafe()
		d.Sectors()
	}
	other()
	put(t, d, 0, fill(1))
	other()
	expectOn(t, "after one call that succeeds", d, 1)
	if err := d.Write(0, fill(2)); err != api.EOFF {
		t.Errorf("the second call that would succeed: %v", err)
	}
	expectOff(t, "after it", d)
}

// The writes are numbered as they lie in the cache when the crash takes place,
// not when Fuse was called.
func TestFuseNumbersWritesAtTheCrash(t *testing.T) {
	d := newDev(t, 3)
	put(t, d, 0, fill(1))
	d.Fuse(4, []int{0}, 1)
	flush(t, d)
	put(t, d, 1, fill(2))
	put(t, d, 2, fill(3))
	if err := d.Flush(); err != api.EOFF {
		t.Errorf("the fourth call: %v", err)
	}
	d.On()
	expect(t, "the flushed write", d, 0, fill(1))
	expect(t, "the kept write", d, 1, fill(2))
	expect(t, "the torn write", d, 2, mix(3, 0))
}

func TestFuseKeepsACopyOfItsList(t *testing.T) {
	d := newDev(t, 2)
	backing := []int{0, 1, 1}
	keep := backing[:1]
	d.Fuse(3, keep, -1)
	if !slices.Equal(backing, []int{0, 1, 1}) {
		t.Errorf("Fuse changes its argument to %v", backing)
	}
	backing[0] = 1
	put(t, d, 0, fill(1))
	put(t, d, 1, fill(2))
	d.Flush()
	if !slices.Equal(backing, []int{1, 1, 1}) {
		t.Errorf("the crash changes the argument to %v", backing)
	}
	d.On()
	expect(t, "the kept write", d, 0, fill(1))
	expect(t, "the lost write", d, 1, fill(0))
}

func TestALaterFuseReplacesAnEarlierOne(t *testing.T) {
	d := newDev(t, 2)
	d.Fuse(1, []int{0}, -1)
	d.Fuse(3, []int{1}, -1)
	put(t, d, 0, fill(1))
	put(t, d, 1, fill(2))
	if err := d.Write(0, fill(3)); err != api.EOFF {
		t.Errorf("the third call: %v", err)
	}
	d.On()
	expect(t, "the lost write", d, 0, fill(0))
	expect(t, "the kept write", d, 1, fill(2))
}

// The calls are counted from the Fuse that holds, not from an earlier one.
func TestALaterFuseCountsFromItself(t *testing.T) {
	d := newDev(t, 1)
	d.Fuse(3, nil, -1)
	put(t, d, 0, fill(1))
	put(t, d, 0, fill(2))
	d.Fuse(2, nil, -1)
	put(t, d, 0, fill(3))
	if err := d.Flush(); err != api.EOFF {
		t.Errorf("the second call: %v", err)
	}
}

func TestFuseOfNoCallArrangesNoCrash(t *testing.T) {
	for _, calls := range []int{0, -1, -2, math.MinInt} {
		d := newDev(t, 1)
		d.Fuse(calls, []int{0}, 0)
		for i := range 5 {
			put(t, d, 0, fill(byte(i)))
			flush(t, d)
		}
		d.Fuse(1, nil, -1)
		d.Fuse(calls, nil, -1)
		for i := range 5 {
			put(t, d, 0, fill(byte(i)))
			flush(t, d)
		}
		expectOn(t, "Fuse("+strconv.Itoa(calls)+")", d, 0)
	}
}

func TestFuseOfManyCalls(t *testing.T) {
	for _, calls := range []int{1000, 1 << 40, math.MaxInt} {
		d := newDev(t, 1)
		d.Fuse(calls, nil, -1)
		for i := range 999 {
			put(t, d, 0, fill(byte(i)))
		}
		if err := d.Flush(); (err == api.EOFF) != (calls == 1000) {
			t.Errorf("Fuse(%d): call 1000: %v", calls, err)
		}
	}
}

func TestFuseWithoutPowerDoesNothing(t *testing.T) {
	d := newDev(t, 1)
	d.Crash(nil, -1)
	d.Fuse(1, nil, -1)
	d.On()
	put(t, d, 0, fill(1))
	flush(t, d)
	expectOn(t, "after Fuse without power", d, 0)
}

func TestACrashCancelsTheFuse(t *testing.T) {
	for _, calls := range []int{1, 2, 3} {
		d := newDev(t, 1)
		d.Fuse(calls, nil, -1)
		if calls > 1 {
			put(t, d, 0, fill(1))
		}
		d.Crash(nil, -1)
		d.On()
		for range 4 {
			put(t, d, 0, fill(2))
			flush(t, d)
		}
		expectOn(t, "after Crash and On", d, 0)
	}
}

func TestAFuseCrashesOnce(t *testing.T) {
	d := newDev(t, 1)
	d.Fuse(1, nil, -1)
	if err := d.Flush(); err != api.EOFF {
		t.Errorf("Flush: %v", err)
	}
	for range 3 {
		if err := d.Flush(); err != api.EOFF {
			t.Errorf("Flush without power: %v", err)
		}
	}
	d.On()
	for range 3 {
		put(t, d, 0, fill(1))
		flush(t, d)
	}
	expectOn(t, "after the crash and On", d, 0)
	expect(t, "after the crash and On", d, 0, fill(1))
}

func TestDevicesAreApart(t *testing.T) {
	a, b := newDev(t, 1), newDev(t, 1)
	put(t, a, 0, fill(1))
	a.Fuse(1, nil, -1)
	put(t, b, 0, fill(2))
	flush(t, b)
	a.Crash(nil, -1)
	expectOn(t, "the other device", b, 0)
	expect(t, "the other device", b, 0, fill(2))
	a.On()
	expect(t, "the first device", a, 0, fill(0))
}

// Many writes without Flush, and a long keep: no call may search the whole
// cache for each of them.
func TestALongCache(t *testing.T) {
	const writes = 200_000
	d := newDev(t, 2)
	data := fill(1)
	keep := make([]int, writes)
	for i := range writes {
		data[0], data[api.MaxSector-1] = byte(i), byte(i>>8)
		put(t, d, 0, data)
		if _, err := d.Read(1); err != api.OK {
			t.Fatalf("Read: %v", err)
		}
		keep[i] = writes - i
	}
	expectOn(t, "a long cache", d, writes)
	expect(t, "a long cache", d, 0, data)
	d.Crash(keep, 0)
	d.On()
	expect(t, "after the crash", d, 0, data)
}

// model is what the chapter says of a device, as plain as can be: nothing but
// the durable sectors and the list of the writes after them.
type model struct {
	durable [2][]byte
	at      []int
	data    [][]byte
	off     bool
	calls   int
	keep    []int
	torn    int
}

func (m *model) write(at int, b []byte) api.Errno {
	if m.off {
		return api.EOFF
	}
	if at < 0 || at > 1 || len(b) != api.MaxSector {
		return api.EARG
	}
	if m.crashes() {
		return api.EOFF
	}
	m.at, m.data = append(m.at, at), append(m.data, b)
	return api.OK
}

func (m *model) flush() api.Errno {
	if m.off || m.crashes() {
		return api.EOFF
	}
	for i, at := range m.at {
		m.durable[at] = m.data[i]
	}
	m.at, m.data = nil, nil
	return api.OK
}

func (m *model) crashes() bool {
	m.calls--
	if m.calls != 0 {
		return false
	}
	m.crash(m.keep, m.torn)
	return true
}

func (m *model) crash(keep []int, torn int) {
	if m.off {
		return
	}
	for i, at := range m.at {
		if slices.Contains(keep, i) {
			m.durable[at] = m.data[i]
		} else if i == torn {
			m.durable[at] = slices.Concat(m.data[i][:256], m.durable[at][256:])
		}
	}
	m.at, m.data, m.off, m.calls = nil, nil, true, 0
}

func (m *model) fuse(calls int, keep []int, torn int) {
	if !m.off {
		m.calls, m.keep, m.torn = max(calls, 0), keep, torn
	}
}

func (m *model) read(at int) ([]byte, api.Errno) {
	if m.off {
		return nil, api.EOFF
	}
	b := m.durable[at]
	for i := range m.at {
		if m.at[i] == at {
			b = m.data[i]
		}
	}
	return b, api.OK
}

const acts = 12

// act does one thing to the device and to its model and returns what each of
// the two told. A write has the number of its step in it.
func act(d *dev.Dev, m *model, step, n int) (got, want api.Errno) {
	b := fill(byte(step + 1))
	switch n {
	case 0, 1:
		return d.Write(n, b), m.write(n, b)
	case 2:
		return d.Write(2, b), m.write(2, b)
	case 3:
		return d.Flush(), m.flush()
	case 4:
		d.Crash(nil, -1)
		m.crash(nil, -1)
	case 5:
		d.Crash([]int{1}, 0)
		m.crash([]int{1}, 0)
	case 6:
		d.Crash([]int{0, 2}, 1)
		m.crash([]int{0, 2}, 1)
	case 7:
		d.On()
		m.off = false
	case 8, 9, 10, 11:
		calls, keep := n-9, []int{0}
		d.Fuse(calls, keep, calls)
		m.fuse(calls, keep, calls)
	}
	return api.OK, api.OK
}

// Every row of five things that can be done to a device of two sectors.
func TestAllShortScripts(t *testing.T) {
	const steps = 5
	scripts := 1
	for range steps {
		scripts *= acts
	}
	for script := range scripts {
		d := newDev(t, 2)
		m := &model{durable: [2][]byte{fill(0), fill(0)}}
		for step, rest := 0, script; step < steps; step, rest = step+1, rest/acts {
			if got, want := act(d, m, step, rest%acts); got != want {
				t.Fatalf("script %d, step %d, act %d: %v, want %v", script, step, rest%acts, got, want)
			}
			if d.Off() != m.off || d.Unsafe() != len(m.at) || d.Sectors() != 2 {
				t.Fatalf("script %d, step %d: Off is %v, Unsafe is %d, Sectors is %d", script, step, d.Off(), d.Unsafe(), d.Sectors())
			}
			for at := range 2 {
				got, err := d.Read(at)
				if want, wantErr := m.read(at); err != wantErr || !bytes.Equal(got, want) {
					t.Fatalf("script %d, step %d: sector %d is %s, %v, want %s, %v", script, step, at, ends(got), err, ends(want), wantErr)
				}
			}
		}
	}
}
