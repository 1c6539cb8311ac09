package wal_test

import (
	"bytes"
	"slices"
	"strings"
	"testing"

	"franking/api"
	"franking/dev"
	"franking/wal"
)

// state is what a log stores, by its definition.
type state struct {
	base    string
	records []string
}

func (s state) with(o op) state {
	if o.keep {
		return state{base: o.body}
	}
	return state{base: s.base, records: append(slices.Clone(s.records), o.body)}
}

func (s state) equal(other state) bool {
	return s.base == other.base && slices.Equal(s.records, other.records)
}

// counted is the size of a state as the promise of space counts it.
func (s state) counted() int {
	n := len(s.base) + 64
	for _, r := range s.records {
		n += len(r) + 64
	}
	return n
}

// op is one call of Add, or of Keep.
type op struct {
	keep bool
	body string
}

func add(body string) op  { return op{body: body} }
func keep(base string) op { return op{keep: true, body: base} }

func (o op) on(l *wal.Log) api.Errno {
	if o.keep {
		return l.Keep([]byte(o.body))
	}
	return l.Add([]byte(o.body))
}

func stateOf(l *wal.Log) state {
	s := state{base: string(l.Base())}
	for _, r := range l.All() {
		s.records = append(s.records, string(r))
	}
	return s
}

// text returns n bytes without a short period, different ones for each seed.
func text(n int, seed uint32) string {
	b := make([]byte, n)
	for i := range b {
		seed = seed*1664525 + 1013904223
		b[i] = byte(seed >> 24)
	}
	return string(b)
}

func newDev(t *testing.T, sectors int) *dev.Dev {
	t.Helper()
	d, err := dev.New(sectors)
	if err != api.OK {
		t.Fatalf("a device with %d sectors: %v", sectors, err)
	}
	return d
}

func mustOpen(t *testing.T, d *dev.Dev) *wal.Log {
	t.Helper()
	l, err := wal.Open(d)
	if err != api.OK || l == nil {
		t.Fatalf("Open: %v", err)
	}
	if l.Done() {
		t.Fatal("Open: the log is done")
	}
	return l
}

func mustDo(t *testing.T, l *wal.Log, ops ...op) {
	t.Helper()
	for _, o := range ops {
		if err := o.on(l); err != api.OK {
			t.Fatalf("%d bytes (Keep: %v): %v", len(o.body), o.keep, err)
		}
	}
}

func expectState(t *testing.T, what string, l *wal.Log, want state) {
	t.Helper()
	if got := stateOf(l); !got.equal(want) {
		t.Fatalf("%s: a base of %d bytes and %d records, want %d bytes and %d records, or other bytes",
			what, len(got.base), len(got.records), len(want.base), len(want.records))
	}
}

// expectStored looks at what a crash that loses all the cache leaves.
func expectStored(t *testing.T, what string, d *dev.Dev, want state) *wal.Log {
	t.Helper()
	d.Crash(nil, -1)
	d.On()
	l := mustOpen(t, d)
	expectState(t, what, l, want)
	return l
}

func TestExample(t *testing.T) {
	d := newDev(t, 8)
	l := mustOpen(t, d)
	mustDo(t, l, add("a"), add("b"))
	expectState(t, "before the crash", l, state{records: []string{"a", "b"}})
	expectStored(t, "after the crash", d, state{records: []string{"a", "b"}})
}

func TestOpenNew(t *testing.T) {
	for _, sectors := range []int{8, 9, 10, 11, 100, api.MaxSectors} {
		d := newDev(t, sectors)
		expectState(t, "new", mustOpen(t, d), state{})
		expectState(t, "opened again", mustOpen(t, d), state{})
		expectStored(t, "after a crash", d, state{})
	}
}

func TestOpenErrors(t *testing.T) {
	for sectors := 1; sectors <= 9; sectors++ {
		d := newDev(t, sectors)
		want := api.OK
		if sectors < 8 {
			want = api.EARG
		}
		if l, err := wal.Open(d); err != want || (l == nil) != (want != api.OK) {
			t.Errorf("%d sectors: %v, %v, want %v", sectors, l, err, want)
		}
		d.Crash(nil, -1)
		if l, err := wal.Open(d); err != api.EOFF || l != nil {
			t.Errorf("%d sectors without power: %v, %v, want %v", sectors, l, err, api.EOFF)
		}
		d.On()
		if l, err := wal.Open(d); err != want || (l == nil) != (want != api.OK) {
			t.Errorf("%d sectors with power again: %v, %v, want %v", sectors, l, err, want)
		}
	}
}

// TestOpenDoesNotWrite: with no power lost in between, Open is no reason for a
// crash that is arranged for the next Write or Flush.
func TestOpenDoesNotWrite(t *testing.T) {
	d := newDev(t, 8)
	d.Fuse(1, nil, -1)
	l := mustOpen(t, d)
	if d.Off() || d.Unsafe() != 0 {
		t.Error("Open of a new device writes to it")
	}
	if err := l.Add([]byte("a")); err != api.EOFF {
		t.Errorf("Add at the crash: %v", err)
	}
}

// longScript has bodies around the sizes of sectors and of halves of them.
func longScript() []op {
	l := []op{add(""), add("a"), add("")}
	for i, n := range []int{1, 239, 240, 241, 255, 256, 257, 479, 480, 481, 495, 496, 497, 511, 512, 513, 1000, 1024, 1500} {
		l = append(l, add(text(n, uint32(i))), add(""), keep(text(n, uint32(i+100))), add(text(n, uint32(i+200))), add("x"))
	}
	l = append(l, keep(""), keep(""), keep("b"), keep("b"), add("b"), keep(""), add(""), add(""))
	return append(l, add(text(3000, 7)), keep(text(5000, 8)), add(text(2000, 9)), keep("z"))
}

func TestScript(t *testing.T) {
	d := newDev(t, 200)
	l := mustOpen(t, d)
	var s state
	for i, o := range longScript() {
		mustDo(t, l, o)
		s = s.with(o)
		expectState(t, "before the crash", l, s)
		if n := d.Unsafe(); n != 0 {
			t.Fatalf("call %d leaves %d writes in the cache", i, n)
		}
		l = expectStored(t, "after the crash", d, s)
	}
}

func TestScriptWithoutCrash(t *testing.T) {
	d := newDev(t, 200)
	l := mustOpen(t, d)
	var s state
	for _, o := range longScript() {
		mustDo(t, l, o)
		s = s.with(o)
		expectState(t, "in one log", l, s)
	}
	expectState(t, "opened again without a crash", mustOpen(t, d), s)
	expectStored(t, "after the crash", d, s)
}

func TestPowerBackBetweenCalls(t *testing.T) {
	d := newDev(t, 8)
	l := mustOpen(t, d)
	mustDo(t, l, add("a"))
	d.Crash(nil, -1)
	d.On()
	if l.Done() {
		t.Error("done though no call has failed")
	}
	mustDo(t, l, add("b"), keep("c"), add("d"))
	expectStored(t, "one log over a crash", d, state{base: "c", records: []string{"d"}})
}

func TestEarlierLog(t *testing.T) {
	d := newDev(t, 20)
	first := mustOpen(t, d)
	mustDo(t, first, keep("base"), add("a"))
	second := mustOpen(t, d)
	mustDo(t, second, add("b"), keep("other"), add("c"))
	expectState(t, "the earlier log", first, state{base: "base", records: []string{"a"}})
	expectState(t, "the later log", second, state{base: "other", records: []string{"c"}})
	third := mustOpen(t, d)
	expectState(t, "the last log", third, state{base: "other", records: []string{"c"}})
	first.Add([]byte("d"))
	first.Keep([]byte("e"))
	first.Free()
}

func TestSizesOfBodies(t *testing.T) {
	d := newDev(t, api.MaxSectors)
	l := mustOpen(t, d)
	var s state
	for _, o := range []op{
		add(text(api.MaxValue, 1)), add(text(api.MaxValue-1, 2)), keep(text(api.MaxValue, 3)),
		add(text(api.MaxValue, 4)), keep(text(api.MaxValue-1, 5)), add("a"), add(text(api.MaxValue, 6)),
	} {
		mustDo(t, l, o)
		s = s.with(o)
		for _, wrong := range []op{add(text(api.MaxValue+1, 1)), keep(text(api.MaxValue+1, 1)), add(text(3*api.MaxValue, 1)), keep(text(3*api.MaxValue, 1))} {
			if err := wrong.on(l); err != api.EARG {
				t.Errorf("%d bytes (Keep: %v): %v, want %v", len(wrong.body), wrong.keep, err, api.EARG)
			}
		}
		if l.Done() || d.Unsafe() != 0 {
			t.Error("a wrong argument reaches the device")
		}
		expectState(t, "after wrong arguments", l, s)
	}
	expectStored(t, "the greatest bodies", d, s)
}

// TestOrderOfErrors: the device is asked last, so a call that fails before
// leaves the log as it is.
func TestOrderOfErrors(t *testing.T) {
	d := newDev(t, 8)
	l := mustOpen(t, d)
	mustDo(t, l, keep("base"), add("a"))
	want := state{base: "base", records: []string{"a"}}
	d.Crash(nil, -1)
	for _, c := range []struct {
		o    op
		want api.Errno
	}{
		{add(text(api.MaxValue+1, 1)), api.EARG},
		{keep(text(api.MaxValue+1, 1)), api.EARG},
		{add(text(api.MaxValue, 1)), api.EFULL},
		{keep(text(api.MaxValue, 1)), api.EFULL},
	} {
		if err := c.o.on(l); err != c.want || l.Done() {
			t.Errorf("%d bytes (Keep: %v) without power: %v, done %v, want %v", len(c.o.body), c.o.keep, err, l.Done(), c.want)
		}
	}
	d.On()
	mustDo(t, l, add("b"))
	want = want.with(add("b"))
	d.Crash(nil, -1)
	if err := l.Add(nil); err != api.EOFF || !l.Done() {
		t.Errorf("Add without power: %v, done %v", err, l.Done())
	}
	expectState(t, "done", l, want)
	expectStored(t, "after all", d, want)
}

func TestDone(t *testing.T) {
	for _, last := range []op{add("x"), keep("x"), add(""), keep("")} {
		d := newDev(t, 8)
		l := mustOpen(t, d)
		mustDo(t, l, keep("base"), add("a"))
		want := state{base: "base", records: []string{"a"}}
		free := l.Free()
		d.Crash(nil, -1)
		if l.Done() {
			t.Error("done before a call has failed")
		}
		if err := last.on(l); err != api.EOFF {
			t.Errorf("without power: %v", err)
		}
		for range 2 {
			for _, o := range []op{add("b"), keep("b"), add(""), keep(""), add(text(api.MaxValue, 1)), keep(text(api.MaxValue+1, 1)), add(text(api.MaxValue+1, 1))} {
				if err := o.on(l); err != api.EOFF || !l.Done() {
					t.Errorf("a log that is done: %v, done %v", err, l.Done())
				}
			}
			expectState(t, "done", l, want)
			d.On()
		}
		if n := l.Free(); n < 0 || n > free {
			t.Errorf("Free of a log that is done: %d, before %d", n, free)
		}
		if d.Unsafe() != 0 {
			t.Error("a log that is done writes")
		}
		again := mustOpen(t, d)
		expectState(t, "opened again", again, want)
		mustDo(t, again, add("c"))
		expectStored(t, "and used again", d, want.with(add("c")))
	}
}

func TestMemory(t *testing.T) {
	d := newDev(t, 20)
	l := mustOpen(t, d)
	whole := bytes.Repeat([]byte("q"), 60)
	base, body := whole[10:20], whole[30:40]
	copy(base, "0123456789")
	copy(body, "abcdefghij")
	before := string(whole)
	if l.Keep(base) != api.OK || l.Add(body) != api.OK || l.Add(body) != api.OK {
		t.Fatal("Keep or Add fails")
	}
	if string(whole) != before {
		t.Error("an argument is modified")
	}
	clear(whole)
	want := state{base: "0123456789", records: []string{"abcdefghij", "abcdefghij"}}
	for range 2 {
		expectState(t, "after the arguments change", l, want)
		clear(l.Base())
		all := l.All()
		for _, r := range all {
			clear(r)
			_ = append(r, "spare memory of a record"...)
		}
		clear(all)
		_ = append(l.Base(), "spare memory of the base"...)
		_ = append(all[:0:cap(all)], nil, nil, nil)
	}
	expectState(t, "after the results change", l, want)
	mustDo(t, l, add("c"))
	expectStored(t, "on the device", d, want.with(add("c")))
}

func TestMemoryOfOpen(t *testing.T) {
	d := newDev(t, 20)
	mustDo(t, mustOpen(t, d), keep("base"), add("a"), add("b"))
	l := mustOpen(t, d)
	clear(l.Base())
	for _, r := range l.All() {
		clear(r)
		_ = append(r, strings.Repeat("z", 100)...)
	}
	expectState(t, "after the results change", l, state{base: "base", records: []string{"a", "b"}})
}

func TestNilIsEmpty(t *testing.T) {
	d := newDev(t, 8)
	l := mustOpen(t, d)
	for _, empty := range [][]byte{nil, {}} {
		if l.Keep(empty) != api.OK || l.Add(empty) != api.OK || l.Add(empty) != api.OK {
			t.Fatal("Keep or Add of nothing fails")
		}
		l = expectStored(t, "nothing", d, state{records: []string{"", ""}})
	}
}
