package wal_test

import (
	"testing"

	"franking/api"
	"franking/dev"
	"franking/rec"
	"franking/wal"
)

// crash is what becomes of the cache when the power fails.
type crash struct {
	keep []int
	torn int
}

// crashes tears, keeps or loses each of the first few writes of the cache, and
// treats the many writes of a long body alike.
func crashes() []crash {
	var l []crash
	for set := range 1 << 4 {
		var keep []int
		for n := range 4 {
			if set>>n&1 == 1 {
				keep = append(keep, n)
			}
		}
		for torn := -1; torn < 4; torn++ {
			l = append(l, crash{keep, torn})
		}
	}
	var all []int
	for n := range 100 {
		all = append(all, n)
	}
	return append(l, crash{all, -1}, crash{all[1:], 0}, crash{all[4:], 1}, crash{all[:5], 5}, crash{[]int{-1, 3, 3, 1 << 40}, 2})
}

// nested is a body full of records, each of which would do as the next one of
// some stream, so that whatever of it is left behind a stream tempts the log.
func nested(first, size int) string {
	var b []byte
	for num := first; ; num++ {
		longer, err := rec.Put(b, rec.Rec{Num: int64(num), Body: nil})
		if err != api.OK || len(longer) > size {
			return string(b)
		}
		b = longer
	}
}

// repeated is a body of one record over and over.
func repeated(num int64, size int) string {
	one, _ := rec.Put(nil, rec.Rec{Num: num})
	var b []byte
	for len(b)+len(one) <= size {
		b = append(b, one...)
	}
	return string(b)
}

// histories are calls the last of which the power fails in.
func histories() [][]op {
	return [][]op{
		{add("a")},
		{add("")},
		{add(text(1000, 1))},
		{keep("a")},
		{keep("")},
		{keep(text(1000, 1))},
		{add("a"), add("b")},
		{add("a"), add("")},
		{add("a"), keep("")},
		{add(text(300, 1)), add(text(300, 2))},
		{add(text(200, 1)), add(text(20, 2)), add(text(40, 3))},
		{add(text(464, 1)), add("b")},
		{add(text(479, 1)), add("b")},
		{add(text(480, 1)), add("b")},
		{add(text(481, 1)), add("b")},
		{add("a"), add(text(900, 2))},
		{keep("base"), add("a"), add("b")},
		{keep("base"), add("a"), keep("other")},
		{keep(text(700, 1)), add("a"), keep(text(800, 2))},
		{keep(text(800, 1)), add("a"), keep("b")},
		{keep("a"), keep("b"), keep("c")},
		{keep("a"), add("x"), keep("b"), add("y"), add("z")},
		{add(text(1000, 1)), keep(""), add("a"), add("b")},
		{add(nested(1, 1100)), keep("a"), keep("b"), add("c")},
		{add(nested(2, 1100)), keep(""), add("")},
		{add(nested(2, 1100)), keep(""), keep(""), add("")},
		{add(nested(2, 1100)), keep(""), keep(""), add(""), add("")},
		{keep(nested(1, 1000)), keep(nested(2, 1000)), add(""), keep("")},
		{keep(""), add(repeated(3, 1000)), keep(""), keep(""), add("")},
		{keep(""), add(repeated(3, 1000)), keep(""), keep(""), add(""), add("x")},
		{add("a"), add(repeated(4, 1000)), keep("a"), keep("a"), add("b"), add("c")},
	}
}

// isOneOf returns the state of the log, which must be one of two.
func isOneOf(t *testing.T, what string, l *wal.Log, before, after state) state {
	t.Helper()
	got := stateOf(l)
	if !got.equal(before) && !got.equal(after) {
		t.Fatalf("%s: a base of %d bytes and %d records, which is neither before nor after the call", what, len(got.base), len(got.records))
	}
	return got
}

// expectDone looks at a log after a call that the power failed in.
func expectDone(t *testing.T, l *wal.Log, want state) {
	t.Helper()
	if !l.Done() || l.Add(nil) != api.EOFF || l.Keep(nil) != api.EOFF {
		t.Fatal("the log is not done")
	}
	expectState(t, "done", l, want)
}

// crashIn lets the power fail in the last call of a history, and reports
// whether it did: the call may be over before.
func crashIn(t *testing.T, d *dev.Dev, l *wal.Log, before state, last op, calls int, c crash) (state, bool) {
	t.Helper()
	d.Fuse(calls, c.keep, c.torn)
	err := last.on(l)
	if err == api.OK && !d.Off() {
		d.Crash(nil, -1)
		d.On()
		after := before.with(last)
		expectState(t, "a whole call", mustOpen(t, d), after)
		return after, false
	}
	if err != api.EOFF || !d.Off() {
		t.Fatalf("call %d of the device: %v", calls, err)
	}
	expectDone(t, l, before)
	d.On()
	expectDone(t, l, before)
	got := isOneOf(t, "after the crash", mustOpen(t, d), before, before.with(last))
	expectState(t, "opened again", mustOpen(t, d), got)
	expectStored(t, "after another crash", d, got)
	return got, true
}

// started runs all calls of a history but the last.
func started(t *testing.T, sectors int, history []op) (*dev.Dev, *wal.Log, state) {
	t.Helper()
	d := newDev(t, sectors)
	l := mustOpen(t, d)
	var s state
	for _, o := range history[:len(history)-1] {
		mustDo(t, l, o)
		s = s.with(o)
	}
	return d, l, s
}

func TestCrashAtEachCall(t *testing.T) {
	for _, history := range histories() {
		last := history[len(history)-1]
		for _, c := range crashes() {
			calls := 1
			for ; ; calls++ {
				d, l, before := started(t, 12, history)
				got, failed := crashIn(t, d, l, before, last, calls, c)
				goOn(t, d, got)
				if !failed {
					break
				}
			}
			if calls < 3 {
				t.Fatalf("a call needs only %d calls of the device", calls-1)
			}
		}
	}
}

// goOn uses a log after a crash, with bodies that leave much of what the crash
// left on the device.
func goOn(t *testing.T, d *dev.Dev, s state) {
	t.Helper()
	l := mustOpen(t, d)
	for _, o := range []op{add(""), add("next"), keep("k"), add(""), keep(""), add("")} {
		mustDo(t, l, o)
		s = s.with(o)
		l = expectStored(t, "gone on after the crash", d, s)
	}
}

// TestCrashTwice: the power fails again in the first call after a crash.
func TestCrashTwice(t *testing.T) {
	few := []crash{{nil, 0}, {[]int{0}, 1}, {[]int{1}, 0}, {[]int{0, 1, 2, 3, 4, 5}, -1}}
	seconds := []op{add(""), add(text(700, 4)), keep("")}
	for _, history := range histories() {
		last := history[len(history)-1]
		for _, c := range few {
			for calls := 1; ; calls++ {
				d, l, before := started(t, 12, history)
				_, failed := crashIn(t, d, l, before, last, calls, c)
				if !failed {
					break
				}
				crashAgain(t, history, seconds, calls, c)
			}
		}
	}
}

func crashAgain(t *testing.T, history, seconds []op, first int, c crash) {
	t.Helper()
	for _, second := range seconds {
		for _, again := range []crash{{nil, 0}, {[]int{0, 1}, 2}} {
			for calls := 1; ; calls++ {
				d, l, before := started(t, 12, history)
				got, _ := crashIn(t, d, l, before, history[len(history)-1], first, c)
				got, failed := crashIn(t, d, mustOpen(t, d), got, second, calls, again)
				goOn(t, d, got)
				if !failed {
					break
				}
			}
		}
	}
}

// TestCrashInFullLog: a call that is refused reaches no call of the device.
func TestCrashInFullLog(t *testing.T) {
	d := newDev(t, 8)
	l := mustOpen(t, d)
	for l.Add(make([]byte, 50)) == api.OK {
	}
	want := stateOf(l)
	d.Fuse(1, nil, -1)
	for _, o := range []op{add(text(50, 1)), keep(text(5000, 1)), add(text(api.MaxValue+1, 1)), keep(text(api.MaxValue+1, 1))} {
		if err := o.on(l); err == api.OK || err == api.EOFF || d.Off() || l.Done() {
			t.Fatalf("a call that is refused: %v", err)
		}
	}
	expectState(t, "full", l, want)
	if err := l.Keep(nil); err != api.EOFF || !l.Done() {
		t.Errorf("the next call: %v", err)
	}
}

// TestLongHistory crashes again and again on one device.
func TestLongHistory(t *testing.T) {
	d := newDev(t, 16)
	l := mustOpen(t, d)
	var s state
	all := crashes()
	seed := uint32(1)
	random := func(n int) int {
		seed = seed*1664525 + 1013904223
		return int(seed>>8) % n
	}
	for i := range 5000 {
		o := op{keep: random(10) == 0, body: text(random(400)*random(2), uint32(i))}
		c := all[random(len(all))]
		d.Fuse(random(12), c.keep, c.torn)
		switch err := o.on(l); err {
		case api.OK:
			s = s.with(o)
		case api.EFULL:
			d.Fuse(0, nil, -1)
			mustDo(t, l, keep(""))
			s = state{}
		case api.EOFF:
			expectDone(t, l, s)
			d.On()
			l = mustOpen(t, d)
			s = isOneOf(t, "after the crash", l, s, s.with(o))
		default:
			t.Fatal(err)
		}
		d.Fuse(0, nil, -1)
		expectState(t, "in the long history", l, s)
	}
	expectStored(t, "after the long history", d, s)
}
