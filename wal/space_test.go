package wal_test

import (
	"testing"

	"franking/api"
	"franking/wal"
)

// perSector is how many counted bytes for each sector are promised.
const perSector = 150

func sizesOfDevices() []int {
	return []int{8, 9, 10, 11, 12, 13, 16, 33, 64, 100, 1000}
}

// fill adds bodies of one size, as many as are promised.
func fill(t *testing.T, l *wal.Log, s state, sectors, size int) state {
	t.Helper()
	for {
		o := add(text(size, uint32(len(s.records))))
		next := s.with(o)
		if next.counted() > perSector*sectors {
			return s
		}
		if n := l.Free(); n < size {
			t.Fatalf("%d sectors, %d bytes promised: Free is %d", sectors, size, n)
		}
		mustDo(t, l, o)
		s = next
	}
}

func TestPromisedSpace(t *testing.T) {
	for _, sectors := range sizesOfDevices() {
		for _, size := range []int{0, 1, 7, 100, 500, 512, perSector*sectors - 64, perSector*sectors - 128} {
			if size > api.MaxValue {
				continue
			}
			d := newDev(t, sectors)
			l := mustOpen(t, d)
			s := fill(t, l, state{}, sectors, size)
			l = expectStored(t, "filled", d, s)
			for _, base := range []int{0, 1, size / 2, size} {
				o := keep(text(base, 5))
				if s.with(o).counted() > perSector*sectors {
					continue
				}
				mustDo(t, l, o)
				s = fill(t, l, s.with(o), sectors, size)
				l = expectStored(t, "filled behind a base", d, s)
			}
		}
	}
}

// TestGreatestBases: Keep has room beside a base and records of any sizes.
func TestGreatestBases(t *testing.T) {
	for _, sectors := range sizesOfDevices() {
		d := newDev(t, sectors)
		l := mustOpen(t, d)
		var s state
		greatest := min(perSector*sectors-64, api.MaxValue)
		for i := range 6 {
			o := keep(text(greatest-i%2, uint32(i)))
			mustDo(t, l, o)
			s = s.with(o)
			l = expectStored(t, "the greatest base", d, s)
			s = fill(t, l, s, sectors, 0)
		}
	}
}

func TestFull(t *testing.T) {
	for _, sectors := range []int{8, 9, 10, 13, 64} {
		for _, size := range []int{0, 1, 100, 479, 480, 481, 496, 512, 700} {
			fillUp(t, sectors, size)
		}
	}
}

func fillUp(t *testing.T, sectors, size int) {
	t.Helper()
	d := newDev(t, sectors)
	l := mustOpen(t, d)
	var s state
	for {
		o := add(text(size, uint32(len(s.records))))
		err := o.on(l)
		if err == api.EFULL {
			break
		}
		if err != api.OK {
			t.Fatalf("%d sectors: %v", sectors, err)
		}
		s = s.with(o)
	}
	if s.with(add(text(size, 0))).counted() <= perSector*sectors {
		t.Fatalf("%d sectors are full with %d records of %d bytes", sectors, len(s.records), size)
	}
	if d.Unsafe() != 0 || l.Done() {
		t.Error("EFULL changes something")
	}
	expectState(t, "full", l, s)
	if n := l.Free(); n >= max(size, 1) {
		t.Errorf("%d sectors: Free is %d, but there is no space for %d", sectors, n, size)
	}
	if n := l.Free(); n > 0 {
		o := add(text(n, 9))
		mustDo(t, l, o)
		s = s.with(o)
	}
	if err := l.Keep(make([]byte, sectors*api.MaxSector)); err != api.EFULL {
		t.Errorf("%d sectors: a base that is as long as the device: %v", sectors, err)
	}
	l = expectStored(t, "full", d, s)
	mustDo(t, l, keep("small"))
	s = fill(t, l, state{base: "small"}, sectors, size)
	expectStored(t, "filled again", d, s)
}

// TestFree adds what Free tells, after each of many states.
func TestFree(t *testing.T) {
	for _, sectors := range []int{8, 9, 50, 2000} {
		d := newDev(t, sectors)
		l := mustOpen(t, d)
		for i := 0; ; i++ {
			free := l.Free()
			if free < 0 || free > api.MaxValue {
				t.Fatalf("%d sectors: Free is %d", sectors, free)
			}
			if again := mustOpen(t, d).Free(); again != free {
				t.Fatalf("%d sectors: Free is %d, and %d when opened again", sectors, free, again)
			}
			if free == 0 {
				break
			}
			body := text(max(free/3, min(free, 40)), uint32(i))
			mustDo(t, l, add(body))
			fillsUp(t, sectors, stateOf(l))
		}
	}
}

// fillsUp adds as many bytes as Free tells to a log with the state s.
func fillsUp(t *testing.T, sectors int, s state) {
	t.Helper()
	d := newDev(t, sectors)
	l := mustOpen(t, d)
	mustDo(t, l, keep(s.base))
	for _, r := range s.records {
		mustDo(t, l, add(r))
	}
	for l.Free() > 0 {
		before := l.Free()
		o := add(text(before, 3))
		mustDo(t, l, o)
		s = s.with(o)
		if l.Free() >= before && before < api.MaxValue {
			t.Fatalf("Free is %d after %d bytes more, and was %d", l.Free(), before, before)
		}
	}
	expectStored(t, "filled up", d, s)
}

func TestFreeOfGreatDevice(t *testing.T) {
	d := newDev(t, api.MaxSectors)
	l := mustOpen(t, d)
	for range 5 {
		if n := l.Free(); n != api.MaxValue {
			t.Fatalf("Free of the greatest device: %d", n)
		}
		mustDo(t, l, add(text(api.MaxValue, 1)))
	}
}

// TestKeepOfEachLength finds by trial which bases are too long.
func TestKeepOfEachLength(t *testing.T) {
	for _, sectors := range []int{8, 9} {
		d := newDev(t, sectors)
		l := mustOpen(t, d)
		var s state
		full := false
		for n := range sectors * api.MaxSector {
			o := keep(text(n, 1))
			switch err := o.on(l); {
			case err == api.OK && !full:
				s = s.with(o)
			case err == api.EFULL && n+64 > perSector*sectors:
				full = true
			default:
				t.Fatalf("%d sectors, a base of %d bytes: %v", sectors, n, err)
			}
			if n%3 == 0 {
				l = expectStored(t, "a base of any length", d, s)
			}
		}
		if !full {
			t.Errorf("%d sectors are enough for any base", sectors)
		}
	}
}
