package wal_test

import (
	"bytes"
	"math"
	"testing"

	"franking/api"
	"franking/dev"
	"franking/rec"
)

// sectorOf fills a sector with b, again and again if it is short.
func sectorOf(b []byte) []byte {
	s := bytes.Repeat(b, api.MaxSector/len(b)+1)
	return s[:api.MaxSector]
}

// padded is a sector that begins with b.
func padded(b []byte) []byte {
	s := make([]byte, api.MaxSector)
	copy(s, b)
	return s
}

func encoded(num int64, body string) []byte {
	b, _ := rec.Put(nil, rec.Rec{Num: num, Body: []byte(body)})
	return b
}

// foreignSectors are contents that something else may have written.
func foreignSectors() [][]byte {
	l := [][]byte{
		sectorOf([]byte{0xff}),
		sectorOf([]byte{1}),
		sectorOf([]byte("mail")),
		sectorOf([]byte{0, 0, 0, 0, 0, 0, 0, 1}),
		sectorOf([]byte{0, 3, 13, 64}),
		[]byte(text(api.MaxSector, 77)),
		padded([]byte{0, 3, 13, 64}),
		padded([]byte{0, 3, 13, 65}),
	}
	bodies := []string{"", "\x00", "\x01", "\x02", "\xff", "\x00\x00", "\x01\x01", text(400, 6)}
	nums := []int64{1, 2, 3, 15, 16, 17, 100, 511, 512, 513, 1500, 1535, 1536, 1537, 2047, 2048, 4096, 1 << 31, 1 << 32, 1<<32 + 16, 1 << 62, math.MaxInt64 - 1, math.MaxInt64}
	for _, num := range nums {
		for _, body := range bodies {
			l = append(l, padded(encoded(num, body)))
		}
	}
	return append(l, sectorOf(encoded(1, "")), sectorOf(encoded(2, "")), sectorOf(encoded(math.MaxInt64, "")), sectorOf([]byte(nested(1, 512))), sectorOf([]byte(nested(2, 512))))
}

func overwrite(t *testing.T, d *dev.Dev, at int, b []byte) {
	t.Helper()
	if err := d.Write(at, b); err != api.OK {
		t.Fatal(err)
	}
}

// useForeign takes whatever the log finds, and holds it to all that follows.
func useForeign(t *testing.T, d *dev.Dev) {
	t.Helper()
	if err := d.Flush(); err != api.OK {
		t.Fatal(err)
	}
	l := mustOpen(t, d)
	s := stateOf(l)
	expectState(t, "opened again", mustOpen(t, d), s)
	l = expectStored(t, "after a crash", d, s)
	if n := l.Free(); n < 0 || n > api.MaxValue {
		t.Fatalf("Free of a foreign device: %d", n)
	}
	if l.Free() >= 3 {
		mustDo(t, l, add("new"))
		s = s.with(add("new"))
		l = expectStored(t, "added to", d, s)
	}
	if n := l.Free(); n > 0 {
		o := add(text(n, 5))
		mustDo(t, l, o)
		s = s.with(o)
		l = expectStored(t, "filled", d, s)
	}
	mustDo(t, l, keep("base"))
	s = fill(t, l, state{base: "base"}, d.Sectors(), 30)
	l = expectStored(t, "begun anew", d, s)
	mustDo(t, l, keep(""), keep("again"), add(""))
	expectStored(t, "begun anew again", d, state{base: "again", records: []string{""}})
}

func TestForeignSectors(t *testing.T) {
	for _, b := range foreignSectors() {
		for at := range 8 {
			d := newDev(t, 8)
			overwrite(t, d, at, b)
			useForeign(t, d)
		}
		for _, first := range []int{0, 1} {
			d := newDev(t, 8)
			for at := first; at < 8; at++ {
				overwrite(t, d, at, b)
			}
			useForeign(t, d)
		}
	}
}

// TestForeignPairs has one content in the first sector and another one in all
// the others.
func TestForeignPairs(t *testing.T) {
	l := foreignSectors()
	for _, first := range l {
		for _, others := range [][]byte{l[0], sectorOf(encoded(1, "")), sectorOf([]byte(nested(1, 512))), padded(encoded(1, text(400, 1)))} {
			d := newDev(t, 9)
			overwrite(t, d, 0, first)
			for at := 1; at < 9; at++ {
				overwrite(t, d, at, others)
			}
			useForeign(t, d)
		}
	}
}

// copied is a device with the sectors of another one, moved by some sectors.
func copied(t *testing.T, from *dev.Dev, sectors, shift int) *dev.Dev {
	t.Helper()
	d := newDev(t, sectors)
	for at := range min(sectors, from.Sectors()) {
		b, err := from.Read((at + shift) % from.Sectors())
		if err != api.OK {
			t.Fatal(err)
		}
		overwrite(t, d, at, b)
	}
	return d
}

// TestForeignCopies has the sectors of a log at other places, and on devices of
// other sizes.
func TestForeignCopies(t *testing.T) {
	for _, history := range histories() {
		from := newDev(t, 12)
		mustDo(t, mustOpen(t, from), history...)
		for _, sectors := range []int{8, 9, 10, 11, 13, 14, 20} {
			for shift := range 12 {
				useForeign(t, copied(t, from, sectors, shift))
			}
		}
	}
}

// TestForeignWritesInLog overwrites one sector of a log.
func TestForeignWritesInLog(t *testing.T) {
	for _, history := range histories() {
		for at := range 12 {
			for _, b := range foreignSectors()[:8] {
				d := newDev(t, 12)
				mustDo(t, mustOpen(t, d), history...)
				overwrite(t, d, at, b)
				useForeign(t, d)
			}
		}
	}
}

// TestForeignCrash lets the power fail in the first call on a foreign device.
func TestForeignCrash(t *testing.T) {
	for i, b := range foreignSectors() {
		for _, o := range []op{add(""), add("a"), keep(""), keep(text(600, 2))} {
			for _, c := range []crash{{nil, -1}, {nil, 0}, {[]int{0}, 1}, {[]int{1}, 0}, {[]int{0, 1, 2}, -1}} {
				for calls := 1; ; calls++ {
					d := newDev(t, 8)
					overwrite(t, d, 0, b)
					overwrite(t, d, 1+i%7, b)
					if err := d.Flush(); err != api.OK {
						t.Fatal(err)
					}
					l := mustOpen(t, d)
					if !o.keep && l.Free() < len(o.body)+1 {
						break
					}
					got, failed := crashIn(t, d, l, stateOf(l), o, calls, c)
					expectStored(t, "after the crash", d, got)
					if !failed {
						break
					}
				}
			}
		}
	}
}

// TestOwnSectorsAsBodies stores the sectors of the device itself in records.
func TestOwnSectorsAsBodies(t *testing.T) {
	d := newDev(t, 30)
	l := mustOpen(t, d)
	var s state
	for round := range 30 {
		b, err := d.Read(round)
		if err != api.OK {
			t.Fatal(err)
		}
		for _, o := range []op{add(string(b)), keep(string(b)), add("a"), keep(""), add("")} {
			mustDo(t, l, o)
			s = s.with(o)
			l = expectStored(t, "its own sectors", d, s)
		}
	}
}
