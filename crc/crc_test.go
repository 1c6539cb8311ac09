package crc_test

import (
	"bytes"
	"hash/crc32"
	"strings"
	"testing"

	"franking/crc"
)

// divide is the definition, bit by bit: all ones at first, the remainder by
// the reflected polynomial, and its complement at the end.
func divide(b []byte) uint32 {
	rest := ^uint32(0)
	for _, c := range b {
		for i := range 8 {
			odd := (rest ^ uint32(c)>>i) & 1
			rest >>= 1
			if odd == 1 {
				rest ^= 0xEDB88320
			}
		}
	}
	return ^rest
}

// bytesOf returns n bytes without a short period, the same ones every time.
func bytesOf(n int) []byte {
	b := make([]byte, n)
	state := uint32(n)
	for i := range b {
		state = state*1664525 + 1013904223
		b[i] = byte(state >> 24)
	}
	return b
}

func TestOfExample(t *testing.T) {
	if got := crc.Of([]byte("123456789")); got != 3421780262 {
		t.Errorf("%d", got)
	}
}

func TestOfKnownSums(t *testing.T) {
	for _, c := range []struct {
		in   string
		want uint32
	}{
		{"", 0},
		{"\x00", 0xD202EF8D},
		{"\xff", 0xFF000000},
		{"a", 0xE8B7BE43},
		{"abc", 0x352441C2},
		{"The quick brown fox jumps over the lazy dog", 0x414FA339},
		{strings.Repeat("\x00", 32), 0x190A55AD},
		{strings.Repeat("\xff", 32), 0xFF6CAB0B},
	} {
		if got := crc.Of([]byte(c.in)); got != c.want {
			t.Errorf("Of(%q): %#x, want %#x", c.in, got, c.want)
		}
	}
}

func TestOfNoBytes(t *testing.T) {
	for i, parts := range [][][]byte{nil, {}, {nil}, {{}}, {nil, {}, nil}} {
		if got := crc.Of(parts...); got != 0 {
			t.Errorf("list %d without bytes: %#x", i, got)
		}
	}
}

func TestOfEveryPairOfBytes(t *testing.T) {
	for x := range 256 {
		if b := []byte{byte(x)}; crc.Of(b) != divide(b) {
			t.Errorf("Of(%x): %#x, want %#x", b, crc.Of(b), divide(b))
		}
		for y := range 256 {
			if b := []byte{byte(x), byte(y)}; crc.Of(b) != divide(b) {
				t.Errorf("Of(%x): %#x, want %#x", b, crc.Of(b), divide(b))
			}
		}
	}
}

func TestOfEveryLength(t *testing.T) {
	for n := range 1100 {
		b := bytesOf(n)
		if got := crc.Of(b); got != divide(b) || got != crc32.ChecksumIEEE(b) {
			t.Errorf("%d bytes: %#x, want %#x", n, got, divide(b))
		}
	}
}

func TestOfManyBytes(t *testing.T) {
	b := bytesOf(1 << 20)
	if got, want := crc.Of(b), crc32.ChecksumIEEE(b); got != want {
		t.Errorf("%d bytes: %#x, want %#x", len(b), got, want)
	}
}

// Zeros at the beginning and at the end count: that is what the initial value
// of all ones and the complement are for.
func TestOfTellsZerosApart(t *testing.T) {
	seen := map[uint32]string{}
	for _, s := range []string{"", "\x00", "\x00\x00", "a", "\x00a", "a\x00", "\x00\x00a", "a\x00\x00", "\x00a\x00"} {
		sum := crc.Of([]byte(s))
		if other, ok := seen[sum]; ok {
			t.Errorf("%q and %q have the same sum", s, other)
		}
		seen[sum] = s
	}
}

func TestOfSeveralParts(t *testing.T) {
	whole := bytesOf(40)
	want := divide(whole)
	for i := range len(whole) + 1 {
		for j := i; j <= len(whole); j++ {
			a, b, c := whole[:i], whole[i:j], whole[j:]
			if got := crc.Of(a, b, c); got != want {
				t.Errorf("parts of %d, %d and %d bytes: %#x, want %#x", len(a), len(b), len(c), got, want)
			}
			if got := crc.Of(nil, a, b, []byte{}, c, nil); got != want {
				t.Errorf("parts of %d, %d and %d bytes and of none: %#x, want %#x", len(a), len(b), len(c), got, want)
			}
		}
	}
}

func TestOfPartsOfOneByte(t *testing.T) {
	whole := bytesOf(3000)
	var parts [][]byte
	for i := range whole {
		parts = append(parts, whole[i:i+1])
	}
	if got, want := crc.Of(parts...), divide(whole); got != want {
		t.Errorf("%d parts: %#x, want %#x", len(parts), got, want)
	}
}

func TestOfKeepsTheOrderOfItsParts(t *testing.T) {
	a, b := []byte("first"), []byte("second")
	if got, want := crc.Of(a, b), divide([]byte("firstsecond")); got != want {
		t.Errorf("%#x, want %#x", got, want)
	}
	if got, want := crc.Of(b, a), divide([]byte("secondfirst")); got != want {
		t.Errorf("turned round: %#x, want %#x", got, want)
	}
	if got, want := crc.Of(a, a), divide([]byte("firstfirst")); got != want {
		t.Errorf("twice the same: %#x, want %#x", got, want)
	}
}

func TestAddGoesOn(t *testing.T) {
	whole := bytesOf(300)
	want := divide(whole)
	for i := range len(whole) + 1 {
		if got := crc.Add(crc.Of(whole[:i]), whole[i:]); got != want {
			t.Errorf("%d bytes and then %d: %#x, want %#x", i, len(whole)-i, got, want)
		}
	}
}

func TestAddByteByByte(t *testing.T) {
	whole := bytesOf(500)
	var sum uint32
	for i := range whole {
		sum = crc.Add(sum, whole[i:i+1])
		if want := divide(whole[:i+1]); sum != want {
			t.Fatalf("after %d bytes: %#x, want %#x", i+1, sum, want)
		}
	}
}

func TestAddToNothing(t *testing.T) {
	for _, s := range []string{"", "\x00", "a", "123456789"} {
		if got, want := crc.Add(0, []byte(s)), divide([]byte(s)); got != want {
			t.Errorf("Add(0, %q): %#x, want %#x", s, got, want)
		}
	}
}

// sums are numbers at the edges and every single bit: any number is the sum
// of some bytes, so Add refuses none.
func sums() []uint32 {
	l := []uint32{0, 1, 2, 0x7fffffff, 0x80000001, 0xfffffffe, 0xffffffff, 0xEDB88320, 3421780262}
	for i := range 32 {
		l = append(l, 1<<i, ^uint32(1<<i))
	}
	return l
}

func TestAddNothing(t *testing.T) {
	for _, sum := range sums() {
		if got := crc.Add(sum, nil); got != sum {
			t.Errorf("Add(%#x, nil): %#x", sum, got)
		}
		if got := crc.Add(sum, []byte{}); got != sum {
			t.Errorf("Add(%#x, no bytes): %#x", sum, got)
		}
	}
}

func TestAddToAnySum(t *testing.T) {
	for _, sum := range sums() {
		for _, s := range []string{"\x00", "\xff", "a", "123456789", strings.Repeat("\x00", 9)} {
			want := crc32.Update(sum, crc32.IEEETable, []byte(s))
			if got := crc.Add(sum, []byte(s)); got != want {
				t.Errorf("Add(%#x, %q): %#x, want %#x", sum, s, got, want)
			}
		}
	}
}

// Bytes followed by their own sum, its lowest byte first, all have one sum,
// which the polynomial and the two complements determine.
func TestSumOfBytesAndTheirSum(t *testing.T) {
	for _, s := range []string{"", "a", "abc", "123456789"} {
		sum := crc.Of([]byte(s))
		tail := []byte{byte(sum), byte(sum >> 8), byte(sum >> 16), byte(sum >> 24)}
		if got := crc.Add(sum, tail); got != 0x2144DF1C {
			t.Errorf("%q and its sum: %#x", s, got)
		}
	}
}

func TestArgumentsAreLeftAlone(t *testing.T) {
	whole := []byte("ab--cd--")
	parts := make([][]byte, 2, 4)
	parts[0], parts[1] = whole[:2], whole[4:6]
	want := divide([]byte("abcd"))
	for range 2 {
		if got := crc.Of(parts...); got != want {
			t.Errorf("Of: %#x, want %#x", got, want)
		}
		if got := crc.Add(crc.Of(whole[:2]), whole[4:6]); got != want {
			t.Errorf("Add: %#x, want %#x", got, want)
		}
	}
	if string(whole) != "ab--cd--" {
		t.Errorf("the bytes are now %q", whole)
	}
	if !bytes.Equal(parts[0], []byte("ab")) || !bytes.Equal(parts[1], []byte("cd")) {
		t.Errorf("the parts are now %q", parts)
	}
	for i, p := range parts[2:4] {
		if p != nil {
			t.Errorf("the spare part %d is now %q", i, p)
		}
	}
}

func TestNothingIsKept(t *testing.T) {
	first := crc.Of([]byte("first"))
	crc.Of([]byte("second"), []byte("third"))
	crc.Add(first, []byte("fourth"))
	if got := crc.Of([]byte("first")); got != first || first != divide([]byte("first")) {
		t.Errorf("%#x, before %#x", got, first)
	}
}
