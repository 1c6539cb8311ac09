package bigend_test

import (
	"bytes"
	"math"
	"testing"

	"franking/bigend"
)

func TestAppendAndNumber(t *testing.T) {
	for _, c := range []struct {
		n    uint64
		size int
		want string
	}{
		{0, 0, ""},
		{0, 1, "\x00"},
		{1, 2, "\x00\x01"},
		{256, 2, "\x01\x00"},
		{0x01020304, 4, "\x01\x02\x03\x04"},
		{math.MaxUint32, 4, "\xff\xff\xff\xff"},
		{0x0102030405060708, 8, "\x01\x02\x03\x04\x05\x06\x07\x08"},
		{math.MaxUint64, 8, "\xff\xff\xff\xff\xff\xff\xff\xff"},
	} {
		if b := bigend.Append([]byte("a"), c.n, c.size); string(b) != "a"+c.want {
			t.Errorf("%d in %d bytes: %q, want %q", c.n, c.size, b[1:], c.want)
		}
		if n := bigend.Number([]byte(c.want)); n != c.n {
			t.Errorf("%q: %d, want %d", c.want, n, c.n)
		}
	}
}

func TestAppendDropsHigherBytes(t *testing.T) {
	if b := bigend.Append(nil, 0x0102030405060708, 2); !bytes.Equal(b, []byte{7, 8}) {
		t.Errorf("%x", b)
	}
	if b := bigend.Append([]byte("a"), 5, -1); string(b) != "a" {
		t.Errorf("%q", b)
	}
}
