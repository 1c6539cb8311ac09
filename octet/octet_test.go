package octet_test

import (
	"slices"
	"strconv"
	"strings"
	"testing"

	"franking/api"
	"franking/octet"
)

// words returns all strings over the alphabet with at most most bytes, the
// shorter ones first.
func words(alphabet string, most int) []string {
	all := []string{""}
	last := all
	for range most {
		var next []string
		for _, w := range last {
			for i := range len(alphabet) {
				next = append(next, w+alphabet[i:i+1])
			}
		}
		all = append(all, next...)
		last = next
	}
	return all
}

func oneByte(c int) string { return string([]byte{byte(c)}) }

func TestFoldEveryByte(t *testing.T) {
	const capitals = "ABCDEFGHIJKLMNOPQRSTUVWXYZ"
	const small = "abcdefghijklmnopqrstuvwxyz"
	for c := range 256 {
		want := oneByte(c)
		if at := strings.Index(capitals, want); at >= 0 {
			want = small[at : at+1]
		}
		if got := octet.Fold(oneByte(c)); got != want {
			t.Errorf("Fold of byte %d: %q, want %q", c, got, want)
		}
		if got := octet.Fold("Q" + oneByte(c) + "Z"); got != "q"+want+"z" {
			t.Errorf("Fold of byte %d between letters: %q", c, got)
		}
	}
}

func TestFoldLeavesOtherTextAlone(t *testing.T) {
	for _, c := range []struct{ in, want string }{
		{"", ""},
		{"already small", "already small"},
		{"INBOX/Ann", "inbox/ann"},
		{"ÄÖÜ É", "ÄÖÜ É"},
		{"\u212aK", "\u212ak"}, // the Kelvin sign, whose lower case is k in Unicode
		{"\u0130I", "\u0130i"}, // I with a dot
		{"\xff\x80A\xc3", "\xff\x80a\xc3"},
		{"\x00A\r\nB", "\x00a\r\nb"},
	} {
		if got := octet.Fold(c.in); got != c.want {
			t.Errorf("Fold(%q): %q, want %q", c.in, got, c.want)
		}
	}
}

func TestSame(t *testing.T) {
	for _, c := range []struct {
		a, b string
		want bool
	}{
		{"", "", true},
		{"", "a", false},
		{"inbox", "INBOX", true},
		{"iNbOx", "InBoX", true},
		{"inbox", "inbox ", false},
		{"inbox", "inbo", false},
		{"abc", "abd", false},
		{"ÉA", "Éa", true},
		{"É", "é", false},
		{"\u212a", "k", false},
		{"\u017f", "s", false},
		{"\xff", "\xfe", false},
		{"\xff", "\xff", true},
		{"\xff", "\ufffd", false},
		{"1", "\x11", false},
	} {
		if octet.Same(c.a, c.b) != c.want || octet.Same(c.b, c.a) != c.want {
			t.Errorf("Same(%q, %q) is not %v", c.a, c.b, c.want)
		}
	}
}

func TestSameEveryPairOfBytes(t *testing.T) {
	for a := range 256 {
		for b := range 256 {
			x, y := min(a, b), max(a, b)
			want := x == y || x >= 'A' && x <= 'Z' && y == x+32
			if octet.Same(oneByte(a), oneByte(b)) != want {
				t.Errorf("Same of the bytes %d and %d is not %v", a, b, want)
			}
		}
	}
}

func TestAtomEveryByte(t *testing.T) {
	const allowed = "!#$&'+,-./0123456789:;<=>?@" +
		"ABCDEFGHIJKLMNOPQRSTUVWXYZ[^_`abcdefghijklmnopqrstuvwxyz|}~"
	for c := range 256 {
		want := strings.Contains(allowed, oneByte(c))
		for _, s := range []string{oneByte(c), oneByte(c) + "a", "a" + oneByte(c), "a" + oneByte(c) + "a"} {
			if octet.Atom(s) != want {
				t.Errorf("Atom(%q) is not %v", s, want)
			}
		}
	}
}

func TestAtomLength(t *testing.T) {
	if octet.Atom("") {
		t.Error("the empty string is no atom")
	}
	if !octet.Atom(strings.Repeat("x", 3*api.MaxLine)) {
		t.Error("an atom has no limit of length")
	}
}

func TestQuoteExample(t *testing.T) {
	if got, ok := octet.Quote(`a"b`); got != `"a\"b"` || !ok {
		t.Errorf("%q, %v", got, ok)
	}
}

func TestQuote(t *testing.T) {
	for _, c := range []struct{ in, want string }{
		{``, `""`},
		{`plain words`, `"plain words"`},
		{`\`, `"\\"`},
		{`"`, `"\""`},
		{`\"\`, `"\\\"\\"`},
		{"\t\x01\x1f\x7f", "\"\t\x01\x1f\x7f\""},
		{`(){%*]`, `"(){%*]"`},
	} {
		if got, ok := octet.Quote(c.in); got != c.want || !ok {
			t.Errorf("Quote(%q): %q, %v, want %q", c.in, got, ok, c.want)
		}
	}
}

func TestQuoteEveryByte(t *testing.T) {
	for c := range 256 {
		refused := c == 0 || c == 10 || c == 13 || c > 127
		for _, s := range []string{oneByte(c), "x" + oneByte(c), oneByte(c) + "x"} {
			q, ok := octet.Quote(s)
			if ok == refused {
				t.Errorf("Quote(%q): %v", s, ok)
			}
			if refused && q != "" {
				t.Errorf("Quote(%q) is false and returns %q", s, q)
			}
		}
	}
}

func TestQuoteLimit(t *testing.T) {
	for _, unit := range []string{"a", `"`, `\`} {
		fits := strings.Repeat(unit, api.MaxLine)
		q, ok := octet.Quote(fits)
		if u, n, err := octet.Unquote(q); !ok || u != fits || n != len(q) || err != api.OK {
			t.Errorf("%d bytes %q are not quoted", api.MaxLine, unit)
		}
		if q, ok := octet.Quote(fits + "a"); q != "" || ok {
			t.Errorf("%d bytes %q are quoted", api.MaxLine+1, unit)
		}
	}
}

func TestUnquote(t *testing.T) {
	for _, c := range []struct {
		in, text string
		n        int
	}{
		{`""`, "", 2},
		{`"""`, "", 2},
		{`"a b" c`, "a b", 5},
		{`"a" "b"`, "a", 3},
		{`"\\"`, `\`, 4},
		{`"\""`, `"`, 4},
		{`"\\\"x"y`, `\"x`, 7},
		{"\"\t\x7f\"\r\n", "\t\x7f", 4},
		{"\"a\"\x00\xff", "a", 3},
	} {
		text, n, err := octet.Unquote(c.in)
		if text != c.text || n != c.n || err != api.OK {
			t.Errorf("Unquote(%q): %q, %d, %v, want %q, %d", c.in, text, n, err, c.text, c.n)
		}
	}
}

func TestUnquoteHasNoLimit(t *testing.T) {
	long := strings.Repeat("a", 5*api.MaxLine)
	if text, n, err := octet.Unquote(`"` + long + `"`); text != long || n != len(long)+2 || err != api.OK {
		t.Errorf("%d bytes, %d, %v", len(text), n, err)
	}
	if text, n, err := octet.Unquote(`"` + long); text != "" || n != 0 || err != api.EMORE {
		t.Errorf("without its end: %d bytes, %d, %v", len(text), n, err)
	}
}

func TestUnquoteErrors(t *testing.T) {
	for _, c := range []struct {
		in  string
		err api.Errno
	}{
		{``, api.EFORM},
		{`a`, api.EFORM},
		{`a"b"`, api.EFORM},
		{` "a"`, api.EFORM},
		{`\"a"`, api.EFORM},
		{`'a'`, api.EFORM},
		{`"`, api.EMORE},
		{`"abc`, api.EMORE},
		{`"abc\`, api.EMORE},
		{`"abc\"`, api.EMORE},
		{`"abc\\`, api.EMORE},
		{`"\a"`, api.EFORM},
		{`"\a`, api.EFORM},
		{"\"\\\r\n\"", api.EFORM},
		{"\"\\\x00", api.EFORM},
		{"\"\\\xff", api.EFORM},
		{"\"a\x00", api.EFORM},
		{"\"a\n", api.EFORM},
		{"\"a\r", api.EFORM},
		{"\"a\x80", api.EFORM},
		{"\"é\"", api.EFORM},
		{"\"a\x00\\", api.EFORM},
		{"\"a\\z\x00\"", api.EFORM},
	} {
		if text, n, err := octet.Unquote(c.in); text != "" || n != 0 || err != c.err {
			t.Errorf("Unquote(%q): %q, %d, %v, want %v", c.in, text, n, err, c.err)
		}
	}
}

// What Quote writes decides what Unquote returns: a string is complete if
// one of the quoted strings begins it, and unfinished if it begins one.
func TestUnquoteIsTheInverseOfQuote(t *testing.T) {
	const most = 5
	const alphabet = "\"\\a\n\x80"
	text := map[string]string{}
	unfinished := map[string]bool{}
	for _, w := range words(alphabet, most) {
		q, ok := octet.Quote(w)
		if !ok {
			continue
		}
		text[q] = w
		for i := 1; i < len(q); i++ {
			unfinished[q[:i]] = true
		}
	}
	for _, s := range words(alphabet, most) {
		wantText, wantN, wantErr := "", 0, api.EFORM
		if unfinished[s] {
			wantErr = api.EMORE
		}
		for n := range len(s) + 1 {
			if w, ok := text[s[:n]]; ok {
				wantText, wantN, wantErr = w, n, api.OK
			}
		}
		if got, n, err := octet.Unquote(s); got != wantText || n != wantN || err != wantErr {
			t.Errorf("Unquote(%q): %q, %d, %v, want %q, %d, %v", s, got, n, err, wantText, wantN, wantErr)
		}
	}
}

func TestUnquoteEveryByte(t *testing.T) {
	for c := range 256 {
		want := api.EMORE
		switch {
		case c == '"':
			want = api.OK
		case c == 0 || c == 10 || c == 13 || c > 127:
			want = api.EFORM
		}
		if _, _, err := octet.Unquote(`"` + oneByte(c)); err != want {
			t.Errorf("byte %d after a quote: %v, want %v", c, err, want)
		}
		want = api.EFORM
		if c == '"' || c == '\\' {
			want = api.EMORE
		}
		if _, _, err := octet.Unquote(`"\` + oneByte(c)); err != want {
			t.Errorf("byte %d after a backslash: %v, want %v", c, err, want)
		}
	}
}

func TestNString(t *testing.T) {
	for _, c := range []struct{ in, want string }{
		{"", `""`},
		{"a b", `"a b"`},
		{`a"\`, `"a\"\\"`},
		{"\x7f\t", "\"\x7f\t\""},
		{"\x00", "{1}\r\n\x00"},
		{"\r\n", "{2}\r\n\r\n"},
		{"a\r", "{2}\r\na\r"},
		{"a\n\"b\"", "{5}\r\na\n\"b\""},
		{"é", "{2}\r\né"},
		{"0123456789\xff", "{11}\r\n0123456789\xff"},
	} {
		if got := octet.NString(c.in); got != c.want {
			t.Errorf("NString(%q): %q, want %q", c.in, got, c.want)
		}
	}
}

func TestNStringLimit(t *testing.T) {
	fits := strings.Repeat("b", api.MaxLine)
	if got := octet.NString(fits); got != `"`+fits+`"` {
		t.Error("MaxLine bytes are quoted")
	}
	if got := octet.NString(fits + "b"); got != "{"+strconv.Itoa(api.MaxLine+1)+"}\r\n"+fits+"b" {
		t.Error("more than MaxLine bytes are a literal")
	}
}

func join(lines [][]byte) string {
	var parts []string
	for _, l := range lines {
		parts = append(parts, string(l))
	}
	return strings.Join(parts, "|")
}

func TestLines(t *testing.T) {
	for _, c := range []struct {
		in   string
		want []string
	}{
		{"", nil},
		{"a", []string{"a"}},
		{"\r\n", []string{"\r\n"}},
		{"a\r\n", []string{"a\r\n"}},
		{"a\r\nb", []string{"a\r\n", "b"}},
		{"a\r\nb\r\n", []string{"a\r\n", "b\r\n"}},
		{"\r\n\r\nx", []string{"\r\n", "\r\n", "x"}},
		{"a\nb\rc", []string{"a\nb\rc"}},
		{"\n\r", []string{"\n\r"}},
		{"\r\r\n\n", []string{"\r\r\n", "\n"}},
		{"a\r\n\r", []string{"a\r\n", "\r"}},
		{"\x00\r\n\xff", []string{"\x00\r\n", "\xff"}},
	} {
		got := octet.Lines([]byte(c.in))
		if len(got) != len(c.want) || join(got) != strings.Join(c.want, "|") {
			t.Errorf("Lines(%q): %q, want %q", c.in, got, c.want)
		}
	}
	if got := octet.Lines(nil); len(got) != 0 {
		t.Errorf("Lines(nil): %q", got)
	}
}

func TestLinesOfEveryShortText(t *testing.T) {
	for _, s := range words("\r\na", 7) {
		want := strings.SplitAfter(s, "\r\n")
		if want[len(want)-1] == "" {
			want = want[:len(want)-1]
		}
		got := octet.Lines([]byte(s))
		if len(got) != len(want) || join(got) != strings.Join(want, "|") {
			t.Errorf("Lines(%q): %q, want %q", s, got, want)
		}
	}
}

func TestLinesShareNoMemory(t *testing.T) {
	const text = "a\r\nbc\r\n\r\nd"
	backing := []byte(text + "spare")
	b := backing[:len(text)]
	lines := octet.Lines(b)
	if string(backing) != text+"spare" {
		t.Fatalf("the argument became %q", backing)
	}
	for i := range lines {
		whole := lines[i][:cap(lines[i])]
		for j := range whole {
			whole[j] = byte('0' + i)
		}
	}
	if string(backing) != text+"spare" {
		t.Errorf("writing to the lines changed the argument to %q", backing)
	}
	if got := join(lines); got != "000|1111|22|3" {
		t.Errorf("writing to one line changed another: %q", got)
	}
	lines = octet.Lines(b)
	clear(backing)
	if got := join(lines); got != "a\r\n|bc\r\n|\r\n|d" {
		t.Errorf("writing to the argument changed the lines to %q", got)
	}
}

func TestNum(t *testing.T) {
	for _, c := range []struct {
		in   string
		want int64
	}{
		{"0", 0},
		{"7", 7},
		{"10", 10},
		{"0000000000", 0},
		{"0000000012", 12},
		{"1234567890", 1234567890},
		{"2147483648", 2147483648},
		{"4294967296", 4294967296},
		{"9999999999", 9999999999},
	} {
		if got, ok := octet.Num(c.in); got != c.want || !ok {
			t.Errorf("Num(%q): %d, %v", c.in, got, ok)
		}
	}
}

func TestNumRefuses(t *testing.T) {
	for _, s := range []string{
		"", " ", "+1", "-1", "-0", " 1", "1 ", "1\r\n", "1a", "a1", "0x10", "1_000", "1.0", "1e3",
		"00000000000", "12345678901", "99999999999999999999", "\u0663", "1\x00", "\xff",
	} {
		if got, ok := octet.Num(s); got != 0 || ok {
			t.Errorf("Num(%q): %d, %v", s, got, ok)
		}
	}
}

func TestNumEveryByte(t *testing.T) {
	for c := range 256 {
		digit := c >= '0' && c <= '9'
		for _, s := range []string{oneByte(c), "1" + oneByte(c), oneByte(c) + "1"} {
			want := int64(0)
			if digit {
				want, _ = strconv.ParseInt(s, 10, 64)
			}
			if got, ok := octet.Num(s); got != want || ok != digit {
				t.Errorf("Num(%q): %d, %v", s, got, ok)
			}
		}
	}
}

// Whatever bytes come in, no call panics, Fold keeps the length, the lines are
// together the bytes, and a quoted NString can be read back.
func TestAnyBytes(t *testing.T) {
	for _, s := range words("\"\\\r\nA1{\x00\xff", 5) {
		if f := octet.Fold(s); len(f) != len(s) || octet.Fold(f) != f || !octet.Same(s, f) {
			t.Fatalf("Fold(%q): %q", s, f)
		}
		if got := slices.Concat(octet.Lines([]byte(s))...); string(got) != s {
			t.Fatalf("Lines(%q) are together %q", s, got)
		}
		octet.Atom(s)
		octet.Num(s)
		octet.Unquote(s)
		octet.Unquote(`"` + s)
		written := octet.NString(s)
		text, n, err := octet.Unquote(written)
		if _, ok := octet.Quote(s); ok && (text != s || n != len(written) || err != api.OK) {
			t.Fatalf("Unquote of NString(%q): %q, %d, %v", s, text, n, err)
		}
		if _, ok := octet.Quote(s); !ok && written != "{"+strconv.Itoa(len(s))+"}\r\n"+s {
			t.Fatalf("NString(%q): %q", s, written)
		}
	}
}
