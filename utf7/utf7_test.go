package utf7_test

import (
	"encoding/base64"
	"strings"
	"testing"
	"unicode"
	"unicode/utf16"
	"unicode/utf8"

	"franking/api"
	"franking/utf7"
)

const alphabet = "ABCDEFGHIJKLMNOPQRSTUVWXYZabcdefghijklmnopqrstuvwxyz0123456789+,"

var coding = base64.NewEncoding(alphabet).WithPadding(base64.NoPadding).Strict()

// notUTF8 has every kind of fault that bytes can have as UTF-8.
var notUTF8 = []string{
	"\x80", "\xbf", "\xc3", "\xe2\x82", "\xf0\x9f\x98", "\xff", "\xfe", "a\xff", "\xffa", "é\xc3", "\xc3\xa9\xa9",
	"\xc0\xaf", "\xc1\xbf", "\xe0\x80\xaf", "\xf0\x80\x80\xaf", // longer than they need be
	"\xed\xa0\x80", "\xed\xbf\xbf", "\xed\xa0\xbd\xed\xb8\x80", // halves of characters
	"\xf4\x90\x80\x80", "\xf5\x80\x80\x80", // above U+10FFFF
}

func oneByte(c int) string { return string([]byte{byte(c)}) }

func plain(r rune) bool { return r >= 32 && r <= 126 }

// words returns all strings of at most most of the letters, the shorter ones
// first.
func words(letters []string, most int) []string {
	all := []string{""}
	last := all
	for range most {
		var next []string
		for _, w := range last {
			for _, l := range letters {
				next = append(next, w+l)
			}
		}
		all = append(all, next...)
		last = next
	}
	return all
}

func letters(s string) []string { return strings.Split(s, "") }

// sequence is the definition of what is written for characters that do not
// represent themselves.
func sequence(run []rune) string {
	var b []byte
	for _, u := range utf16.Encode(run) {
		b = append(b, byte(u>>8), byte(u))
	}
	return "&" + coding.EncodeToString(b) + "-"
}

// encoded is the definition of Encode for valid UTF-8: it divides the string
// before it writes anything.
func encoded(s string) string {
	text := []rune(s)
	var b strings.Builder
	for i := 0; i < len(text); {
		run := i
		for run < len(text) && !plain(text[run]) {
			run++
		}
		switch {
		case run > i:
			b.WriteString(sequence(text[i:run]))
			i = run
		case text[i] == '&':
			b.WriteString("&-")
			i++
		default:
			b.WriteRune(text[i])
			i++
		}
	}
	return b.String()
}

// sequenceText is the definition of what may stand between & and -.
func sequenceText(s string) (string, bool) {
	if strings.Trim(s, alphabet) != "" {
		return "", false
	}
	b, err := coding.DecodeString(s)
	if err != nil || len(b)%2 != 0 {
		return "", false
	}
	var units []uint16
	for i := 0; i < len(b); i += 2 {
		units = append(units, uint16(b[i])<<8|uint16(b[i+1]))
	}
	text := string(utf16.Decode(units))
	if strings.ContainsFunc(text, plain) || sequence([]rune(text)) != "&"+s+"-" {
		return "", false
	}
	return text, true
}

// decoded is the definition of Decode: it looks for each fault that s can
// have, and does not ask Encode.
func decoded(s string) (string, bool) {
	text := ""
	inRun := false
	for s != "" {
		if s[0] != '&' {
			if !plain(rune(s[0])) {
				return "", false
			}
			text, s, inRun = text+s[:1], s[1:], false
			continue
		}
		code, rest, ended := strings.Cut(s[1:], "-")
		if !ended {
			return "", false
		}
		s = rest
		if code == "" {
			text, inRun = text+"&", false
			continue
		}
		part, ok := sequenceText(code)
		if !ok || inRun {
			return "", false
		}
		text, inRun = text+part, true
	}
	return text, true
}

func checkEncode(t *testing.T, in, want string) {
	t.Helper()
	if got, err := utf7.Encode(in); got != want || err != api.OK {
		t.Errorf("Encode(%q): %q, %v, want %q", in, got, err, want)
	}
}

func checkDecode(t *testing.T, in, want string) {
	t.Helper()
	if got, err := utf7.Decode(in); got != want || err != api.OK {
		t.Errorf("Decode(%q): %q, %v, want %q", in, got, err, want)
	}
}

func checkBoth(t *testing.T, text, code string) {
	t.Helper()
	checkEncode(t, text, code)
	checkDecode(t, code, text)
}

func checkNoForm(t *testing.T, s string) {
	t.Helper()
	if got, err := utf7.Decode(s); got != "" || err != api.EFORM {
		t.Errorf("Decode(%q): %q, %v, want EFORM", s, got, err)
	}
}

func TestExamples(t *testing.T) {
	checkBoth(t, "a&b", "a&-b")
	checkBoth(t, "é", "&AOk-")
}

func TestEncodeAndDecode(t *testing.T) {
	for _, c := range []struct{ text, code string }{
		{"", ""},
		{"INBOX", "INBOX"},
		{"a/b c", "a/b c"},
		{"-", "-"},
		{"+,-*%\\\"~", "+,-*%\\\"~"},
		{"&", "&-"},
		{"&&", "&-&-"},
		{"&-", "&--"},
		{"-&", "-&-"},
		{"&AOk-", "&-AOk-"},
		{"\x00", "&AAA-"},
		{"\x7f", "&AH8-"},
		{"\x1f ", "&AB8- "},
		{"\r\n", "&AA0ACg-"},
		{"~peter/mail/台北/日本語", "~peter/mail/&U,BTFw-/&ZeVnLIqe-"}, // of RFC 3501
		{"éé", "&AOkA6Q-"},
		{"ééé", "&AOkA6QDp-"},
		{"éééé", "&AOkA6QDpAOk-"},
		{"é é", "&AOk- &AOk-"},
		{"é&é", "&AOk-&-&AOk-"},
		{"é-é", "&AOk--&AOk-"},
		{"&é&", "&-&AOk-&-"},
		{"aé\tb", "a&AOkACQ-b"},
		{"\u0080", "&AIA-"},
		{"߿", "&B,8-"},
		{"\ud7ff\ue000", "&1,,gAA-"},
		{"\ufffd", "&,,0-"},
		{"\uffff", "&,,8-"},
		{"\U00010000", "&2ADcAA-"},
		{"😀", "&2D3eAA-"},
		{"\U0010ffff", "&2,,f,w-"},
		{"é😀é", "&AOnYPd4AAOk-"},
	} {
		checkBoth(t, c.text, c.code)
	}
}

func TestEveryCharacter(t *testing.T) {
	for r := range unicode.MaxRune + 1 {
		if utf16.IsSurrogate(r) {
			continue
		}
		s := string(r)
		checkBoth(t, s, encoded(s))
		if t.Failed() {
			return
		}
	}
}

func TestEveryCharacterBetweenOthers(t *testing.T) {
	for r := range rune(0x300) {
		for _, around := range []string{"a", "&", "-", "é", "\x00", "😀"} {
			s := around + string(r) + around
			checkBoth(t, s, encoded(s))
		}
	}
}

func TestEveryShortText(t *testing.T) {
	for _, s := range words(letters("aA&-,\n\u0080é😀"), 5) {
		checkBoth(t, s, encoded(s))
	}
}

func TestLongText(t *testing.T) {
	for _, unit := range []string{"a", "&", "é", "😀", "aé", "é&😀-"} {
		s := strings.Repeat(unit, 20000)
		checkBoth(t, s, encoded(s))
	}
}

func TestEncodeRefusesWhatIsNoUTF8(t *testing.T) {
	for _, s := range notUTF8 {
		for _, s := range []string{s, s + "&", "é" + s, "plain" + s + "plain"} {
			if got, err := utf7.Encode(s); got != "" || err != api.EARG {
				t.Errorf("Encode(%q): %q, %v, want EARG", s, got, err)
			}
		}
	}
}

func TestDecodeRefuses(t *testing.T) {
	for _, s := range []string{
		"&", "a&", "&-&", "&AOk", "&AOk-&", "&A&-", "&&-", "&&AOk--", // no end
		"&A-", "&AO-", "&AOkA-", "&AOkA6-", "&AAAA-", "&AAAAA-", // units that are cut, or too many characters
		"&AOl-", "&AOm-", "&AOn-", "&AOkA6R-", "&AOkA6f-", // unused bits that are not zero
		"&AOk=-", "&AOkA6Q==-", "&A k-", "&AO/-", "&A\r\nOk-", "&A.k-", "&AO\xe9-", "&éAA-", // other alphabets
		"&2AA-", "&3AA-", "&2ADYAA-", "&3ADYAA-", "&3ADcAA-", "&2AAA6Q-", "&2ADcANgA-", "&AOnYAA-", // halves of characters
		"&AGE-", "&ACY-", "&AC0-", "&ACA-", "&AH4-", "&AOkAYQ-", "&AGEA6Q-", "&AOkAYQDp-", // what represents itself
		"&AOk-&AOk-", "&AAA-&AAA-", "a&AOk-&2D3eAA-b", "&AOk-&AOk-&-", // runs that should be one
		"é", "a\x00", "\x7f", "\x1f", "\r\n", "&AOk-é", "&-\x80", // what does not represent itself
	} {
		checkNoForm(t, s)
	}
	for _, s := range notUTF8 {
		checkNoForm(t, s)
		checkNoForm(t, "a&-"+s)
	}
}

func TestDecodeEveryByte(t *testing.T) {
	for c := range 256 {
		for _, s := range []string{
			oneByte(c), "a" + oneByte(c), oneByte(c) + "a", "&AOk-" + oneByte(c), "&-" + oneByte(c), oneByte(c) + "&AOk-",
			"&" + oneByte(c) + "Ok-", "&A" + oneByte(c) + "k-", "&AO" + oneByte(c) + "-", "&AOk" + oneByte(c), "&AOk" + oneByte(c) + "-",
		} {
			checkDecodeByDefinition(t, s)
		}
	}
}

func checkDecodeByDefinition(t *testing.T, s string) {
	t.Helper()
	want, ok := decoded(s)
	if ok {
		checkBoth(t, want, s)
	} else {
		checkNoForm(t, s)
	}
}

func TestDecodeEveryShortText(t *testing.T) {
	for _, s := range words(letters("&-Ae6,!"), 7) {
		checkDecodeByDefinition(t, s)
	}
	for _, s := range words([]string{"&", "-", "AOk", "2D3e", "A", "AA", "é"}, 6) {
		checkDecodeByDefinition(t, s)
	}
}

// Every character of three units in base64 is read with every other one in its
// place.
func TestDecodeEverySequenceOfThree(t *testing.T) {
	for _, first := range alphabet {
		for _, second := range alphabet {
			for _, third := range alphabet {
				checkDecodeByDefinition(t, "&"+string(first)+string(second)+string(third)+"-")
			}
		}
	}
}

func TestDecodeChangedTexts(t *testing.T) {
	for _, text := range []string{"é", "aé", "ééé", "a&é", "😀", "日本語/x", "é-é"} {
		code := encoded(text)
		for i := range len(code) {
			checkDecodeByDefinition(t, code[:i])
			checkDecodeByDefinition(t, code[:i]+code[i+1:])
			for c := range 256 {
				checkDecodeByDefinition(t, code[:i]+oneByte(c)+code[i+1:])
				checkDecodeByDefinition(t, code[:i]+oneByte(c)+code[i:])
			}
		}
	}
}

func TestGood(t *testing.T) {
	for _, s := range []string{
		"a", "INBOX", "a/b", "a/b/c", "a b", " ", " /a", "&", "&-", "a&b", "\\", "\"", "é", "é/日本語", "😀", "\u0080", "\ufffd", "\uffff",
		"a.b", "..", "~", "-/-", "#news", strings.Repeat("a", api.MaxName), strings.Repeat("é", api.MaxName/2), strings.Repeat("a/", 49) + "ab",
	} {
		if !utf7.Good(s) {
			t.Errorf("Good(%q) is false", s)
		}
	}
	for _, s := range append([]string{
		"", "/", "//", "/a", "a/", "a//b", "a///b", "/a/", "a/b/", "é//é", "*", "%", "a*", "%a", "a/*", "a/%/b",
		strings.Repeat("a", api.MaxName+1), strings.Repeat("é", api.MaxName/2) + "a", strings.Repeat("a/", 50), strings.Repeat("a/", 50) + "a",
	}, notUTF8...) {
		if utf7.Good(s) {
			t.Errorf("Good(%q) is true", s)
		}
	}
}

func TestGoodEveryByte(t *testing.T) {
	for c := range 128 {
		want := c >= 32 && c < 127 && c != '*' && c != '%'
		for _, s := range []string{oneByte(c), "a" + oneByte(c), oneByte(c) + "a", "a" + oneByte(c) + "a", "é" + oneByte(c) + "é"} {
			between := s[0] != byte(c) && s[len(s)-1] != byte(c)
			if c == '/' {
				want = between
			}
			if utf7.Good(s) != want {
				t.Errorf("Good(%q) is not %v", s, want)
			}
		}
	}
	for c := 128; c < 256; c++ {
		for _, s := range []string{oneByte(c), "a" + oneByte(c) + "a", "é" + oneByte(c)} {
			if utf7.Good(s) {
				t.Errorf("Good(%q) is true", s)
			}
		}
	}
}

func TestGoodEveryCharacterBeyondASCII(t *testing.T) {
	for r := rune(utf8.RuneSelf); r <= unicode.MaxRune; r++ {
		if s := string(r); !utf16.IsSurrogate(r) && !utf7.Good(s) {
			t.Fatalf("Good(%q) is false", s)
		}
	}
}

func TestParent(t *testing.T) {
	for _, c := range []struct {
		name, want string
		ok         bool
	}{
		{"", "", false},
		{"a", "", false},
		{"INBOX", "", false},
		{"a\\b", "", false},
		{"é∕é", "", false}, // another stroke
		{"\xff", "", false},
		{"a/b", "a", true},
		{"a/b/c", "a/b", true},
		{"é/日本/語", "é/日本", true},
		{"/", "", true},
		{"/a", "", true},
		{"a/", "a", true},
		{"a//b", "a/", true},
		{"a/b//", "a/b/", true},
		{"//", "/", true},
		{"*/%", "*", true},
		{"\xff/\xfe", "\xff", true},
	} {
		if got, ok := utf7.Parent(c.name); got != c.want || ok != c.ok {
			t.Errorf("Parent(%q): %q, %v, want %q, %v", c.name, got, ok, c.want, c.ok)
		}
	}
}

// matches is the definition of Match beside the INBOX.
func matches(pattern, name string) bool {
	if pattern == "" {
		return name == ""
	}
	rest := pattern[1:]
	switch pattern[0] {
	case '*':
		return matches(rest, name) || name != "" && matches(pattern, name[1:])
	case '%':
		return matches(rest, name) || name != "" && name[0] != '/' && matches(pattern, name[1:])
	}
	return name != "" && name[0] == pattern[0] && matches(rest, name[1:])
}

func TestMatch(t *testing.T) {
	for _, c := range []struct {
		pattern, name string
		want          bool
	}{
		{"", "", true},
		{"", "a", false},
		{"a", "", false},
		{"*", "", true},
		{"%", "", true},
		{"*%*%", "", true},
		{"*", "a/b/c", true},
		{"%", "abc", true},
		{"%", "a/b", false},
		{"%", "a/", false},
		{"%", "/", false},
		{"*", "/", true},
		{"%/%", "a/b", true},
		{"%/%", "a/b/c", false},
		{"%/%", "ab", false},
		{"%/*", "a/b/c", true},
		{"*/%", "a/b/c", true},
		{"a/%", "a/b", true},
		{"a/%", "a/", true},
		{"a/%", "a", false},
		{"a%", "a", true},
		{"a%", "abc", true},
		{"a%", "a/b", false},
		{"a*", "a/b", true},
		{"a*c", "abcbc", true},
		{"a*c", "abcb", false},
		{"a%c", "a/c", false},
		{"*b%", "ab/b", true},
		{"*b%", "b/a", false},
		{"*a%c", "a/abc", true},
		{"*a%c*", "a/b/ac/d", true},
		{"%a/%b", "xa/ya/b", false},
		{"%a%a%", "aa", true},
		{"%a%a%", "a/a", false},
		{"a", "A", false},
		{"é%", "éa", true},
		{"%", "日本語", true},
		{"\xc3%", "é", true}, // a byte is all that a pattern knows
		{"\xff*", "\xff\xfe", true},
		{"\xff", "\xfe", false},
		{"a.c", "abc", false},
		{"a?c", "abc", false},
		{"[a]", "a", false},
		{"\\*", "\\x", true},
		{"\\*", "*", false},
		{"*", "*", true},
		{"%", "%", true},
		{"a", "%", false},
		{"a\x00*", "a\x00b", true},
	} {
		if utf7.Match(c.pattern, c.name) != c.want {
			t.Errorf("Match(%q, %q) is not %v", c.pattern, c.name, c.want)
		}
	}
}

func TestMatchInbox(t *testing.T) {
	for _, c := range []struct {
		pattern, name string
		want          bool
	}{
		{"INBOX", "INBOX", true},
		{"inbox", "INBOX", true},
		{"INBOX", "inbox", true},
		{"iNbOx", "InBoX", true},
		{"IN*", "inbox", true},
		{"%X", "inbox", true},
		{"in*", "inbox", false},
		{"in*", "INBOX", false},
		{"inbo%", "INBOX", false},
		{"%", "inbox", true},
		{"inbox*", "inbox", false},
		{"INBOX*", "inbox", true},
		{"inbox/a", "inbox/a", true},
		{"INBOX/a", "inbox/a", false},
		{"INBOX*", "inbox/a", false},
		{"inbox/%", "INBOX/a", false},
		{"inbox", "inbo", false},
		{"inbox", "inboxx", false},
		{"inbox", " inbox", false},
		{"inbox", "ınbox", false},
		{"inbox", "İNBOX", false},
		{"inbox", "inbo\xff", false},
	} {
		if utf7.Match(c.pattern, c.name) != c.want {
			t.Errorf("Match(%q, %q) is not %v", c.pattern, c.name, c.want)
		}
	}
}

func TestMatchInboxInEveryCase(t *testing.T) {
	for bits := range 1 << 5 {
		b := []byte("INBOX")
		for i := range b {
			if bits>>i&1 == 1 {
				b[i] |= 0x20
			}
		}
		for _, p := range []string{"INBOX", "inbox", "I%B*", string(b)} {
			if !utf7.Match(p, string(b)) {
				t.Errorf("Match(%q, %q) is false", p, b)
			}
		}
		if !utf7.Match(string(b), "INBOX") {
			t.Errorf("Match(%q, INBOX) is false", b)
		}
	}
}

func TestMatchInboxOnlyOfItsLetters(t *testing.T) {
	for r := range unicode.MaxRune + 1 {
		for i := range len("INBOX") {
			s := "INBOX"[:i] + string(r) + "INBOX"[i+1:]
			own := s == "INBOX" || r == rune("inbox"[i])
			if utf7.Match("INBOX", s) != own || utf7.Match(s, "INBOX") != (own || r == '*' || r == '%') {
				t.Fatalf("Match of INBOX and %q", s)
			}
		}
	}
}

func TestMatchEveryByte(t *testing.T) {
	for p := range 256 {
		for n := range 256 {
			want := p == n || p == '*' || p == '%' && n != '/'
			if got := utf7.Match("x"+oneByte(p)+"y", "x"+oneByte(n)+"y"); got != want {
				t.Errorf("Match of the bytes %d and %d: %v", p, n, got)
			}
		}
	}
}

func TestMatchEveryShortText(t *testing.T) {
	names := append(words(letters("a/"), 7), words(letters("ab/*"), 4)...)
	for _, p := range append(words(letters("a/*%"), 5), words(letters("ab/*%"), 4)...) {
		for _, n := range names {
			if got := utf7.Match(p, n); got != matches(p, n) {
				t.Fatalf("Match(%q, %q): %v", p, n, got)
			}
		}
	}
}

// To try all ways one after the other would take longer than the test may.
func TestMatchEndsSoon(t *testing.T) {
	const many = 1000
	as := strings.Repeat("a", many)
	parts := strings.Repeat("a/", many)
	for _, c := range []struct {
		pattern, name string
		want          bool
	}{
		{strings.Repeat("*a", many), as, true},
		{strings.Repeat("%a", many), as, true},
		{strings.Repeat("*a", many) + "b", as, false},
		{strings.Repeat("%a", many) + "b", as, false},
		{strings.Repeat("%a", many) + "/", as + "/", true},
		{strings.Repeat("%a", many) + "b", as + "/", false},
		{strings.Repeat("*%", many) + "b", as, false},
		{strings.Repeat("%*", many) + "b", as, false},
		{strings.Repeat("*", many) + "b", as, false},
		{strings.Repeat("*a%", many) + "b", as + "/" + as, false},
		{strings.Repeat("%/", many), parts, true},
		{strings.Repeat("%/", many) + "%b", parts, false},
		{strings.Repeat("*%/", many) + "b", parts, false},
		{"*%" + as[1:] + "b", as, false},
		{as + "*", as, true},
		{as + "*", as[1:], false},
	} {
		if utf7.Match(c.pattern, c.name) != c.want {
			t.Errorf("Match(%.20q.., %.20q..) is not %v", c.pattern, c.name, c.want)
		}
	}
}

// Whatever bytes come in, no call panics, and what is refused has no result.
func TestAnyBytes(t *testing.T) {
	for _, s := range words([]string{"&", "-", "A", "/", "*", "%", "\x00", "\x7f", "\xc3", "\xa9", "\xff"}, 5) {
		code, err := utf7.Encode(s)
		if utf8.ValidString(s) != (err == api.OK) || err != api.OK && (err != api.EARG || code != "") {
			t.Fatalf("Encode(%q): %q, %v", s, code, err)
		}
		if text, err := utf7.Decode(code); utf8.ValidString(s) && (text != s || err != api.OK) {
			t.Fatalf("Decode(%q): %q, %v", code, text, err)
		}
		checkDecodeByDefinition(t, s)
		if up, ok := utf7.Parent(s); ok != strings.Contains(s, "/") || ok && !strings.HasPrefix(s, up+"/") {
			t.Fatalf("Parent(%q): %q, %v", s, up, ok)
		}
		if !utf7.Match("*", s) || utf7.Match("%", s) == strings.Contains(s, "/") || !utf7.Match(s, s) {
			t.Fatalf("Match of %q", s)
		}
	}
}
