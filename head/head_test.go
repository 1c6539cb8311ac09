package head_test

import (
	"bytes"
	"fmt"
	"math/rand"
	"reflect"
	"regexp"
	"slices"
	"strconv"
	"strings"
	"testing"

	"franking/api"
	"franking/head"
	"franking/octet"
)

var (
	fieldStart = regexp.MustCompile(`^[!-9;-~]+:`)
	messageID  = regexp.MustCompile(`<[^<> \t]*>`)
)

// headerOf is the definition of the header.
func headerOf(b []byte) int {
	n := 0
	for _, l := range octet.Lines(b) {
		n += len(l)
		if string(l) == "\r\n" {
			break
		}
	}
	return n
}

// fieldsOf is the definition of the fields, with the limit.
func fieldsOf(b []byte) []head.Field {
	lines := octet.Lines(b[:headerOf(b)])
	var fields []head.Field
	for at := 0; len(lines) > 0; {
		text, isField := lines[0], fieldStart.Match(lines[0])
		lines = lines[1:]
		for isField && len(lines) > 0 && (lines[0][0] == ' ' || lines[0][0] == '\t') {
			text = append(text, lines[0]...)
			lines = lines[1:]
		}
		if isField {
			name, value, _ := strings.Cut(string(text), ":")
			fields = append(fields, head.Field{Name: name, Value: valueOf(value), From: at, To: at + len(text)})
		}
		at += len(text)
	}
	return fields[:min(len(fields), api.MaxFields)]
}

// valueOf is the definition of Value.
func valueOf(s string) string {
	s = strings.Join(strings.Split(s, "\r\n"), "")
	for s != "" && (s[0] == ' ' || s[0] == '\t') {
		s = s[1:]
	}
	for s != "" && (s[len(s)-1] == ' ' || s[len(s)-1] == '\t') {
		s = s[:len(s)-1]
	}
	return s
}

func checkSplit(t *testing.T, b string, want int) {
	t.Helper()
	if h, body := head.Split([]byte(b)); h != want || body != want {
		t.Errorf("Split(%.200q): %d, %d, want %d twice", b, h, body, want)
	}
}

func checkFields(t *testing.T, b string, want []head.Field) {
	t.Helper()
	got := head.Fields([]byte(b))
	if !slices.Equal(got, want) {
		t.Errorf("Fields(%.200q):\n%.500s, want\n%.500s", b, fmt.Sprintf("%+v", got), fmt.Sprintf("%+v", want))
	}
}

// checkPairs holds the fields to names and values, with the name first.
func checkPairs(t *testing.T, b string, want ...string) {
	t.Helper()
	var got []string
	for _, f := range head.Fields([]byte(b)) {
		got = append(got, f.Name, f.Value)
	}
	if !slices.Equal(got, want) {
		t.Errorf("Fields(%.200q): %q, want %q", b, got, want)
	}
}

func checkGet(t *testing.T, b, name, want string) {
	t.Helper()
	if got, ok := head.Get([]byte(b), name); got != want || !ok {
		t.Errorf("Get(%.200q, %.200q): %.200q, %v, want %.200q", b, name, got, ok, want)
	}
}

func checkGetsNone(t *testing.T, b, name string) {
	t.Helper()
	if got, ok := head.Get([]byte(b), name); got != "" || ok {
		t.Errorf("Get(%.200q, %.200q): %.200q, %v, want none", b, name, got, ok)
	}
}

func checkValue(t *testing.T, s, want string) {
	t.Helper()
	if got := head.Value(s); got != want {
		t.Errorf("Value(%.200q): %.200q, want %.200q", s, got, want)
	}
}

func checkIDs(t *testing.T, s string, want ...string) {
	t.Helper()
	if got := head.IDs(s); !slices.Equal(got, want) {
		t.Errorf("IDs(%.200q): %.50q, want %.50q", s, got, want)
	}
}

func checkPick(t *testing.T, b string, names []string, not bool, want string) {
	t.Helper()
	if got := head.Pick([]byte(b), names, not); string(got) != want {
		t.Errorf("Pick(%.200q, %.200q, %v): %.500q, want %.500q", b, names, not, got, want)
	}
}

// checkAll holds all calls to the definitions.
func checkAll(t *testing.T, b string, names ...string) {
	t.Helper()
	fields := fieldsOf([]byte(b))
	checkSplit(t, b, headerOf([]byte(b)))
	checkFields(t, b, fields)
	picked, left := "", ""
	for _, f := range fields {
		same := func(n string) bool { return octet.Same(n, f.Name) }
		if slices.ContainsFunc(names, same) {
			picked += b[f.From:f.To]
		} else {
			left += b[f.From:f.To]
		}
	}
	checkPick(t, b, names, false, picked+"\r\n")
	checkPick(t, b, names, true, left+"\r\n")
	for _, n := range names {
		i := slices.IndexFunc(fields, func(f head.Field) bool { return octet.Same(f.Name, n) })
		if i < 0 {
			checkGetsNone(t, b, n)
		} else {
			checkGet(t, b, n, fields[i].Value)
		}
	}
}

func TestExample(t *testing.T) {
	checkGet(t, "Subject: a\r\n b\r\n", "subject", "a b")
	checkGet(t, "Subject: a\r\n b", "subject", "a b")
}

func TestSplit(t *testing.T) {
	for _, c := range []struct {
		b    string
		want int
	}{
		{"", 0},
		{"a", 1},
		{"\r\n", 2},
		{"\r\nx", 2},
		{"\r\n\r\nx", 2},
		{"a: b\r\n", 6},
		{"a: b\r\n\r\n", 8},
		{"a: b\r\n\r\nbody", 8},
		{"a: b\r\n\r\nbody\r\n\r\nmore", 8},
		{"no field\r\n\r\nbody", 12},
		{"a\n\nb", 4},
		{"a\r\rb", 4},
		{"\n\nb", 3},
		{"\r\rb", 3},
		{"\n\r\nb", 4},
		{"a\r\r\n\r\nb", 6},
		{"a\r\n\r\r\nb", 7},
		{"a\r\n\n\r\nb", 7},
		{"a\r\n \r\nb\r\n\r\nc", 11},
		{"a\r\n\t\r\n\r\nc", 8},
		{"a\r\n\r", 4},
		{"\r", 1},
		{"\n", 1},
	} {
		checkSplit(t, c.b, c.want)
	}
}

func TestFields(t *testing.T) {
	checkFields(t, "", nil)
	checkFields(t, "\r\n", nil)
	checkFields(t, "\r\na: b\r\n", nil)
	checkFields(t, "a: b", []head.Field{{Name: "a", Value: "b", From: 0, To: 4}})
	checkFields(t, "a: b\r\n", []head.Field{{Name: "a", Value: "b", From: 0, To: 6}})
	checkFields(t, "From: x\r\nTo:y\r\n\t z\r\nno field\r\n at all\r\nSubject:\r\n\r\nCc: body\r\n", []head.Field{
		{Name: "From", Value: "x", From: 0, To: 9},
		{Name: "To", Value: "y\t z", From: 9, To: 20},
		{Name: "Subject", Value: "", From: 39, To: 49},
	})
	checkFields(t, "a:1\r\na:2\r\nA:1", []head.Field{
		{Name: "a", Value: "1", From: 0, To: 5},
		{Name: "a", Value: "2", From: 5, To: 10},
		{Name: "A", Value: "1", From: 10, To: 13},
	})
	checkFields(t, "a:\r\n \r\n\t\r\n \tb \r\n", []head.Field{{Name: "a", Value: "b", From: 0, To: 16}})
}

func TestFieldNames(t *testing.T) {
	checkPairs(t, "a:b:c", "a", "b:c")
	checkPairs(t, "a::", "a", ":")
	checkPairs(t, "a:", "a", "")
	checkPairs(t, "X-GM(\"\\<>@,;=%*{}[]~!: v", "X-GM(\"\\<>@,;=%*{}[]~!", "v")
	for _, b := range []string{":", ": b", ":a", "a", "a b: c", "a : b", "a\t: b", " a: b", "\ta: b", "é: b", "a\n: b", "a\r: b", "\x00: b", "a\x7f: b", "a =?x?: b", "\na: b", "a b", "::", ":a:b", "::a:"} {
		checkPairs(t, b)
		checkPairs(t, b+"\r\n more\r\nc: d", "c", "d")
	}
	for c := range 256 {
		if c == ':' {
			continue
		}
		s := string([]byte{byte(c)})
		for _, name := range []string{s, s + "a", "a" + s, "a" + s + "a"} {
			if c >= 33 && c <= 126 {
				checkPairs(t, name+":v", name, "v")
			} else {
				checkPairs(t, name+":v")
			}
		}
		checkAll(t, "a:x"+s+"y\r\n"+s+"\r\n"+s+"z:\r\n", "a", "z")
	}
}

func TestFollowingLines(t *testing.T) {
	for _, c := range []struct {
		b    string
		want []string
	}{
		{"a: 1\r\n 2\r\n\t3\r\nb: 4\r\n 5\r\n", []string{"a", "1 2\t3", "b", "4 5"}},
		{"a: 1\r\n b: 2\r\n", []string{"a", "1 b: 2"}},
		{" a: 1\r\nb: 2\r\n", []string{"b", "2"}},
		{"no\r\n a: 1\r\n\tb: 2\r\nc: 3", []string{"c", "3"}},
		{"a: 1\r\nno\r\n 2\r\nb: 3", []string{"a", "1", "b", "3"}},
		{"a: 1\r\n: no\r\n 2\r\n\t3\r\nb: 4", []string{"a", "1", "b", "4"}},
		{"a: 1\r\n\r\n 2\r\n", []string{"a", "1"}},
		{"a: 1\r\n \r\n 2\r\n\r\n 3", []string{"a", "1  2"}},
		{"a: 1\n 2\r\n", []string{"a", "1\n 2"}},
		{"a: 1\nb: 2\r\n", []string{"a", "1\nb: 2"}},
		{"a: 1\r b\r\n", []string{"a", "1\r b"}},
		{"a: 1\r\n\n2\r\n 3\r\nb:4", []string{"a", "1", "b", "4"}},
		{"a: 1\r\n\v2\r\n\f3\r\nb:4", []string{"a", "1", "b", "4"}},
		{"a: 1\r\n\u00a02\r\nb:4", []string{"a", "1", "b", "4"}},
		{"a:\r\n ", []string{"a", ""}},
		{"a:\r\n\t", []string{"a", ""}},
	} {
		checkPairs(t, c.b, c.want...)
	}
}

func TestValue(t *testing.T) {
	for s, want := range map[string]string{
		"":                         "",
		"a":                        "a",
		" a ":                      "a",
		"\t a\tb \t":               "a\tb",
		" \t ":                     "",
		"\r\n":                     "",
		"a\r\nb":                   "ab",
		"a\r\n b\r\n\tc\r\n":       "a b\tc",
		" \r\n\ta\r\n \r\n ":       "a",
		"\r\n\r\n":                 "",
		"a\nb":                     "a\nb",
		"a\rb":                     "a\rb",
		"\na\r":                    "\na\r",
		"\n\r":                     "\n\r",
		"\r\r\n\n":                 "\r\n",
		"a\r\r\n\nb":               "a\r\nb",
		"\va\f":                    "\va\f",
		"\u00a0a\u2003":            "\u00a0a\u2003",
		" \xff ":                   "\xff",
		"a  b":                     "a  b",
		" :a: ":                    ":a:",
		"\x00 ":                    "\x00",
		" \r":                      "\r",
		"\n ":                      "\n",
		strings.Repeat(" \r\n", 9): "",
	} {
		checkValue(t, s, want)
	}
}

func TestGet(t *testing.T) {
	b := "Subject: one\r\nX-a: 1\r\nSUBJECT: two\r\nsub: 3\r\nEmpty:\r\n\r\nBody: 4\r\n"
	for _, name := range []string{"Subject", "subject", "SUBJECT", "sUbJeCt"} {
		checkGet(t, b, name, "one")
	}
	checkGet(t, b, "x-A", "1")
	checkGet(t, b, "SUB", "3")
	checkGet(t, b, "empty", "")
	for _, name := range []string{"", "subjec", "subjects", " subject", "subject ", "subject:", "Subject: one", "Body", "x", "*", "x-\u00e1", "\x00"} {
		checkGetsNone(t, b, name)
	}
	checkGetsNone(t, "", "a")
	checkGetsNone(t, "", "")
	checkGetsNone(t, ": a\r\n", "")
	checkGetsNone(t, "no field\r\n", "no field")
	checkGet(t, "[`@: 1", "[`@", "1")
	checkGetsNone(t, "[`@: 1", "{`@")
	checkGetsNone(t, "[`@: 1", "[@@")
	checkGetsNone(t, "[`@: 1", "[``")
	checkGetsNone(t, "k: 1", "\u212a")
	checkGetsNone(t, "s: 1", "\u017f")
	checkGet(t, "a: "+strings.Repeat("x", 1<<20), "A", strings.Repeat("x", 1<<20))
}

func TestIDs(t *testing.T) {
	checkIDs(t, "")
	checkIDs(t, "a@b")
	checkIDs(t, "<a@b>", "<a@b>")
	checkIDs(t, "<>", "<>")
	checkIDs(t, "<><>", "<>", "<>")
	checkIDs(t, " <a> \t<b>,<c>x<d>", "<a>", "<b>", "<c>", "<d>")
	checkIDs(t, "<a> <a>", "<a>", "<a>")
	checkIDs(t, "<b> <a>", "<b>", "<a>")
	checkIDs(t, "<a b> <c>", "<c>")
	checkIDs(t, "<a\tb> <c>", "<c>")
	checkIDs(t, "< a>")
	checkIDs(t, "<a >")
	checkIDs(t, "<\t>")
	checkIDs(t, "<a<b>", "<b>")
	checkIDs(t, "<<b>>", "<b>")
	checkIDs(t, "<<>", "<>")
	checkIDs(t, "<a <b>", "<b>")
	checkIDs(t, "<a")
	checkIDs(t, "<")
	checkIDs(t, "<<<")
	checkIDs(t, ">")
	checkIDs(t, "><a>", "<a>")
	checkIDs(t, ">a<")
	checkIDs(t, "<a>>", "<a>")
	checkIDs(t, "<a> <b", "<a>")
	checkIDs(t, "<a\r\nb>", "<a\r\nb>")
	checkIDs(t, "<\"a\">(x)", "<\"a\">")
	checkIDs(t, "<é\xff\x00\u00a0>", "<é\xff\x00\u00a0>")
	checkIDs(t, "\xff<\xc3>\xc3<\xe2\x82>", "<\xc3>", "<\xe2\x82>")
	for c := range 256 {
		in := "<a" + string([]byte{byte(c)}) + "b>"
		switch c {
		case ' ', '\t':
			checkIDs(t, in)
		case '<':
			checkIDs(t, in, "<b>")
		case '>':
			checkIDs(t, in, "<a>")
		default:
			checkIDs(t, in, in)
		}
	}
}

func TestPick(t *testing.T) {
	b := "To: a\r\nno field\r\nCc: b\r\n c\r\nTO: d\r\nBcc: e\r\n\r\nTo: body\r\n"
	checkPick(t, b, []string{"to"}, false, "To: a\r\nTO: d\r\n\r\n")
	checkPick(t, b, []string{"to"}, true, "Cc: b\r\n c\r\nBcc: e\r\n\r\n")
	checkPick(t, b, []string{"BCC", "CC", "cc"}, false, "Cc: b\r\n c\r\nBcc: e\r\n\r\n")
	checkPick(t, b, []string{"BCC", "CC", "cc"}, true, "To: a\r\nTO: d\r\n\r\n")
	checkPick(t, b, []string{"x", "bc", "bccc", "", "no field", "cc:"}, false, "\r\n")
	checkPick(t, b, []string{"x", "bc", "bccc", "", "no field", "cc:"}, true, "To: a\r\nCc: b\r\n c\r\nTO: d\r\nBcc: e\r\n\r\n")
	checkPick(t, b, nil, false, "\r\n")
	checkPick(t, b, nil, true, "To: a\r\nCc: b\r\n c\r\nTO: d\r\nBcc: e\r\n\r\n")
	checkPick(t, b, []string{"to", "cc", "bcc"}, true, "\r\n")
	for _, b := range []string{"", "\r\n", "no field", "\r\na: b\r\n"} {
		checkPick(t, b, []string{"a", ""}, false, "\r\n")
		checkPick(t, b, []string{"a", ""}, true, "\r\n")
		checkPick(t, b, nil, true, "\r\n")
	}
	checkPick(t, "k:1\r\nK:2\r\n", []string{"\u212a"}, true, "k:1\r\nK:2\r\n\r\n")
	checkPick(t, "k:1\r\nK:2\r\n", []string{"\u212a"}, false, "\r\n")
	checkPick(t, "a: b", []string{"a"}, false, "a: b\r\n")
	checkPick(t, "a: b\r\n c", []string{"A"}, false, "a: b\r\n c\r\n")
	checkPick(t, "a: b\r", []string{"x"}, true, "a: b\r\r\n")
	checkPick(t, "a:b\r\nc:d", []string{"c", "a"}, false, "a:b\r\nc:d\r\n")
}

// numbered returns a header of n fields, each of two lines and followed by one
// that belongs to none.
func numbered(n int) string {
	var b strings.Builder
	for i := range n {
		b.WriteString("f" + strconv.Itoa(i+1) + ": a\r\n b\r\nno field\r\n")
	}
	return b.String()
}

func TestLimit(t *testing.T) {
	for _, n := range []int{api.MaxFields - 1, api.MaxFields, api.MaxFields + 1, 3 * api.MaxFields} {
		b := numbered(n) + "last: x\r\n y\r\n\r\nbody"
		count := min(n+1, api.MaxFields)
		fields := head.Fields([]byte(b))
		if len(fields) != count || fields[0].Name != "f1" {
			t.Fatalf("Fields of %d: %d, want %d", n+1, len(fields), count)
		}
		checkSplit(t, b, len(b)-4)
		checkAll(t, b, "f1", "f499", "f500", "f501", "last")
		if n < api.MaxFields {
			checkGet(t, b, "last", "x y")
			checkPick(t, b, []string{"last"}, false, "last: x\r\n y\r\n\r\n")
			continue
		}
		checkGet(t, b, "f500", "a b")
		checkGetsNone(t, b, "f501")
		checkGetsNone(t, b, "last")
		checkPick(t, b, []string{"f500", "f501", "last"}, false, "f500: a\r\n b\r\n\r\n")
		if all := head.Pick([]byte(b), nil, true); !bytes.HasSuffix(all, []byte("f500: a\r\n b\r\n\r\n")) {
			t.Errorf("Pick of all ends with %q", all[max(0, len(all)-50):])
		}
	}
	first := strings.Repeat("a:\r\n", api.MaxFields)
	checkAll(t, first+"\t1\r\n 2\r\nb:\r\n 3\r\n", "a", "b")
	checkAll(t, first+"no\r\n 1\r\n", "a", "no")
	checkAll(t, first, "a")
	checkAll(t, first+"b", "a", "b")
	checkAll(t, first+"b:", "a", "b")
}

// TestAllShortMessages takes every message of some of the pieces.
func TestAllShortMessages(t *testing.T) {
	pieces := []string{"a", ":", " ", "\r\n", "\r", "\n"}
	last := []string{""}
	for range 7 {
		var next []string
		for _, b := range last {
			checkAll(t, b, "A")
			checkValue(t, b, valueOf(b))
			for _, p := range pieces {
				next = append(next, b+p)
			}
		}
		last = next
	}
}

func randomText(r *rand.Rand, pieces []string, most int) string {
	var b strings.Builder
	for range r.Intn(most + 1) {
		b.WriteString(pieces[r.Intn(len(pieces))])
	}
	return b.String()
}

func TestRandomMessages(t *testing.T) {
	r := rand.New(rand.NewSource(1))
	pieces := []string{"a:", "A:", "b: ", "\r\n", "\r\na: ", "\r\nB:", "\r\n ", "\r\n\t", "\r\nno", ":", "x", " ", "\t", "\r", "\n", "é", "\xff", "\r\nab:c"}
	for range 50000 {
		b := randomText(r, pieces, 25)
		checkAll(t, b, "a", "B", "aB")
		checkAll(t, b)
		checkAll(t, b, "b", "x", "")
		checkValue(t, b, valueOf(b))
	}
}

func TestRandomBytes(t *testing.T) {
	r := rand.New(rand.NewSource(2))
	for range 20000 {
		b := make([]byte, r.Intn(60))
		r.Read(b)
		checkAll(t, string(b), string(b[:len(b)/2]))
		checkAll(t, "a:"+string(b), "A")
		checkIDs(t, "<"+string(b)+">", messageID.FindAllString("<"+string(b)+">", -1)...)
	}
}

func TestRandomIDs(t *testing.T) {
	r := rand.New(rand.NewSource(3))
	pieces := []string{"<", ">", "<", ">", "a", "@", " ", "\t", "é", "\xff", "\r\n", "<a>", "<b@c>"}
	for range 50000 {
		s := randomText(r, pieces, 20)
		checkIDs(t, s, messageID.FindAllString(s, -1)...)
	}
}

// TestArgumentsStay also looks at the spare capacity of the arguments.
func TestArgumentsStay(t *testing.T) {
	text := "a: 1\r\n 2\r\nB: 3\r\n\r\nbody and what lies behind it"
	b := []byte(text)
	part := b[:20]
	names := []string{"a", "x", "behind"}
	for _, not := range []bool{false, true} {
		picked := head.Pick(part, names[:2], not)
		picked = append(picked, "more"...)
		for i := range picked[:cap(picked)] {
			picked[:cap(picked)][i] = '!'
		}
	}
	fields := head.Fields(part)
	head.Get(part, "b")
	head.Split(part)
	if string(b) != text || !slices.Equal(names, []string{"a", "x", "behind"}) {
		t.Errorf("arguments changed: %q, %q", b, names)
	}
	value, _ := head.Get(part, "a")
	want := slices.Clone(fields)
	for i := range b {
		b[i] = '!'
	}
	if !slices.Equal(fields, want) || fields[0].Name != "a" || fields[0].Value != "1 2" || value != "1 2" {
		t.Errorf("results changed with the argument: %v, %q", fields, value)
	}
}

func TestResultsAreNew(t *testing.T) {
	b := []byte("a: <1>\r\n\r\n")
	first, ids := head.Fields(b), head.IDs("<1> <2>")
	first[0], ids[0] = head.Field{}, ""
	if again := head.Fields(b); !reflect.DeepEqual(again, []head.Field{{Name: "a", Value: "<1>", From: 0, To: 8}}) {
		t.Errorf("Fields again: %v", again)
	}
	checkIDs(t, "<1> <2>", "<1>", "<2>")
	one, two := head.Pick(nil, nil, true), head.Pick(nil, nil, true)
	one[0] = 'x'
	if string(two) != "\r\n" {
		t.Errorf("Pick shares memory: %q", two)
	}
}

func TestNilIsEmpty(t *testing.T) {
	if h, body := head.Split(nil); h != 0 || body != 0 {
		t.Errorf("Split(nil): %d, %d", h, body)
	}
	if f := head.Fields(nil); len(f) != 0 {
		t.Errorf("Fields(nil): %v", f)
	}
	if v, ok := head.Get(nil, ""); v != "" || ok {
		t.Errorf("Get(nil): %q, %v", v, ok)
	}
	for _, not := range []bool{false, true} {
		if p := head.Pick(nil, nil, not); string(p) != "\r\n" {
			t.Errorf("Pick(nil): %q", p)
		}
		if p := head.Pick([]byte("a:b"), []string{}, not); string(p) != string(head.Pick([]byte("a:b"), nil, not)) {
			t.Errorf("Pick of empty names: %q", p)
		}
	}
}

// TestLongInputs takes some milliseconds for each call, and minutes if the time
// of one grows with the square of its input.
func TestLongInputs(t *testing.T) {
	const long = 1 << 19
	for _, piece := range []string{"<", ">", "<>", "<a", " ", "\r\n ", "\r", "a:\r\n", "a\r\n", "a: b\r\n c\r\n", ":", "a"} {
		s := strings.Repeat(piece, long/len(piece))
		checkAll(t, s, "A", "b")
		checkAll(t, "a:"+s, "A", "b")
		checkValue(t, s, strings.Trim(strings.ReplaceAll(s, "\r\n", ""), " \t"))
		checkIDs(t, s, messageID.FindAllString(s, -1)...)
	}
}
