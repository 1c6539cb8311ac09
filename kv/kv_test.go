package kv_test

import (
	"bytes"
	"encoding/binary"
	"maps"
	"math"
	"math/rand"
	"slices"
	"strconv"
	"strings"
	"testing"

	"franking/api"
	"franking/kv"
)

func set(key, value string) kv.Put { return kv.Put{Key: key, Value: []byte(value)} }

func gone(key string) kv.Put { return kv.Put{Key: key, Gone: true} }

// encoded is the definition, for Puts of every kind: also for those that may
// not be.
func encoded(l ...kv.Put) []byte {
	var b []byte
	for _, p := range l {
		kind := byte(1)
		if p.Gone {
			kind = 0
		}
		b = append(b, kind)
		b = binary.BigEndian.AppendUint16(b, uint16(len(p.Key)))
		b = append(b, p.Key...)
		if !p.Gone {
			b = binary.BigEndian.AppendUint32(b, uint32(len(p.Value)))
			b = append(b, p.Value...)
		}
	}
	return b
}

func equalPuts(a, b kv.Put) bool {
	return a.Key == b.Key && a.Gone == b.Gone && bytes.Equal(a.Value, b.Value)
}

func equalPairs(a, b kv.Pair) bool {
	return a.Key == b.Key && bytes.Equal(a.Value, b.Value)
}

// model is what a table holds.
type model map[string]string

func (m model) perform(l []kv.Put) {
	for _, p := range l {
		if p.Gone {
			delete(m, p.Key)
		} else {
			m[p.Key] = string(p.Value)
		}
	}
}

func (m model) pairs(from, to string, most int) []kv.Pair {
	var l []kv.Pair
	for _, key := range slices.Sorted(maps.Keys(m)) {
		if key >= from && (to == "" || key < to) && len(l) < most {
			l = append(l, kv.Pair{Key: key, Value: []byte(m[key])})
		}
	}
	return l
}

func (m model) puts() []kv.Put {
	var l []kv.Put
	for _, p := range m.pairs("", "", math.MaxInt) {
		l = append(l, kv.Put{Key: p.Key, Value: p.Value})
	}
	return l
}

func expectTable(t *testing.T, what string, table *kv.Table, m model) {
	t.Helper()
	if n := table.Len(); n != len(m) {
		t.Fatalf("%s: Len is %d, want %d", what, n, len(m))
	}
	if l := table.Range("", "", math.MaxInt); !slices.EqualFunc(l, m.pairs("", "", math.MaxInt), equalPairs) {
		t.Fatalf("%s: Range tells %d pairs, want the %d of %v", what, len(l), len(m), m)
	}
	if b := table.Bytes(); !bytes.Equal(b, encoded(m.puts()...)) {
		t.Fatalf("%s: Bytes is %q, want that of %v", what, b, m)
	}
	for key, want := range m {
		if value, ok := table.Get(key); !ok || string(value) != want {
			t.Fatalf("%s: Get(%q) is %q, %v, want %q", what, key, value, ok, want)
		}
	}
}

func expectNoGet(t *testing.T, table *kv.Table, keys ...string) {
	t.Helper()
	for _, key := range keys {
		if value, ok := table.Get(key); ok || value != nil {
			t.Errorf("Get(%q): %q, %v, want nothing", key, value, ok)
		}
	}
}

func made(t *testing.T, l ...kv.Put) *kv.Table {
	t.Helper()
	table := kv.New()
	if err := table.Commit(l...); err != api.OK {
		t.Fatalf("Commit of %d Puts: %v", len(l), err)
	}
	return table
}

func longest() string { return strings.Repeat("k", api.MaxKey) }

func goodPuts() []kv.Put {
	return []kv.Put{
		set("a", "1"),
		set("a", ""),
		gone("a"),
		{Key: "b"},
		{Key: "b", Value: []byte{}, Gone: true},
		set("\x00", "\x00"),
		set("\xff\xfe", "\xff\r\n"),
		set("a longer key", "a longer value"),
		set(strings.Repeat("\xff", 199), "199"),
		set(longest(), "200"),
		gone(longest()),
		set("255", strings.Repeat("v", 255)),
		set("256", strings.Repeat("v", 256)),
		set("65536", strings.Repeat("v", 65536)),
		set("most", strings.Repeat("v", api.MaxValue)),
		set(longest(), strings.Repeat("v", api.MaxValue-1)),
	}
}

func badPuts() []kv.Put {
	tooLong := longest() + "k"
	return []kv.Put{
		{},
		{Gone: true},
		set("", "value"),
		set(tooLong, "value"),
		gone(tooLong),
		set(strings.Repeat("k", 256+5), "a length that fits in its lowest byte"),
		set(strings.Repeat("k", 65536+5), "a length that fits in two bytes when it is cut"),
		set("a", strings.Repeat("v", api.MaxValue+1)),
		set(longest(), strings.Repeat("v", 2*api.MaxValue)),
		{Key: "a", Value: []byte("v"), Gone: true},
		{Key: "a", Value: []byte{0}, Gone: true},
		{Key: tooLong, Value: make([]byte, api.MaxValue+1), Gone: true},
	}
}

func TestExample(t *testing.T) {
	table := made(t, set("a", "1"), set("b", "2"))
	if l := table.Range("a", "b", 9); len(l) != 1 || l[0].Key != "a" || string(l[0].Value) != "1" {
		t.Errorf("%v", l)
	}
}

func TestNewTableIsEmpty(t *testing.T) {
	expectTable(t, "a new table", kv.New(), model{})
	expectNoGet(t, kv.New(), "", "a", longest()+"k")
	if l := kv.New().Range("a", "b", 5); len(l) != 0 {
		t.Errorf("Range: %v", l)
	}
}

func TestCommitOfEveryKind(t *testing.T) {
	table, m := kv.New(), model{}
	for _, p := range goodPuts() {
		if err := table.Commit(p); err != api.OK {
			t.Errorf("key of %d, value of %d, %v: %v", len(p.Key), len(p.Value), p.Gone, err)
		}
		m.perform([]kv.Put{p})
		expectTable(t, "one after another", table, m)
	}
	expectTable(t, "all at once", made(t, goodPuts()...), m)
}

func TestCommitOfNothing(t *testing.T) {
	table := made(t)
	expectTable(t, "nothing", table, model{})
	if table.Commit(set("a", "1")) != api.OK || table.Commit() != api.OK || table.Commit([]kv.Put{}...) != api.OK {
		t.Errorf("Commit of nothing is refused")
	}
	expectTable(t, "nothing more", table, model{"a": "1"})
}

func TestCommitPerformsPutsInOrder(t *testing.T) {
	for i, c := range []struct {
		l    []kv.Put
		want model
	}{
		{[]kv.Put{set("a", "1"), set("a", "2")}, model{"a": "2"}},
		{[]kv.Put{set("a", "2"), set("a", "1"), set("a", "")}, model{"a": ""}},
		{[]kv.Put{set("a", "1"), gone("a")}, model{}},
		{[]kv.Put{gone("a"), set("a", "1")}, model{"a": "1"}},
		{[]kv.Put{set("a", "1"), gone("a"), set("a", "3"), set("b", "4")}, model{"a": "3", "b": "4"}},
		{[]kv.Put{gone("a"), gone("b"), gone("a")}, model{}},
		{[]kv.Put{set("b", "1"), set("a", "2"), gone("b")}, model{"a": "2"}},
	} {
		expectTable(t, strconv.Itoa(i), made(t, c.l...), c.want)
		before := made(t, set("a", "old"), set("z", "last"))
		if err := before.Commit(c.l...); err != api.OK {
			t.Errorf("%d: %v", i, err)
		}
		m := model{"a": "old", "z": "last"}
		m.perform(c.l)
		expectTable(t, strconv.Itoa(i), before, m)
	}
}

func TestCommitThatMayNotBeChangesNothing(t *testing.T) {
	m := model{"a": "1", "b": "2", longest(): "3"}
	table := made(t, m.puts()...)
	for i, bad := range badPuts() {
		for _, l := range [][]kv.Put{
			{bad},
			{set("new", "1"), bad},
			{bad, set("new", "1")},
			{set("a", "changed"), gone("b"), bad, set("new", "1")},
			{gone("a"), gone("b"), gone(longest()), bad, bad},
		} {
			if err := table.Commit(l...); err != api.EARG {
				t.Errorf("bad Put %d among %d: %v", i, len(l), err)
			}
			expectTable(t, "after bad Put "+strconv.Itoa(i), table, m)
		}
	}
	expectNoGet(t, table, "new")
}

func TestGet(t *testing.T) {
	table := made(t, set("a", "1"), set("ab", ""), set("b", "3"), set("\xff", "4"))
	expectNoGet(t, table, "", "A", "aa", "abc", "b\x00", "c", "\xfe", "\xff\xff", longest()+"k")
	if value, ok := table.Get("ab"); !ok || len(value) != 0 {
		t.Errorf("an empty value: %q, %v", value, ok)
	}
	if err := table.Commit(gone("a"), gone("not there")); err != api.OK {
		t.Errorf("Commit: %v", err)
	}
	expectNoGet(t, table, "a", "not there")
	expectTable(t, "without a", table, model{"ab": "", "b": "3", "\xff": "4"})
}

func TestRange(t *testing.T) {
	m := model{"a": "1", "a\x00": "2", "ab": "3", "b": "4", "ba": "5", "\x80": "6", "\xff": "7", "\xff\xff": "8"}
	table := made(t, m.puts()...)
	bounds := []string{"", "\x00", "A", "a", "a\x00", "a\x00\x00", "aa", "ab", "abc", "b", "ba", "bb", "z", "\x80", "\x81", "\xff", "\xff\x00", "\xff\xff", "\xff\xff\xff", longest() + "k"}
	for _, from := range bounds {
		for _, to := range bounds {
			for _, most := range []int{math.MinInt, -1, 0, 1, 2, 3, 7, 8, 9, math.MaxInt} {
				l := table.Range(from, to, most)
				if want := m.pairs(from, to, most); !slices.EqualFunc(l, want, equalPairs) {
					t.Errorf("Range(%q, %q, %d): %v, want %v", from, to, most, l, want)
				}
			}
		}
	}
}

func TestKeysAreComparedBytewise(t *testing.T) {
	keys := []string{"\xc3\xa4", "z", "a", "Z", "10", "9", "\x00", " ", "a ", "\xff", "\x7f"}
	table := kv.New()
	for _, key := range keys {
		table.Commit(set(key, ""))
	}
	var got []string
	for _, p := range table.Range("", "", len(keys)) {
		got = append(got, p.Key)
	}
	want := []string{"\x00", " ", "10", "9", "Z", "a", "a ", "z", "\x7f", "\xc3\xa4", "\xff"}
	if !slices.Equal(got, want) {
		t.Errorf("%q, want %q", got, want)
	}
}

func TestEncodeWritesTheParts(t *testing.T) {
	for _, c := range []struct {
		l    []kv.Put
		want string
	}{
		{nil, ""},
		{[]kv.Put{set("ab", "123")}, "\x01\x00\x02ab\x00\x00\x00\x03123"},
		{[]kv.Put{set("a", "")}, "\x01\x00\x01a\x00\x00\x00\x00"},
		{[]kv.Put{gone("abc")}, "\x00\x00\x03abc"},
		{[]kv.Put{{Key: "abc", Value: []byte{}, Gone: true}}, "\x00\x00\x03abc"},
		{[]kv.Put{gone("b"), set("a", "1"), gone("b")}, "\x00\x00\x01b" + "\x01\x00\x01a\x00\x00\x00\x011" + "\x00\x00\x01b"},
		{[]kv.Put{set(longest(), "")}, "\x01\x00\xc8" + longest() + "\x00\x00\x00\x00"},
		{[]kv.Put{set("a", strings.Repeat("v", api.MaxValue))}, "\x01\x00\x01a\x00\x03\x0d\x40" + strings.Repeat("v", api.MaxValue)},
	} {
		if b := kv.Encode(c.l...); string(b) != c.want {
			t.Errorf("%d Puts: %d bytes that are not %d", len(c.l), len(b), len(c.want))
		}
	}
}

func TestEncodeAndDecodeOfEveryKind(t *testing.T) {
	good := goodPuts()
	lists := [][]kv.Put{nil, {}, good}
	for i := range good {
		lists = append(lists, good[i:i+1], []kv.Put{good[i], good[len(good)-1-i], good[i]})
	}
	for i, l := range lists {
		b := kv.Encode(l...)
		if !bytes.Equal(b, encoded(l...)) {
			t.Errorf("list %d: Encode writes %d bytes that are not its encoding", i, len(b))
		}
		got, err := kv.Decode(b)
		if err != api.OK || !slices.EqualFunc(got, l, equalPuts) {
			t.Errorf("list %d: Decode returns %d Puts and %v, want %d", i, len(got), err, len(l))
		}
	}
}

func TestEncodeRefuses(t *testing.T) {
	for i, bad := range badPuts() {
		for _, l := range [][]kv.Put{{bad}, {set("a", "1"), bad}, {bad, gone("a")}} {
			if b := kv.Encode(l...); b != nil {
				t.Errorf("bad Put %d among %d: %d bytes", i, len(l), len(b))
			}
		}
	}
}

func expectNoDecode(t *testing.T, what string, b []byte) {
	t.Helper()
	if l, err := kv.Decode(b); len(l) != 0 || err != api.EFORM {
		t.Errorf("Decode, %s: %d Puts, %v", what, len(l), err)
	}
	expectNoLoad(t, what, b)
}

func expectNoLoad(t *testing.T, what string, b []byte) {
	t.Helper()
	if table, err := kv.Load(b); table != nil || err != api.EFORM {
		t.Errorf("Load, %s: %v", what, err)
	}
}

func TestDecodeOfWhatIsCutOff(t *testing.T) {
	l := []kv.Put{set("a", "12"), gone("bc"), set("d", ""), gone("e"), set("fgh", "345")}
	b := encoded(l...)
	var ends []int
	for i := range len(l) + 1 {
		ends = append(ends, len(encoded(l[:i]...)))
	}
	for n := range len(b) + 1 {
		whole := slices.Index(ends, n)
		if whole < 0 {
			expectNoDecode(t, "cut off", b[:n])
			continue
		}
		if got, err := kv.Decode(b[:n]); err != api.OK || !slices.EqualFunc(got, l[:whole], equalPuts) {
			t.Errorf("%d bytes: %d Puts, %v, want %d", n, len(got), err, whole)
		}
	}
}

func TestDecodeOfWhatIsTooLong(t *testing.T) {
	b := encoded(set("a", "12"))
	for c := range 256 {
		expectNoDecode(t, "one byte more", append(bytes.Clone(b), byte(c)))
	}
	expectNoDecode(t, "zeros", append(bytes.Clone(b), 0, 0, 0, 0))
	expectNoDecode(t, "a removal with a value", []byte("\x00\x00\x01a\x00\x00\x00\x00"))
	expectNoDecode(t, "a removal with a value", []byte("\x00\x00\x01a\x00\x00\x00\x01v"))
	expectNoDecode(t, "many zeros", make([]byte, 1000))
}

func TestDecodeOfWrongForms(t *testing.T) {
	for i, bad := range badPuts() {
		if bad.Gone && len(bad.Value) > 0 || len(bad.Key) > math.MaxUint16 {
			continue // has no encoding of its own
		}
		b := encoded(bad)
		expectNoDecode(t, "bad Put "+strconv.Itoa(i), b)
		expectNoDecode(t, "and a good one", append(bytes.Clone(b), encoded(set("z", "1"))...))
		expectNoDecode(t, "behind a good one", append(encoded(set("A", "1")), b...))
	}
	for kind := 2; kind < 256; kind++ {
		b := encoded(set("a", "12"))
		b[0] = byte(kind)
		expectNoDecode(t, "kind", b)
		expectNoDecode(t, "kind of one that is gone", append([]byte{byte(kind)}, "\x00\x01a"...))
		expectNoDecode(t, "kind of the second", append(encoded(gone("b")), b...))
	}
	for _, n := range []uint32{2, 4, api.MaxValue, api.MaxValue + 1, math.MaxInt32, 1 << 31, math.MaxUint32, math.MaxUint32 - 2} {
		b := binary.BigEndian.AppendUint32([]byte("\x01\x00\x01a"), n)
		expectNoDecode(t, "a wrong length of the value", append(b, "123"...))
	}
	for _, n := range []uint16{0, 2, 3, 200, 201, 256, 1 << 15, math.MaxUint16} {
		b := binary.BigEndian.AppendUint16([]byte{0}, n)
		expectNoDecode(t, "a wrong length of the key", append(b, "a"...))
		long := append(bytes.Clone(b), strings.Repeat("k", int(n))...)
		if _, err := kv.Decode(long); (err == api.OK) != (n >= 1 && n <= api.MaxKey) {
			t.Errorf("a key of %d bytes: %v", n, err)
		}
	}
}

func TestLoadReadsWhatBytesWrites(t *testing.T) {
	for _, m := range []model{
		{},
		{"a": ""},
		{"a": "1", "b": "2"},
		{"a": "1", "a\x00": "2", "aa": "3", "\xff": "", longest(): "5"},
		{"most": strings.Repeat("v", api.MaxValue), "more": strings.Repeat("w", api.MaxValue)},
	} {
		table, err := kv.Load(encoded(m.puts()...))
		if err != api.OK {
			t.Fatalf("%d pairs: %v", len(m), err)
		}
		expectTable(t, "loaded", table, m)
		if err := table.Commit(set("new", "1"), gone("a")); err != api.OK {
			t.Errorf("Commit after Load: %v", err)
		}
		m.perform([]kv.Put{set("new", "1"), gone("a")})
		expectTable(t, "loaded and changed", table, m)
	}
	for _, b := range [][]byte{nil, {}} {
		if table, err := kv.Load(b); err != api.OK || table == nil || table.Len() != 0 {
			t.Errorf("Load of nothing: %v", err)
		}
	}
}

// Each of these is the encoding of Puts, but no table has it.
func TestLoadRefuses(t *testing.T) {
	for i, l := range [][]kv.Put{
		{gone("a")},
		{set("a", "1"), gone("b")},
		{gone("a"), set("b", "1")},
		{set("a", "1"), gone("a")},
		{set("a", "1"), set("a", "1")},
		{set("a", "1"), set("a", "2")},
		{set("b", "1"), set("a", "2")},
		{set("a", "1"), set("c", "2"), set("b", "3")},
		{set("a", "1"), set("c", "2"), set("c", "2"), set("d", "3")},
		{set("ab", "1"), set("a", "2")},
		{set("\xff", "1"), set("\x7f", "2")},
		{set("b", ""), set("a", ""), gone("b")},
	} {
		b := encoded(l...)
		if got, err := kv.Decode(b); err != api.OK || !slices.EqualFunc(got, l, equalPuts) {
			t.Errorf("list %d: Decode returns %v, %v", i, got, err)
		}
		expectNoLoad(t, "list "+strconv.Itoa(i), b)
	}
}

func fill(b []byte) {
	b = b[:cap(b)]
	for i := range b {
		b[i] = '!'
	}
}

func TestArgumentsAreNotKept(t *testing.T) {
	memory := []byte("value++++")
	l := []kv.Put{{Key: "a", Value: memory[:5]}, set("b", "2")}
	table := made(t, l...)
	if string(memory) != "value++++" || l[0].Key != "a" || l[1].Key != "b" {
		t.Errorf("Commit has changed its arguments: %q, %v", memory, l)
	}
	b := kv.Encode(l...)
	fill(memory)
	l[0], l[1] = set("x", "x"), set("y", "y")
	expectTable(t, "arguments changed", table, model{"a": "value", "b": "2"})
	if !bytes.Equal(b, encoded(set("a", "value"), set("b", "2"))) {
		t.Errorf("Encode follows its arguments: %q", b)
	}

	decoded, _ := kv.Decode(b)
	loaded, _ := kv.Load(b)
	clear(b)
	if !slices.EqualFunc(decoded, []kv.Put{set("a", "value"), set("b", "2")}, equalPuts) {
		t.Errorf("Decode follows its argument: %v", decoded)
	}
	expectTable(t, "argument of Load changed", loaded, model{"a": "value", "b": "2"})
}

func TestResultsAreNewMemory(t *testing.T) {
	m := model{"a": "one", "b": "two", "c": ""}
	table := made(t, m.puts()...)
	value, _ := table.Get("a")
	fill(value)
	expectTable(t, "result of Get changed", table, m)
	fill(table.Bytes())
	expectTable(t, "result of Bytes changed", table, m)
	l := table.Range("", "", 9)
	fill(l[0].Value)
	if string(l[1].Value) != "two" {
		t.Errorf("pairs of a Range share memory: %q", l[1].Value)
	}
	fill(l[1].Value)
	fill(l[2].Value)
	clear(l[:cap(l)])
	expectTable(t, "result of Range changed", table, m)

	b := encoded(set("a", "one"), set("b", "two"))
	puts, _ := kv.Decode(b)
	fill(puts[0].Value)
	if string(puts[1].Value) != "two" || !bytes.Equal(b, encoded(set("a", "one"), set("b", "two"))) {
		t.Errorf("the result of Decode shares memory: %q, %q", puts[1].Value, b)
	}
}

func TestTablesAreApart(t *testing.T) {
	one, two := made(t, set("a", "1")), made(t, set("a", "2"), set("b", "2"))
	one.Commit(gone("a"))
	expectTable(t, "one", one, model{})
	expectTable(t, "two", two, model{"a": "2", "b": "2"})
}

// Every sequence of five Puts out of six, in every division into two Commits.
func TestAllShortScripts(t *testing.T) {
	choices := []kv.Put{set("a", "1"), set("a", "2"), set("ab", "3"), gone("a"), gone("ab"), {Gone: true}}
	for script := range 6 * 6 * 6 * 6 * 6 {
		var l []kv.Put
		for rest := script; len(l) < 5; rest /= 6 {
			l = append(l, choices[rest%6])
		}
		at := script % 6
		table, m := kv.New(), model{}
		for _, part := range [][]kv.Put{l[:at], l[at:]} {
			want := api.OK
			if slices.ContainsFunc(part, func(p kv.Put) bool { return p.Key == "" }) {
				want = api.EARG
			} else {
				m.perform(part)
			}
			if err := table.Commit(part...); err != want {
				t.Fatalf("%v: %v, want %v", part, err, want)
			}
		}
		expectTable(t, "script "+strconv.Itoa(script), table, m)
	}
}

func randomPut(r *rand.Rand, keys int) kv.Put {
	key := "k" + strconv.Itoa(r.Intn(keys))
	if r.Intn(5) < 2 {
		return gone(key)
	}
	return set(key, strings.Repeat("v", r.Intn(4))+strconv.Itoa(r.Intn(10)))
}

func TestRandomScripts(t *testing.T) {
	r := rand.New(rand.NewSource(1))
	for _, keys := range []int{10, 300, 3000} {
		table, m := kv.New(), model{}
		for step := range 300 {
			var l []kv.Put
			for range r.Intn(60) {
				l = append(l, randomPut(r, keys))
			}
			if err := table.Commit(l...); err != api.OK {
				t.Fatalf("step %d: %v", step, err)
			}
			m.perform(l)
			from, to, most := "k"+strconv.Itoa(r.Intn(keys)), "k"+strconv.Itoa(r.Intn(keys)), r.Intn(keys)
			if got := table.Range(from, to, most); !slices.EqualFunc(got, m.pairs(from, to, most), equalPairs) {
				t.Fatalf("step %d: Range(%q, %q, %d): %v, want %v", step, from, to, most, got, m.pairs(from, to, most))
			}
			if step%20 == 0 {
				expectTable(t, "step "+strconv.Itoa(step), table, m)
			}
		}
		expectTable(t, "at the end", table, m)
		loaded, err := kv.Load(table.Bytes())
		if err != api.OK {
			t.Fatalf("Load: %v", err)
		}
		expectTable(t, "loaded", loaded, m)
	}
}

// Tables that grow and shrink from each side.
func TestLongTables(t *testing.T) {
	const n = 2000
	orders := [][]int{make([]int, n), make([]int, n), rand.New(rand.NewSource(2)).Perm(n)}
	for i := range n {
		orders[0][i], orders[1][i] = i, n-1-i
	}
	key := func(i int) string { return strconv.Itoa(100000 + i) }
	for _, puts := range orders {
		for _, takes := range orders {
			table, m := kv.New(), model{}
			for _, i := range puts {
				table.Commit(set(key(i), strconv.Itoa(i)))
				m[key(i)] = strconv.Itoa(i)
			}
			expectTable(t, "grown", table, m)
			for step, i := range takes {
				table.Commit(gone(key(i)))
				delete(m, key(i))
				if step%500 == 499 {
					expectTable(t, "shrunk", table, m)
				}
			}
			table.Commit(set("a", "1"))
			expectTable(t, "grown again", table, model{"a": "1"})
		}
	}
}

func TestManyPutsTakeLittleTime(t *testing.T) {
	var l []kv.Put
	for _, i := range rand.New(rand.NewSource(3)).Perm(200000) {
		l = append(l, set(strconv.Itoa(1000000+i), ""))
	}
	table := made(t, l...)
	for i := range 200000 {
		if p := table.Range(strconv.Itoa(1000000+i), "", 1); len(p) != 1 || p[0].Key != strconv.Itoa(1000000+i) {
			t.Fatalf("Range from number %d: %v", i, p)
		}
	}
	if table.Len() != 200000 {
		t.Errorf("Len: %d", table.Len())
	}
}
