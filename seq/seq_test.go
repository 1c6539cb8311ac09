package seq_test

import (
	"math"
	"math/rand"
	"regexp"
	"slices"
	"strconv"
	"strings"
	"testing"

	"franking/api"
	"franking/seq"
)

const star = 0 // what stands for * in a Span

const maxText = "4294967295"

// spans makes a set of the pairs of its arguments.
func spans(ends ...int64) seq.Set {
	var t seq.Set
	for i := 0; i < len(ends); i += 2 {
		t.L = append(t.L, seq.Span{From: ends[i], To: ends[i+1]})
	}
	return t
}

// repeated is a set of n times the same span.
func repeated(s seq.Span, n int) seq.Set {
	return seq.Set{L: slices.Repeat([]seq.Span{s}, n)}
}

func elements(element string, n int) string {
	return strings.Repeat(element+",", n-1) + element
}

// words returns all strings of at most most of the letters.
func words(letters string, most int) []string {
	all := []string{""}
	last := all
	for range most {
		var next []string
		for _, w := range last {
			for i := range len(letters) {
				next = append(next, w+letters[i:i+1])
			}
		}
		all = append(all, next...)
		last = next
	}
	return all
}

var form = regexp.MustCompile(`^(NUM(:NUM)?)(,NUM(:NUM)?)*$`)

var number = regexp.MustCompile(`[0-9]+|\*`)

// hasForm is the definition of the form: it first writes NUM for every number
// that may be.
func hasForm(s string) bool {
	if strings.Contains(s, "NUM") {
		return false
	}
	return form.MatchString(number.ReplaceAllStringFunc(s, func(n string) string {
		v, err := strconv.ParseUint(n, 10, 64)
		if n != "*" && (n[0] == '0' || err != nil || v > api.MaxUID) {
			return n
		}
		return "NUM"
	}))
}

func endOf(s string) int64 {
	n, _ := strconv.ParseInt(s, 10, 64) // 0 for *
	return n
}

// parsed is the definition of what a text that has the form means.
func parsed(s string) seq.Set {
	var t seq.Set
	for _, e := range strings.Split(s, ",") {
		ends := strings.Split(e, ":")
		t.L = append(t.L, seq.Span{From: endOf(ends[0]), To: endOf(ends[len(ends)-1])})
	}
	return t
}

func checkParse(t *testing.T, s string, want seq.Set) {
	t.Helper()
	if got, err := seq.Parse(s); !slices.Equal(got.L, want.L) || err != api.OK {
		t.Errorf("Parse(%.200q): %v, %v, want %v", s, got, err, want)
	}
}

func checkRefused(t *testing.T, s string, want api.Errno) {
	t.Helper()
	if got, err := seq.Parse(s); got.L != nil || err != want {
		t.Errorf("Parse(%.200q): %v, %v, want %v", s, got, err, want)
	}
}

func checkShow(t *testing.T, set seq.Set, want string) {
	t.Helper()
	if got := seq.Show(set); got != want {
		t.Errorf("Show(%v): %q, want %q", set, got, want)
	}
}

func checkHas(t *testing.T, set seq.Set, n, last int64, want bool) {
	t.Helper()
	if got := seq.Has(set, n, last); got != want {
		t.Errorf("Has(%v, %d, %d): %v", set, n, last, got)
	}
}

func checkPick(t *testing.T, set seq.Set, l, want []int64) {
	t.Helper()
	if got := seq.Pick(set, l); !slices.Equal(got, want) {
		t.Errorf("Pick(%v, %v): %v, want %v", set, l, got, want)
	}
}

func checkOf(t *testing.T, l []int64, want seq.Set) {
	t.Helper()
	if got := seq.Of(l); !slices.Equal(got.L, want.L) {
		t.Errorf("Of(%v): %v, want %v", l, got, want)
	}
}

func TestExample(t *testing.T) {
	set, err := seq.Parse("3:1")
	if err != api.OK || !seq.Has(set, 2, 9) {
		t.Errorf("Parse(3:1): %v, %v, has no 2", set, err)
	}
}

func TestParseAndShow(t *testing.T) {
	for _, c := range []struct {
		text string
		set  seq.Set
	}{
		{"1", spans(1, 1)},
		{"*", spans(star, star)},
		{"1:3,5,7:*", spans(1, 3, 5, 5, 7, star)},
		{"3:1", spans(3, 1)},
		{"*:7", spans(star, 7)},
		{"*:1,*,1:*", spans(star, 1, star, star, 1, star)},
		{"5,3,4,3", spans(5, 5, 3, 3, 4, 4, 3, 3)},
		{"1:9,2:3", spans(1, 9, 2, 3)},
		{"10,100:1000", spans(10, 10, 100, 1000)},
		{"1000000000", spans(1000000000, 1000000000)},
		{maxText, spans(api.MaxUID, api.MaxUID)},
		{"1:" + maxText, spans(1, api.MaxUID)},
		{maxText + ":1", spans(api.MaxUID, 1)},
		{maxText + ":*", spans(api.MaxUID, star)},
		{"4294967294:" + maxText, spans(api.MaxUID-1, api.MaxUID)},
	} {
		checkParse(t, c.text, c.set)
		checkShow(t, c.set, c.text)
	}
}

func TestSpanOfOneNumberIsShownAsOne(t *testing.T) {
	for text, want := range map[string]string{"7:7": "7", "*:*": "*", "1,2:2,*:*,3": "1,2,*,3"} {
		set := parsed(want)
		checkParse(t, text, set)
		checkShow(t, set, want)
	}
}

func TestParseRefusesWhatHasNoForm(t *testing.T) {
	for _, s := range []string{
		"", ",", ":", "1,", ",1", "1,,2", ",,", "1:", ":1", "1::2", "1:2:3", "*:*:*", ":,", "1:,2", "1,:2", // empty parts
		"0", "0:1", "1:0", "*:0", "00", "01", "1:02", "1,01", "0000000001", "00000000001", "0,*", // 0 and leading zeros
		"4294967296", "1:4294967296", "4294967296:1", "9999999999", "10000000000", "42949672950", "18446744073709551616", "18446744073709551617", "340282366920938463463374607431768211457", // too great
		"-1", "+1", "1-2", "1.5", "1e3", "0x1", "1_0", "1_000", "a", "1a", "a1", "INBOX", "$", "1;2", "**", "*1", "1*", "1**", "(1)", "\"1\"", "{1}", // other bytes
		" ", " 1", "1 ", "1, 2", "1 ,2", "1 :2", "1: 2", "\t1", "1\r\n", "1\n", "\x00", "1\x00", "1\xff", "١", "１", "é", "1,２", // spaces and other digits
	} {
		checkRefused(t, s, api.EFORM)
		checkRefused(t, s+",1,", api.EFORM)
		if s != "" {
			checkRefused(t, "2:4,"+s, api.EFORM)
			checkRefused(t, s+",*", api.EFORM)
		}
	}
}

func TestParseNumbersOfEachLength(t *testing.T) {
	for n := 1; n <= 40; n++ {
		for _, digit := range []string{"1", "4", "5", "9"} {
			s := strings.Repeat(digit, n)
			if n < 10 || n == 10 && digit == "1" {
				checkParse(t, s, spans(endOf(s), endOf(s)))
			} else {
				checkRefused(t, s, api.EFORM)
			}
		}
	}
	for _, n := range []int64{9, 10, 99, 100, 999999999, 1000000000, 1 << 31, api.MaxUID - 1, api.MaxUID} {
		s := strconv.FormatInt(n, 10)
		checkParse(t, s, spans(n, n))
		checkRefused(t, "0"+s, api.EFORM)
	}
}

func TestParseEveryShortText(t *testing.T) {
	for _, s := range words("019*:,a", 6) {
		if hasForm(s) {
			checkParse(t, s, parsed(s))
		} else {
			checkRefused(t, s, api.EFORM)
		}
	}
}

func TestParseEveryByte(t *testing.T) {
	for c := range 256 {
		b := string([]byte{byte(c)})
		for _, s := range []string{b, "1" + b, b + "1", "1" + b + "2", "*" + b + "*", "1:2" + b + "3", "429496729" + b, b + "294967295"} {
			if hasForm(s) {
				checkParse(t, s, parsed(s))
			} else {
				checkRefused(t, s, api.EFORM)
			}
		}
	}
}

func TestParseLimitsTheElements(t *testing.T) {
	for _, e := range []string{"1", "*", "3:1", maxText + ":" + maxText} {
		for _, n := range []int{1, 2, api.MaxSeqs - 1, api.MaxSeqs} {
			checkParse(t, elements(e, n), repeated(parsed(e).L[0], n))
		}
		for _, n := range []int{api.MaxSeqs + 1, api.MaxSeqs + 2, 2 * api.MaxSeqs, 100000} {
			checkRefused(t, elements(e, n), api.ELIMIT)
		}
	}
}

func TestParseTellsOfTheFormBeforeTheLimit(t *testing.T) {
	for _, n := range []int{api.MaxSeqs, api.MaxSeqs + 1, 100000} {
		for _, bad := range []string{"", "0", "x", "1:", "1:2:3", "4294967296"} {
			checkRefused(t, elements("1", n)+","+bad, api.EFORM)
			checkRefused(t, bad+","+elements("1", n), api.EFORM)
			checkRefused(t, elements("1", n)+","+bad+","+elements("1", n), api.EFORM)
		}
	}
}

// notValid has every kind of fault that a set can have.
func notValid() []seq.Set {
	sets := []seq.Set{{}, {L: []seq.Span{}}, repeated(seq.Span{From: 1, To: 9}, api.MaxSeqs+1), repeated(seq.Span{From: 1, To: 9}, 100000)}
	for _, bad := range []int64{-1, -2, math.MinInt64, api.MaxUID + 1, 1 << 33, math.MaxInt64} {
		for _, other := range []int64{star, 1, 9, api.MaxUID, bad} {
			sets = append(sets,
				spans(bad, other), spans(other, bad),
				spans(1, 9, bad, other), spans(other, bad, 1, 9), spans(1, 9, other, bad, star, star))
		}
	}
	full := repeated(seq.Span{From: 1, To: 9}, api.MaxSeqs)
	full.L[api.MaxSeqs-1].To = -1
	return append(sets, full)
}

func TestSetsThatAreNotValid(t *testing.T) {
	for _, set := range notValid() {
		checkShow(t, set, "")
		for _, n := range []int64{math.MinInt64, -1, 0, 1, 2, 9, api.MaxUID, api.MaxUID + 1, math.MaxInt64} {
			checkHas(t, set, n, 9, false)
			checkHas(t, set, n, n, false)
		}
		checkPick(t, set, []int64{-1, 0, 1, 2, 9, api.MaxUID, api.MaxUID + 1}, nil)
		checkPick(t, set, nil, nil)
	}
}

func TestSetsAtTheLimits(t *testing.T) {
	full := repeated(seq.Span{From: 9, To: 9}, api.MaxSeqs)
	full.L[api.MaxSeqs-1] = seq.Span{From: star, To: api.MaxUID}
	checkShow(t, full, elements("9", api.MaxSeqs-1)+",*:"+maxText)
	checkHas(t, full, 9, 11, true)
	checkHas(t, full, 10, 11, false)
	checkHas(t, full, 11, 11, true)
	checkHas(t, full, api.MaxUID, 11, true)
	checkHas(t, full, api.MaxUID+1, 11, false)
	checkPick(t, full, []int64{8, 9, 10, 11}, []int64{9, 11})
}

func TestShowWhatIsParsed(t *testing.T) {
	for _, s := range words("12*:,", 6) {
		if !hasForm(s) {
			continue
		}
		set := parsed(s)
		text := seq.Show(set)
		checkParse(t, text, set)
		if len(text) > len(s) {
			t.Errorf("Show(Parse(%q)): %q", s, text)
		}
	}
}

func TestHas(t *testing.T) {
	for _, c := range []struct {
		text    string
		n, last int64
		want    bool
	}{
		{"1:3,5,7:*", 1, 9, true},
		{"1:3,5,7:*", 3, 9, true},
		{"1:3,5,7:*", 4, 9, false},
		{"1:3,5,7:*", 5, 9, true},
		{"1:3,5,7:*", 6, 9, false},
		{"1:3,5,7:*", 7, 9, true},
		{"1:3,5,7:*", 9, 9, true},
		{"1:3,5,7:*", 10, 9, false},
		{"1:3,5,7:*", 6, 6, true}, // 7:6
		{"1:3,5,7:*", 4, 4, true},
		{"1:3,5,7:*", 4, 5, false},
		{"3:1", 1, 9, true},
		{"3:1", 3, 9, true},
		{"3:1", 4, 9, false},
		{"3:1", 3, 1, true}, // the last number bounds only *
		{"*", 9, 9, true},
		{"*", 8, 9, false},
		{"*", 10, 9, false},
		{"*", 1, 0, false},
		{"*:5", 7, 9, true},
		{"*:5", 4, 9, false},
		{"*:5", 4, 3, true},
		{"5:*", 5, 0, true},
		{"5:*", 1, 0, true},
		{"5:*", 6, 0, false},
		{"5:*", 1, -7, true},
		{"5:*", 1, math.MinInt64, true},
		{"5:*", math.MaxInt64, math.MaxInt64, true},
		{"5:*", math.MaxInt64, math.MaxInt64 - 1, false},
		{"*", api.MaxUID + 1, api.MaxUID + 1, true},
		{"1:" + maxText, api.MaxUID, 9, true},
		{"1:" + maxText, api.MaxUID + 1, 9, false},
		{maxText, api.MaxUID, 9, true},
		{maxText, api.MaxUID - 1, 9, false},
	} {
		checkHas(t, parsed(c.text), c.n, c.last, c.want)
	}
}

func TestHasNoNumberBelowOne(t *testing.T) {
	for _, set := range []seq.Set{spans(star, star), spans(1, star), spans(star, 5), spans(1, api.MaxUID), spans(3, 3, star, star)} {
		for _, n := range []int64{0, -1, -2, -1 << 32, math.MinInt64} {
			for _, last := range []int64{n, 0, 1, 9, math.MinInt64, math.MaxInt64} {
				checkHas(t, set, n, last, false)
			}
		}
	}
}

// inSpan is the definition: it counts through the span.
func inSpan(s seq.Span, n, last int64) bool {
	from, to := s.From, s.To
	if from == 0 {
		from = last
	}
	if to == 0 {
		to = last
	}
	for from != to {
		if from == n {
			return true
		}
		if from < to {
			from++
		} else {
			from--
		}
	}
	return from == n
}

func inSet(set seq.Set, n, last int64) bool {
	return n > 0 && slices.ContainsFunc(set.L, func(s seq.Span) bool { return inSpan(s, n, last) })
}

// smallSets are all sets of one and of two spans with ends up to 4.
func smallSets() []seq.Set {
	var one, all []seq.Set
	for from := range int64(5) {
		for to := range int64(5) {
			one = append(one, spans(from, to))
		}
	}
	all = append(all, one...)
	for _, a := range one {
		for _, b := range one {
			all = append(all, seq.Set{L: slices.Concat(a.L, b.L)})
		}
	}
	return all
}

func TestHasOfEverySmallSet(t *testing.T) {
	for _, set := range smallSets() {
		for last := int64(-2); last <= 6; last++ {
			for n := int64(-2); n <= 7; n++ {
				checkHas(t, set, n, last, inSet(set, n, last))
			}
		}
	}
}

func TestPick(t *testing.T) {
	for _, c := range []struct {
		text    string
		l, want []int64
	}{
		{"1:3,5", []int64{1, 2, 3, 4, 5, 6}, []int64{1, 2, 3, 5}},
		{"1:3,5", []int64{6, 5, 4, 3, 2, 1}, []int64{5, 3, 2, 1}},
		{"3:1", []int64{2, 9, 1, 4}, []int64{2, 1}},
		{"5,1", []int64{1, 5}, []int64{1, 5}},
		{"1,1:2,2", []int64{1, 2}, []int64{1, 2}},
		{"2", []int64{2, 2, 3, 2}, []int64{2, 2, 2}},
		{"*", []int64{4, 9, 7}, []int64{9}},
		{"*", []int64{9, 4, 9}, []int64{9, 9}},
		{"7:*", []int64{9, 4, 7, 8}, []int64{9, 7, 8}},
		{"20:*", []int64{9, 4, 7}, []int64{9}}, // 20:9
		{"*:8", []int64{5, 8, 3}, []int64{8}},
		{"*:6", []int64{5, 2, 3}, []int64{5}},
		{"*", []int64{0}, nil},
		{"*", []int64{-3, -1}, nil},
		{"1:*", []int64{0, -1, 3, -9}, []int64{3}},
		{"5:*", []int64{0, -1}, nil},
		{"1:9", []int64{10, 0, -1, math.MinInt64, math.MaxInt64}, nil},
		{"1:" + maxText, []int64{api.MaxUID + 1, api.MaxUID, 0}, []int64{api.MaxUID}},
		{"*", []int64{1, math.MaxInt64}, []int64{math.MaxInt64}},
		{"4", []int64{1, 2, 3}, nil},
		{"1:*", nil, nil},
		{"1:*", []int64{}, nil},
	} {
		checkPick(t, parsed(c.text), c.l, c.want)
	}
}

func TestPickOfEverySmallSet(t *testing.T) {
	for _, set := range smallSets() {
		for _, l := range [][]int64{{}, {1}, {3, 1}, {4, 2, 0, 4}, {-1, 0}, {6, 5, 4, 3, 2, 1}, {2, 3}} {
			var want []int64
			for _, n := range l {
				if inSet(set, n, slices.Max(l)) {
					want = append(want, n)
				}
			}
			checkPick(t, set, l, want)
		}
	}
}

func TestOf(t *testing.T) {
	for _, c := range []struct {
		l    []int64
		want seq.Set
	}{
		{nil, spans()},
		{[]int64{}, spans()},
		{[]int64{7}, spans(7, 7)},
		{[]int64{1, 2, 3}, spans(1, 3)},
		{[]int64{3, 2, 1}, spans(1, 3)},
		{[]int64{2, 3, 1, 3, 2, 2}, spans(1, 3)},
		{[]int64{1, 3}, spans(1, 1, 3, 3)},
		{[]int64{9, 1, 8, 3, 2}, spans(1, 3, 8, 9)},
		{[]int64{5, 5, 5}, spans(5, 5)},
		{[]int64{10, 9}, spans(9, 10)},
		{[]int64{0, 1, -1, 2}, spans(1, 2)},
		{[]int64{0, -1, math.MinInt64}, spans()},
		{[]int64{api.MaxUID + 1, math.MaxInt64, 1 << 32}, spans()},
		{[]int64{api.MaxUID + 1, api.MaxUID, api.MaxUID - 1}, spans(api.MaxUID-1, api.MaxUID)},
		{[]int64{math.MaxInt64, 4, math.MinInt64, 6, 0}, spans(4, 4, 6, 6)},
		{[]int64{1, api.MaxUID}, spans(1, 1, api.MaxUID, api.MaxUID)},
		{[]int64{1<<32 + 1, 1<<32 + 2}, spans()},
	} {
		checkOf(t, c.l, c.want)
	}
}

// spansOf is the definition: it looks at each number up to the greatest.
func spansOf(l []int64) seq.Set {
	in := map[int64]int{}
	for _, n := range l {
		in[n] = 1
	}
	var t seq.Set
	for n := int64(1); n <= slices.Max(l); n++ {
		if in[n] == 0 {
			continue
		}
		if in[n-1] == 0 || n == 1 {
			t.L = append(t.L, seq.Span{From: n})
		}
		t.L[len(t.L)-1].To = n
	}
	t.L = t.L[:min(len(t.L), api.MaxSeqs)]
	return t
}

func TestOfManyLists(t *testing.T) {
	r := rand.New(rand.NewSource(9))
	for range 3000 {
		l := make([]int64, 1+r.Intn(250))
		greatest := 2 + r.Intn(600)
		for i := range l {
			l[i] = int64(r.Intn(greatest) - 1)
		}
		want := spansOf(l)
		checkOf(t, l, want)
		if len(want.L) > 0 && len(want.L) < api.MaxSeqs {
			checkPick(t, seq.Of(l), l, slices.DeleteFunc(slices.Clone(l), func(n int64) bool { return n < 1 }))
		}
		if t.Failed() {
			return
		}
	}
}

// The first spans are those of the least numbers, and the last of them is
// whole.
func TestOfLimitsTheSpans(t *testing.T) {
	for _, n := range []int{api.MaxSeqs - 1, api.MaxSeqs, api.MaxSeqs + 1, 5000} {
		var l []int64
		var want seq.Set
		for i := range int64(n) {
			l = append(l, 10*i+3, 10*i+1, 10*i+2)
			want.L = append(want.L, seq.Span{From: 10*i + 1, To: 10*i + 3})
		}
		want.L = want.L[:min(n, api.MaxSeqs)]
		checkOf(t, l, want)
		slices.Reverse(l)
		checkOf(t, l, want)
	}
}

func TestOfALongList(t *testing.T) {
	var l []int64
	for n := int64(300000); n > -10; n-- {
		l = append(l, n, n)
	}
	checkOf(t, l, spans(1, 300000))
	checkShow(t, seq.Of(l), "1:300000")
}

// spare returns a list with the same elements and with spare ones behind them.
func spare[E any](l []E, behind ...E) (list, all []E) {
	all = slices.Concat(l, behind)
	return all[:len(l)], all
}

func TestArgumentsStayAsTheyAre(t *testing.T) {
	l, numbers := spare([]int64{5, 3, 0, 4, 9, -1, 9, 1, 1 << 40}, 7, 6)
	parts, all := spare(spans(9, 3, star, 8, 1, 1, 77, 66).L, seq.Span{From: 4, To: 4}, seq.Span{From: 2})
	set := seq.Set{L: parts}
	numbersWere, allWere := slices.Clone(numbers), slices.Clone(all)
	seq.Show(set)
	seq.Has(set, 5, 9)
	seq.Pick(set, l)
	seq.Of(l)
	if !slices.Equal(numbers, numbersWere) {
		t.Errorf("the numbers %v have become %v", numbersWere, numbers)
	}
	if !slices.Equal(all, allWere) {
		t.Errorf("the spans %v have become %v", allWere, all)
	}
}

// overwrite fills a list with v, and also its spare capacity.
func overwrite[E any](l []E, v E) {
	l = l[:cap(l)]
	for i := range l {
		l[i] = v
	}
}

func TestResultsAreNew(t *testing.T) {
	const text = "1:3,5,7:*"
	wrong := seq.Span{From: -1, To: -1}
	l := []int64{9, 1, 2, 5}
	set := parsed(text)
	for range 3 {
		p, _ := seq.Parse(text)
		checkParse(t, text, set)
		overwrite(p.L, wrong)
		checkParse(t, text, set)

		picked := seq.Pick(set, l)
		checkPick(t, set, l, l)
		overwrite(picked, -1)
		checkPick(t, set, l, l)

		of := seq.Of(l)
		overwrite(of.L, wrong)
		checkOf(t, l, spans(1, 2, 5, 5, 9, 9))
	}
	if !slices.Equal(l, []int64{9, 1, 2, 5}) || !slices.Equal(set.L, parsed(text).L) {
		t.Errorf("a result shares memory with an argument: %v, %v", l, set)
	}
}
