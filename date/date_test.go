package date_test

import (
	"fmt"
	"math"
	"math/rand"
	"regexp"
	"strings"
	"testing"
	"time"

	"franking/api"
	"franking/date"
)

const (
	maxZone    = 1439
	daySeconds = 86400
	lastDay    = 2932896          // 31-Dec-9999
	lastMoment = 253402300800 - 1 // 31-Dec-9999 23:59:59 +0000
	monthNames = "JanFebMarAprMayJunJulAugSepOctNovDec"
	someText   = " 7-Feb-1994 21:52:25 -0830"
	someUnix   = 760688545 // of someText
	dayLetters = "0123456789JanFebMrApyulgSOctNovD- "
)

var (
	first = date.Date{Year: 1970, Month: 1, Day: 1}
	last  = date.Date{Year: 9999, Month: 12, Day: 31, Hour: 23, Min: 59, Sec: 59}
	some  = date.Date{Year: 1994, Month: 2, Day: 7, Hour: 21, Min: 52, Sec: 25, Zone: -510}
)

var zones = []int{0, 1, -1, 9, 59, -59, 60, -60, 61, -61, 90, 330, 345, -210, 599, 600, -600, 720, -720, 840, 1380, 1438, -1438, maxZone, -maxZone}

func zoned(d date.Date, zone int) date.Date {
	d.Zone = zone
	return d
}

// timeOf and dateOf are the definition: the moments of the library.
func timeOf(d date.Date) time.Time {
	place := time.FixedZone("", 60*d.Zone)
	return time.Date(d.Year, time.Month(d.Month), d.Day, d.Hour, d.Min, d.Sec, 0, place)
}

func dateOf(unix int64, zone int) date.Date {
	t := time.Unix(unix, 0).In(time.FixedZone("", 60*zone))
	return date.Date{Year: t.Year(), Month: int(t.Month()), Day: t.Day(), Hour: t.Hour(), Min: t.Minute(), Sec: t.Second(), Zone: zone}
}

// shown is the definition of the text.
func shown(d date.Date) string {
	sign, zone := "+", d.Zone
	if zone < 0 {
		sign, zone = "-", -zone
	}
	return fmt.Sprintf("%2d-%s-%04d %02d:%02d:%02d %s%02d%02d", d.Day, time.Month(d.Month).String()[:3], d.Year, d.Hour, d.Min, d.Sec, sign, zone/60, zone%60)
}

func checkGood(t *testing.T, d date.Date) {
	t.Helper()
	if !date.Good(d) {
		t.Errorf("Good(%v): false", d)
	}
}

// checkBad also holds the calls to a date that is not valid.
func checkBad(t *testing.T, d date.Date) {
	t.Helper()
	if date.Good(d) {
		t.Errorf("Good(%v): true", d)
	}
	checkUnix(t, d, 0)
	checkShow(t, d, "")
}

func checkUnix(t *testing.T, d date.Date, want int64) {
	t.Helper()
	if got := date.Unix(d); got != want {
		t.Errorf("Unix(%v): %d, want %d", d, got, want)
	}
}

func checkOf(t *testing.T, unix int64, zone int, want date.Date) {
	t.Helper()
	if got, err := date.Of(unix, zone); got != want || err != api.OK {
		t.Errorf("Of(%d, %d): %v, %v, want %v", unix, zone, got, err, want)
	}
}

func checkNone(t *testing.T, unix int64, zone int) {
	t.Helper()
	if got, err := date.Of(unix, zone); got != (date.Date{}) || err != api.EARG {
		t.Errorf("Of(%d, %d): %v, %v, want EARG", unix, zone, got, err)
	}
}

func checkShow(t *testing.T, d date.Date, want string) {
	t.Helper()
	if got := date.Show(d); got != want {
		t.Errorf("Show(%v): %q, want %q", d, got, want)
	}
}

func checkParse(t *testing.T, s string, want date.Date) {
	t.Helper()
	if got, err := date.Parse(s); got != want || err != api.OK {
		t.Errorf("Parse(%q): %v, %v, want %v", s, got, err, want)
	}
}

func checkParseRefuses(t *testing.T, s string) {
	t.Helper()
	if got, err := date.Parse(s); got != (date.Date{}) || err != api.EFORM {
		t.Errorf("Parse(%.200q): %v, %v, want EFORM", s, got, err)
	}
}

func checkDay(t *testing.T, s string, want int64) {
	t.Helper()
	if got, err := date.Day(s); got != want || err != api.OK {
		t.Errorf("Day(%q): %d, %v, want %d", s, got, err, want)
	}
}

func checkDayRefuses(t *testing.T, s string) {
	t.Helper()
	if got, err := date.Day(s); got != 0 || err != api.EFORM {
		t.Errorf("Day(%.200q): %d, %v, want EFORM", s, got, err)
	}
}

// checkAll holds all calls to a valid date.
func checkAll(t *testing.T, d date.Date) {
	t.Helper()
	unix := timeOf(d).Unix()
	checkGood(t, d)
	checkUnix(t, d, unix)
	checkOf(t, unix, d.Zone, d)
	checkShow(t, d, shown(d))
	checkParse(t, shown(d), d)
}

func TestExample(t *testing.T) {
	d, err := date.Of(0, 60)
	if got := date.Show(d); got != " 1-Jan-1970 01:00:00 +0100" || err != api.OK {
		t.Errorf("Show(Of(0, 60)): %q, %v", got, err)
	}
}

func TestKnownDates(t *testing.T) {
	for _, c := range []struct {
		unix int64
		d    date.Date
		text string
	}{
		{0, first, " 1-Jan-1970 00:00:00 +0000"},
		{someUnix, some, someText},
		{837596665, date.Date{Year: 1996, Month: 7, Day: 17, Hour: 2, Min: 44, Sec: 25, Zone: -420}, "17-Jul-1996 02:44:25 -0700"},
		{951782400, date.Date{Year: 2000, Month: 2, Day: 29}, "29-Feb-2000 00:00:00 +0000"},
		{951868799, date.Date{Year: 2000, Month: 2, Day: 29, Hour: 23, Min: 59, Sec: 59}, "29-Feb-2000 23:59:59 +0000"},
		{1000000000, date.Date{Year: 2001, Month: 9, Day: 9, Hour: 7, Min: 16, Sec: 40, Zone: 330}, " 9-Sep-2001 07:16:40 +0530"},
		{2147483647, date.Date{Year: 2038, Month: 1, Day: 19, Hour: 3, Min: 14, Sec: 7}, "19-Jan-2038 03:14:07 +0000"},
		{4107542400, date.Date{Year: 2100, Month: 3, Day: 1}, " 1-Mar-2100 00:00:00 +0000"},
		{1234567890, date.Date{Year: 2009, Month: 2, Day: 13, Hour: 23, Min: 30, Sec: 30, Zone: -1}, "13-Feb-2009 23:30:30 -0001"},
		{lastMoment, last, "31-Dec-9999 23:59:59 +0000"},
		{-maxZone * 60, zoned(first, maxZone), " 1-Jan-1970 00:00:00 +2359"},
		{maxZone * 60, zoned(first, -maxZone), " 1-Jan-1970 00:00:00 -2359"},
		{lastMoment + maxZone*60, zoned(last, -maxZone), "31-Dec-9999 23:59:59 -2359"},
		{lastMoment - maxZone*60, zoned(last, maxZone), "31-Dec-9999 23:59:59 +2359"},
	} {
		checkGood(t, c.d)
		checkUnix(t, c.d, c.unix)
		checkOf(t, c.unix, c.d.Zone, c.d)
		checkShow(t, c.d, c.text)
		checkParse(t, c.text, c.d)
		checkAll(t, c.d)
	}
}

// faults has every kind of fault that a valid date can get.
func faults(d date.Date) []date.Date {
	var all []date.Date
	fields := []struct {
		of  *int
		bad []int
	}{
		{of: &d.Year, bad: []int{1969, 10000, 0, -1, -1994, 94, 12345}},
		{of: &d.Month, bad: []int{0, 13, -1, 14}},
		{of: &d.Day, bad: []int{0, 32, -1, 33}},
		{of: &d.Hour, bad: []int{-1, 24, 25}},
		{of: &d.Min, bad: []int{-1, 60, 61}},
		{of: &d.Sec, bad: []int{-1, 60, 61}},
		{of: &d.Zone, bad: []int{-1440, 1440, -1441, 86400}},
	}
	for _, f := range fields {
		was := *f.of
		for _, n := range append(f.bad, math.MinInt, math.MaxInt, math.MinInt32, math.MaxInt32, 1<<32+was, -1<<32+was) {
			*f.of = n
			all = append(all, d)
		}
		*f.of = was
	}
	return all
}

func TestDatesThatAreNotValid(t *testing.T) {
	for _, d := range []date.Date{first, last, some} {
		for _, bad := range faults(d) {
			checkBad(t, bad)
		}
	}
	checkBad(t, date.Date{})
}

func TestFieldsAtTheirLimits(t *testing.T) {
	for _, d := range []date.Date{first, last, some} {
		for _, year := range []int{1970, 1971, 9998, 9999} {
			d.Year = year
			checkAll(t, d)
		}
		for _, n := range []int{0, 1, 9, 10, 22, 23} {
			d.Hour = n
			checkAll(t, d)
		}
		for _, n := range []int{0, 1, 9, 10, 58, 59} {
			d.Min = n
			checkAll(t, d)
			d.Sec = 59 - n
			checkAll(t, d)
		}
		for zone := -maxZone; zone <= maxZone; zone++ {
			d.Zone = zone
			checkAll(t, d)
		}
	}
}

func TestDaysOfEveryMonth(t *testing.T) {
	for _, year := range []int{1970, 1971, 1972, 1999, 2000, 2001, 2004, 2023, 2024, 2099, 2100, 2200, 2300, 2400, 3000, 4000, 9996, 9999} {
		for month := 1; month <= 12; month++ {
			for day := -1; day <= 33; day++ {
				d := date.Date{Year: year, Month: month, Day: day, Hour: 12}
				s := fmt.Sprintf("%d-%s-%d", day, monthNames[3*month-3:3*month], year)
				if timeOf(d).Day() != day {
					checkBad(t, d)
					checkParseRefuses(t, shown(d))
					checkDayRefuses(t, s)
				} else {
					checkAll(t, d)
					checkDay(t, s, timeOf(d).Unix()/daySeconds)
				}
			}
		}
	}
}

func TestLeapYears(t *testing.T) {
	for year := 1970; year <= 9999; year++ {
		leap := year%400 == 0 || year%4 == 0 && year%100 != 0
		d := date.Date{Year: year, Month: 2, Day: 29}
		if date.Good(d) != leap {
			t.Errorf("Good(%v): %v", d, !leap)
		}
		if _, err := date.Day(fmt.Sprintf("29-Feb-%d", year)); (err == api.OK) != leap {
			t.Errorf("Day of 29-Feb-%d: %v", year, err)
		}
	}
}

// TestEveryDay counts the days, and tells from the library only when a month
// ends.
func TestEveryDay(t *testing.T) {
	n := int64(0)
	for year := 1970; year <= 9999; year++ {
		for month := 1; month <= 12; month++ {
			length := time.Date(year, time.Month(month)+1, 0, 0, 0, 0, 0, time.UTC).Day()
			for day := 1; day <= length; day++ {
				d := date.Date{Year: year, Month: month, Day: day}
				if got := date.Unix(d); got != n*daySeconds {
					t.Fatalf("Unix(%v): %d, want %d", d, got, n*daySeconds)
				}
				if got, err := date.Of(n*daySeconds, 0); got != d || err != api.OK {
					t.Fatalf("Of(%d, 0): %v, %v, want %v", n*daySeconds, got, err, d)
				}
				n++
			}
		}
	}
	if n-1 != lastDay {
		t.Errorf("the last day is %d", n-1)
	}
}

func TestEverySecondOfADay(t *testing.T) {
	for _, zone := range []int{0, 1, -839} {
		for n := int64(0); n < daySeconds; n++ {
			unix := 11016*daySeconds + n // 29-Feb-2000
			d := dateOf(unix, zone)
			checkOf(t, unix, zone, d)
			checkUnix(t, d, unix)
		}
	}
}

func TestOfAtTheEnds(t *testing.T) {
	for _, zone := range zones {
		shift := int64(zone) * 60
		for n := range int64(3) {
			checkOf(t, n-shift, zone, dateOf(n-shift, zone))
			checkOf(t, lastMoment-n-shift, zone, dateOf(lastMoment-n-shift, zone))
			checkNone(t, -1-n-shift, zone)
			checkNone(t, lastMoment+1+n-shift, zone)
		}
		for _, unix := range []int64{math.MinInt64, math.MinInt64 + 1, math.MinInt64 + 86340, math.MaxInt64 - 86340, math.MaxInt64 - 1, math.MaxInt64, 1 << 62, -1 << 62, 1 << 40, -1 << 40, -daySeconds, lastMoment + daySeconds, math.MinInt64 - shift, math.MaxInt64 - shift} {
			checkNone(t, unix, zone)
		}
	}
}

func TestOfZonesThatMayNotBe(t *testing.T) {
	for _, zone := range []int{maxZone + 1, -maxZone - 1, 1500, -1500, 1 << 32, 1<<32 + 60, -1 << 32, math.MinInt, math.MaxInt, math.MinInt + 1, math.MaxInt / 60, math.MinInt / 60} {
		for _, unix := range []int64{0, 1, -1, someUnix, lastMoment, -int64(zone) * 60, math.MinInt64, math.MaxInt64} {
			checkNone(t, unix, zone)
		}
	}
}

func TestRandomMoments(t *testing.T) {
	r := rand.New(rand.NewSource(10))
	for range 20000 {
		zone := r.Intn(2*maxZone+1) - maxZone
		checkAll(t, dateOf(r.Int63n(lastMoment+1)-int64(zone)*60, zone))
	}
}

func TestEveryTwoDatesHaveTwoTexts(t *testing.T) {
	seen := map[string]date.Date{}
	for _, zone := range zones {
		for _, unix := range []int64{daySeconds, 10 * daySeconds, 11 * daySeconds, 40 * daySeconds, 400 * daySeconds, someUnix, someUnix + 1} {
			d, _ := date.Of(unix, zone)
			text := date.Show(d)
			if other, has := seen[text]; has {
				t.Errorf("Show(%v) and Show(%v): %q", d, other, text)
			}
			seen[text] = d
		}
	}
}

func TestParseRefusesWhatShowDoesNotWrite(t *testing.T) {
	for _, s := range []string{
		"", " ", "7-Feb-1994", " 7-Feb-1994", " 7-Feb-1994 21:52:25", " 7-Feb-1994 21:52:25 ", " 7-Feb-1994 21:52:25 -083", // cut off
		someText + " ", " " + someText, someText + "0", "0" + someText, someText + "\r\n", someText + someText, `"` + someText + `"`, // too long
		"7-Feb-1994 21:52:25 -0830", "07-Feb-1994 21:52:25 -0830", "  7-Feb-1994 21:52:25 -0830", "7 -Feb-1994 21:52:25 -0830", "\t7-Feb-1994 21:52:25 -0830", "+7-Feb-1994 21:52:25 -0830", // the day
		" 0-Feb-1994 21:52:25 -0830", "00-Feb-1994 21:52:25 -0830", "  -Feb-1994 21:52:25 -0830", "29-Feb-1994 21:52:25 -0830", "30-Feb-1996 21:52:25 -0830", "31-Apr-1994 21:52:25 -0830", "32-Jan-1994 21:52:25 -0830", "-1-Feb-1994 21:52:25 -0830", "99-Feb-1994 21:52:25 -0830",
		" 7-feb-1994 21:52:25 -0830", " 7-FEB-1994 21:52:25 -0830", " 7-fEb-1994 21:52:25 -0830", " 7-Fev-1994 21:52:25 -0830", " 7-   -1994 21:52:25 -0830", " 7-002-1994 21:52:25 -0830", " 7-bMa-1994 21:52:25 -0830", " 7-Fe\x00-1994 21:52:25 -0830", " 7-February-1994 21:52:25 -0830", // the month
		" 7-Feb-1969 21:52:25 -0830", " 7-Feb-0000 21:52:25 -0830", " 7-Feb-  94 21:52:25 -0830", " 7-Feb-94 21:52:25 -0830", " 7-Feb-94   21:52:25 -0830", " 7-Feb-+994 21:52:25 -0830", " 7-Feb--994 21:52:25 -0830", " 7-Feb-1_94 21:52:25 -0830", " 7-Feb-10000 21:52:25 -0830", " 7-Feb-199a 21:52:25 -0830", // the year
		" 7-Feb-1994 24:52:25 -0830", " 7-Feb-1994 -1:52:25 -0830", " 7-Feb-1994  9:52:25 -0830", " 7-Feb-1994 9:52:25 -0830", " 7-Feb-1994 9 :52:25 -0830", " 7-Feb-1994 21:60:25 -0830", " 7-Feb-1994 21: 2:25 -0830", " 7-Feb-1994 21:-2:25 -0830", " 7-Feb-1994 21:52:60 -0830", " 7-Feb-1994 21:52: 5 -0830", " 7-Feb-1994 21:52:+5 -0830", " 7-Feb-1994 99:99:99 -0830", // the time
		" 7-Feb-1994 21:52:25 -0000", " 7-Feb-1994 21:52:25  0000", " 7-Feb-1994 21:52:25 00000", " 7-Feb-1994 21:52:25 08300", " 7-Feb-1994 21:52:25 *0830", " 7-Feb-1994 21:52:25 ++830", " 7-Feb-1994 21:52:25 +-830", " 7-Feb-1994 21:52:25 --830", " 7-Feb-1994 21:52:25 +08-1", " 7-Feb-1994 21:52:25 +0 30", " 7-Feb-1994 21:52:25 + 830", " 7-Feb-1994 21:52:25 +0x30", " 7-Feb-1994 21:52:25 +00x0", " 7-Feb-1994 21:52:25 -00x0", // the zone
		" 7-Feb-1994 21:52:25 +0060", " 7-Feb-1994 21:52:25 +0160", " 7-Feb-1994 21:52:25 +0075", " 7-Feb-1994 21:52:25 +0099", " 7-Feb-1994 21:52:25 +2400", " 7-Feb-1994 21:52:25 -2400", " 7-Feb-1994 21:52:25 +2360", " 7-Feb-1994 21:52:25 -2360", " 7-Feb-1994 21:52:25 +2399", " 7-Feb-1994 21:52:25 -9999", " 7-Feb-1994 21:52:25 UTC  ", " 7-Feb-1994 21:52:25 GMT", " 7-Feb-1994 21:52:25 +08:30",
		" 7 Feb 1994 21:52:25 -0830", " 7/Feb/1994 21:52:25 -0830", " 7-Feb 1994 21:52:25 -0830", " 7-Feb-1994-21:52:25 -0830", " 7-Feb-1994  21:52:25 -0830", " 7-Feb-1994T21:52:25 -0830", " 7-Feb-1994 21.52.25 -0830", " 7-Feb-1994 21:52-25 -0830", " 7-Feb-1994 21:52:25--0830", " 7-Feb-1994 21:52:25  -0830", " 7-Feb-1994 21:52:25-0830 ", "1994-02-07 21:52:25 -08:30", "Mon, 7 Feb 1994 21:52:25 -0830", // the rest
		"\x00\x00\x00\x00\x00\x00\x00\x00\x00\x00\x00\x00\x00\x00\x00\x00\x00\x00\x00\x00\x00\x00\x00\x00\x00\x00", strings.Repeat("\xff", 26), strings.Repeat("1", 26), strings.Repeat(" ", 26), strings.Repeat("-", 26), strings.Repeat("é", 13), strings.Repeat("7", 100000),
	} {
		checkParseRefuses(t, s)
	}
}

func TestParseWithoutEachByteAndWithOneMore(t *testing.T) {
	for _, s := range []string{someText, "31-Dec-9999 23:59:59 +2359", "11-Nov-1111 11:11:11 +1111"} {
		for i := range len(s) {
			checkParseRefuses(t, s[:i])
			checkParseRefuses(t, s[i+1:])
			checkParseRefuses(t, s[:i]+s[i+1:])
			checkParseRefuses(t, s[:i]+s[i:i+1]+s[i:])
		}
	}
}

var text = regexp.MustCompile(`^( [1-9]|[1-3][0-9])-([A-Z][a-z]{2})-([0-9]{4}) ([0-9]{2}):([0-9]{2}):([0-9]{2}) ([+-])([0-9]{2})([0-9]{2})$`)

// parsed is the definition: it reads a text by its form, and then what it has
// read must be valid and be written so.
func parsed(s string) (date.Date, bool) {
	m := text.FindStringSubmatch(s)
	if m == nil {
		return date.Date{}, false
	}
	n := make([]int, len(m))
	for i := range m {
		fmt.Sscanf(strings.TrimSpace(m[i]), "%d", &n[i])
	}
	d := date.Date{Year: n[3], Month: strings.Index(monthNames, m[2])/3 + 1, Day: n[1], Hour: n[4], Min: n[5], Sec: n[6], Zone: 60*n[8] + n[9]}
	if m[7] == "-" {
		d.Zone = -d.Zone
	}
	valid := d.Year >= 1970 && d.Hour < 24 && d.Min < 60 && d.Sec < 60 && d.Zone >= -maxZone && d.Zone <= maxZone
	return d, valid && timeOf(d).Day() == d.Day && shown(d) == s
}

func TestParseEveryByteInEveryPlace(t *testing.T) {
	for _, s := range []string{someText, "29-Feb-2000 00:00:00 +0000", "31-Dec-9999 23:59:59 -2359", "10-Jun-1970 19:01:10 +0001"} {
		for i := range len(s) {
			for c := range 256 {
				other := s[:i] + string([]byte{byte(c)}) + s[i+1:]
				if want, ok := parsed(other); ok {
					checkParse(t, other, want)
				} else {
					checkParseRefuses(t, other)
				}
			}
		}
	}
}

func TestParseTwoChangedBytes(t *testing.T) {
	r := rand.New(rand.NewSource(11))
	letters := "00112233456789 -+:abFeJanuDcN"
	for range 200000 {
		b := []byte(shown(dateOf(r.Int63n(lastMoment), r.Intn(2*maxZone+1)-maxZone)))
		for range 2 {
			b[r.Intn(len(b))] = letters[r.Intn(len(letters))]
		}
		s := string(b)
		if want, ok := parsed(s); ok {
			checkParse(t, s, want)
		} else {
			checkParseRefuses(t, s)
		}
	}
}

func TestDay(t *testing.T) {
	for s, want := range map[string]int64{
		"1-Jan-1970": 0, "01-Jan-1970": 0, "2-Jan-1970": 1, "02-Jan-1970": 1, "31-Jan-1970": 30, "1-Feb-1970": 31, "31-Dec-1970": 364, "1-Jan-1971": 365,
		"28-Feb-1972": 788, "29-Feb-1972": 789, "1-Mar-1972": 790, "29-Feb-2000": 11016, "01-Mar-2000": 11017, "28-Feb-2100": 47540, "1-Mar-2100": 47541,
		"7-Feb-1994": 8803, "07-Feb-1994": 8803, "17-Jul-1996": 9694, "09-Sep-2001": 11574, "10-Sep-2001": 11575, "31-Dec-9999": lastDay, "1-Jan-9999": lastDay - 364,
		"1-jan-1970": 0, "1-JAN-1970": 0, "1-jAN-1970": 0, "1-JaN-1970": 0, "31-dec-9999": lastDay, "31-DEC-9999": lastDay, "9-sep-2001": 11574, "9-SEP-2001": 11574,
	} {
		checkDay(t, s, want)
	}
}

// cases returns a name in all the cases of its letters.
func cases(name string) []string {
	var all []string
	for mask := range 1 << len(name) {
		b := []byte(strings.ToLower(name))
		for i := range b {
			if mask>>i&1 == 1 {
				b[i] -= 'a' - 'A'
			}
		}
		all = append(all, string(b))
	}
	return all
}

func TestDayTakesTheMonthInAnyCase(t *testing.T) {
	for month := 1; month <= 12; month++ {
		for _, name := range cases(monthNames[3*month-3 : 3*month]) {
			for day := 1; day <= 28; day++ {
				want := time.Date(2001, time.Month(month), day, 0, 0, 0, 0, time.UTC).Unix() / daySeconds
				checkDay(t, fmt.Sprintf("%d-%s-2001", day, name), want)
				checkDay(t, fmt.Sprintf("%02d-%s-2001", day, name), want)
			}
		}
	}
}

func TestDayRefusesWhatHasNoForm(t *testing.T) {
	for _, s := range []string{
		"", " ", "-", "--", "1", "1-Jan", "1-Jan-", "-Jan-1970", "1--1970", "Jan-1970", "1970", "1-Jan-197", "1-Jan-70", "11-Jan-197", "11-Jan-70", "1-Jan1970", "1Jan1970", "1Jan-1970", "1-Jan-1970-", "-1-Jan-1970", "--Jan-1970", // parts
		"0-Jan-1970", "00-Jan-1970", "32-Jan-1970", "99-Jan-1970", "29-Feb-1970", "30-Feb-2000", "29-Feb-2100", "31-Apr-2000", "31-Jun-2000", "31-Sep-2000", "31-Nov-2000", // no such day
		"001-Jan-1970", "0001-Jan-1970", "010-Jan-1970", " 1-Jan-1970", "1 -Jan-1970", "1-Jan-1970 ", " 01-Jan-1970", "+1-Jan-1970", "a-Jan-1970", "1a-Jan-1970", "0x1-Jan-1970", "1.-Jan-1970", "\x001-Jan-1970", "١-Jan-1970", // the day
		"1-Jau-1970", "1-ja-1970", "01-ja-1970", "1-janu-1970", "1-January-1970", "1-1-1970", "01-01-1970", "1-001-1970", "1-anF-1970", "1-nFe-1970", "1-   -1970", "1-Ja -1970", "1-\x00\x00\x00-1970", "1-J\x01n-1970", "1-j\xc1n-1970", "1-\xcaan-1970", "1-\nan-1970", // the month
		"1-ſep-1970", "1-ſe-1970", "01-ſp-1970", "1-ſp-1970", "1-Oct\u0307-1970", "1-Ｊan-1970", // letters beyond ASCII
		"1-Jan-1969", "31-Dec-1969", "1-Jan-0000", "1-Jan-0001", "01-Jan-1969", "1-Jan-10000", "1-Jan-01970", "1-Jan-1970.", "1-Jan-+970", "1-Jan--970", "1-Jan- 970", "1-Jan-197 ", "1-Jan-19a0", "1-Jan-1_70", "1-Jan-٤٤", // the year
		"1 Jan 1970", "1/Jan/1970", "1-Jan 1970", "1 Jan-1970", "01 Jan-1970", "01-Jan 1970", "01_Jan-1970", "01-Jan_1970", "1970-Jan-1", "1970-01-01", "Jan-01-1970", "1-Jan-1970\r\n", "1-Jan-1970\x00", `"1-Jan-1970"`, "1-Jan-1970 00:00:00 +0000", " 1-Jan-1970 00:00:00 +0000", // the rest
		strings.Repeat("-", 10), strings.Repeat("-", 11), strings.Repeat("1", 10), strings.Repeat("1", 11), strings.Repeat("\xff", 10), strings.Repeat("\xff", 11), strings.Repeat("0", 100000) + "1-Jan-1970", "1-Jan-" + strings.Repeat("0", 100000) + "1970",
	} {
		checkDayRefuses(t, s)
	}
}

var day = regexp.MustCompile(`^([0-9]{1,2})-([A-Za-z]{3})-([0-9]{4})$`)

// numbered is the definition of the number of a day.
func numbered(s string) (int64, bool) {
	m := day.FindStringSubmatch(s)
	if m == nil {
		return 0, false
	}
	var d date.Date
	fmt.Sscanf(m[1], "%d", &d.Day)
	fmt.Sscanf(m[3], "%d", &d.Year)
	for month := 1; month <= 12; month++ {
		if strings.ToLower(m[2]) == strings.ToLower(monthNames[3*month-3:3*month]) {
			d.Month = month
		}
	}
	if d.Year < 1970 || d.Month == 0 || timeOf(d).Day() != d.Day {
		return 0, false
	}
	return timeOf(d).Unix() / daySeconds, true
}

func checkNumbered(t *testing.T, s string) {
	t.Helper()
	if want, ok := numbered(s); ok {
		checkDay(t, s, want)
	} else {
		checkDayRefuses(t, s)
	}
}

func TestDayEveryByteInEveryPlace(t *testing.T) {
	for _, s := range []string{"1-Jan-1970", "01-Jan-1970", "9-sep-2001", "29-FEB-2000", "31-Dec-9999", "3-Mar-1975"} {
		for i := range len(s) {
			for c := range 256 {
				b := string([]byte{byte(c)})
				checkNumbered(t, s[:i]+b+s[i+1:])
				checkNumbered(t, s[:i]+b+s[i:])
			}
			checkNumbered(t, s[:i])
			checkNumbered(t, s[i:])
			checkNumbered(t, s[:i]+s[i+1:])
		}
	}
}

func TestDayChangedBytes(t *testing.T) {
	r := rand.New(rand.NewSource(12))
	for range 200000 {
		d := dateOf(r.Int63n(lastMoment), 0)
		b := []byte(fmt.Sprintf("%0*d-%s-%d", 1+r.Intn(2), d.Day, monthNames[3*d.Month-3:3*d.Month], d.Year))
		for range r.Intn(4) {
			b[r.Intn(len(b))] = dayLetters[r.Intn(len(dayLetters))]
		}
		checkNumbered(t, string(b))
	}
}

func TestDayIsTheDayOfUnix(t *testing.T) {
	for n := int64(0); n <= lastDay; n += 31 {
		d, _ := date.Of(n*daySeconds+daySeconds-1, 0)
		checkDay(t, strings.TrimSpace(date.Show(d)[:11]), n)
	}
}
