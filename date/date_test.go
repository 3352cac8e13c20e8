package date

import (
	"math"
	"math/rand"
	"regexp"
	"slices"
	"strconv"
	"strings"
	"testing"
	"time"

	"posthorn/api"
	"posthorn/when"
)

const (
	last = 253402300799
	far  = 86340
	// layout is a written date, for the library.
	layout = "Mon, 02 Jan 2006 15:04:05 -0700"
)

// prints asks how a date is written, and that it is read as it was.
func prints(t testing.TB, n, shift int64, want string) {
	t.Helper()
	if got, e := Print(n, shift); got != want || e != api.OK {
		t.Errorf("Print(%d, %d): %q %v, not %q", n, shift, got, e, want)
	}
	reads(t, want, n, shift)
}

// noPrint asks that there is no such date.
func noPrint(t testing.TB, n, shift int64) {
	t.Helper()
	if got, e := Print(n, shift); got != "" || e != api.ErrWhen {
		t.Errorf("Print(%d, %d): %q %v", n, shift, got, e)
	}
}

// reads asks which date a text says.
func reads(t testing.TB, s string, n, shift int64) {
	t.Helper()
	if got, z, e := Parse(s); got != n || z != shift || e != api.OK {
		t.Errorf("Parse(%q): %d %d %v, not %d %d", s, got, z, e, n, shift)
	}
}

// noRead asks that a text says no date.
func noRead(t testing.TB, s string) {
	t.Helper()
	if got, z, e := Parse(s); got != 0 || z != 0 || e != api.ErrWhen {
		t.Errorf("Parse(%.200q): %d %d %v", s, got, z, e)
	}
}

func TestExamples(t *testing.T) { // P20.1, P20.3
	prints(t, 0, 3600, "Thu, 01 Jan 1970 01:00:00 +0100")
	if s, e := ID(33, 1, "x"); s != "<11.1@x>" || e != api.OK {
		t.Errorf("ID: %q %v", s, e)
	}
}

func TestEveryWeekday(t *testing.T) { // P20.1
	for days := range int64(2932897) {
		want := (int(time.Unix(days*86400, 0).UTC().Weekday()) + 6) % 7
		if got, e := Weekday(days); got != want || e != api.OK {
			t.Fatalf("Weekday(%d): %d %v, not %d", days, got, e, want)
		}
	}
	for _, days := range []int64{-1, -7, 2932897, 2932904, math.MinInt64, math.MaxInt64, 1 << 32, -1 << 32, last} {
		if got, e := Weekday(days); got != 0 || e != api.ErrWhen {
			t.Errorf("Weekday(%d): %d %v", days, got, e)
		}
	}
}

func TestPrint(t *testing.T) { // P20.1
	prints(t, 0, 0, "Thu, 01 Jan 1970 00:00:00 +0000")
	prints(t, last, 0, "Fri, 31 Dec 9999 23:59:59 +0000")
	prints(t, 60, -60, "Thu, 01 Jan 1970 00:00:00 -0001")
	prints(t, 3600, -3600, "Thu, 01 Jan 1970 00:00:00 -0100")
	prints(t, far, -far, "Thu, 01 Jan 1970 00:00:00 -2359")
	prints(t, 0, far, "Thu, 01 Jan 1970 23:59:00 +2359")
	prints(t, last-far, far, "Fri, 31 Dec 9999 23:59:59 +2359")
	prints(t, last, -far, "Fri, 31 Dec 9999 00:00:59 -2359")
	prints(t, 1709164800, 0, "Thu, 29 Feb 2024 00:00:00 +0000")
	prints(t, 1709164800, -60, "Wed, 28 Feb 2024 23:59:00 -0001")
	prints(t, 1709251199, 19800, "Fri, 01 Mar 2024 05:29:59 +0530")
	prints(t, 1000000000, -12600, "Sat, 08 Sep 2001 22:16:40 -0330")
	for _, c := range [][2]int64{
		{-1, 0}, {-1, 60}, {last + 1, 0}, {last + 1, -60}, {0, -60}, {59, -60}, {last, 60}, {last - 59, 60}, {far - 1, -far}, {last - far + 1, far},
		{1000000, 1}, {1000000, -1}, {1000000, 59}, {1000000, 61}, {1000000, -3599}, {1000000, far + 1}, {1000000, far + 60}, {1000000, -far - 60}, {1000000, 86400}, {1000000, -86400},
		{math.MinInt64, 0}, {math.MaxInt64, 0}, {math.MaxInt64, 60}, {math.MinInt64, -60}, {0, math.MinInt64}, {0, math.MaxInt64}, {math.MaxInt64, math.MaxInt64}, {math.MinInt64, math.MinInt64}, {math.MaxInt64, math.MinInt64}, {0, 1 << 62}, {last, -1 << 62}, {1000000, 60 << 32},
	} {
		noPrint(t, c[0], c[1])
	}
}

// someDate is a time and a shift, which may be none together.
func someDate(r *rand.Rand) (int64, int64) {
	n := r.Int63n(last + 1)
	switch r.Intn(6) {
	case 0:
		n = r.Int63n(2 * 86400)
	case 1:
		n = last - r.Int63n(2*86400)
	}
	return n, int64(r.Intn(2*1439+1)-1439) * 60
}

func TestThereAndBack(t *testing.T) { // P20.1, P20.4, P20.5
	r := rand.New(rand.NewSource(1))
	for range 100000 {
		n, shift := someDate(r)
		if n+shift < 0 || n+shift > last {
			noPrint(t, n, shift)
			continue
		}
		prints(t, n, shift, time.Unix(n, 0).In(time.FixedZone("", int(shift))).Format(layout))
	}
}

func TestOneTimeWithAnyShift(t *testing.T) { // P20.5
	for _, n := range []int64{far, 1709164800, 4102444799, last - far} {
		for shift := int64(-far); shift <= far; shift += 60 {
			prints(t, n, shift, time.Unix(n, 0).In(time.FixedZone("", int(shift))).Format(layout))
		}
	}
}

func TestWordsOfADate(t *testing.T) { // P20.2
	// Blanks, tabs, and texts between ( and ).
	for _, s := range []string{
		"Fri, 02 Jan 1970 00:00:00 +0000", " Fri, 02 Jan 1970 00:00:00 +0000", "Fri, 02 Jan 1970 00:00:00 +0000 ", "\t \tFri, 02 Jan 1970 00:00:00 +0000\t \t",
		"Fri,\t02  Jan\t \t1970     00:00:00\t+0000", "(a)Fri,(b)02(c)Jan(d)1970(e)00:00:00(f)+0000(g)", "Fri,()02()Jan 1970 00:00 ()", "(x) ( y z ) 2 Jan 1970 00:00", "2 (Jan) Jan (1970) 1970 00:00 (+0100)", "2 Jan 1970 00:00 (a(b)", "2(()Jan((((()1970 00:00", "2 Jan 1970 00:00 (\r\n\xff\x00)", "2 Jan(é)1970 00:00", "2 Jan 1970 00:00(,)",
		// A day's name, and its comma.
		"fri, 2 Jan 1970 00:00", "FRI, 2 Jan 1970 00:00", "fRi, 2 Jan 1970 00:00", "Fri ,2 Jan 1970 00:00", "Fri , 2 Jan 1970 00:00", "Fri\t,\t2 Jan 1970 00:00", "Fri(x),2 Jan 1970 00:00", "Fri(x),(y)2 Jan 1970 00:00", "Fri ,(y)2 Jan 1970 00:00 Z", "Fri , 2 Jan 1970 00:00 Z",
		// A day, a month, a year, a clock.
		"2 Jan 1970 00:00", "02 Jan 1970 00:00", "2 jan 70 00:00", "2 JAN 70 00:00:00", "02 jAN 1970 00:00:00",
		// A zone.
		"2 Jan 1970 00:00 UT", "2 Jan 1970 00:00 ut", "2 Jan 1970 00:00 GMT", "2 Jan 1970 00:00 gMt", "2 Jan 1970 00:00 Z", "2 Jan 1970 00:00 z", "2 Jan 1970 00:00 -0000", "2 Jan 1970 00:00:00 +0000",
	} {
		reads(t, s, 86400, 0)
	}
	for _, s := range []string{
		"", " ", "\t", "()", "(", ")", ",", "Fri", "Fri,", "Fri, 2", "Fri, 2 Jan", "Fri, 2 Jan 1970", "2 Jan 1970", "2 Jan", "2", "2 Jan 1970 Z", "00:00",
		"2Jan 1970 00:00", "2 Jan1970 00:00", "2 Jan 197000:00", "2 Jan 1970 00:00+0000", "2-Jan-1970 00:00", "2 Jan 1970 00:00 +0000 x", "2 Jan 1970 00:00 +0000 +0000", "2 Jan 1970 00:00 Z Z", "x 2 Jan 1970 00:00", "2 Jan 1970 00:00 GMT +0000",
		"2 Jan 1970 00:00 (", "2 Jan 1970 00:00 (x", "2 Jan 1970 00:00 )", "2 Jan 1970 00:00 x)", "( 2 Jan 1970 00:00", "2 Jan 1970 00:00 (a(b)c)", "2 Jan 1970 00:00 ((a))", "(a) (b 2 Jan 1970 00:00", "2 Jan 1970 00:00(", "2 Jan 1970 00:00)", ")2 Jan 1970 00:00", "2 Ja(x)n 1970 00:00", "2 Jan 1970 00:(x)00", "2 Jan 1970 00(x):00",
		"2 Jan 1970\r\n 00:00", "2 Jan 1970 00:00\r\n", "\n2 Jan 1970 00:00", "2\vJan 1970 00:00", "2\u00a0Jan 1970 00:00", "2 Jan 1970 00:00\x00",
		// A day's name without a comma, and commas without it.
		"Fri 2 Jan 1970 00:00", ", 2 Jan 1970 00:00", ",2 Jan 1970 00:00", "Fri,, 2 Jan 1970 00:00", "Fri, ,2 Jan 1970 00:00", "Fri, , 2 Jan 1970 00:00", "Fri ,,2 Jan 1970 00:00", "Fri ,, 2 Jan 1970 00:00", "Fri , ,2 Jan 1970 00:00", "Fri , , 2 Jan 1970 00:00", "Fri , ,", "Fri,2 Jan 1970 00:00", "Fri, 2, Jan 1970 00:00", "Fri 2, Jan 1970 00:00", "2, Jan 1970 00:00", "2 Fri, Jan 1970 00:00", "Fri, Fri, 2 Jan 1970 00:00", "2 Jan 1970 00:00 Fri,", "Fri. 2 Jan 1970 00:00", "Fri; 2 Jan 1970 00:00", "2 Jan, 1970 00:00",
		// A day's name that is not the day's, or none.
		"Thu, 2 Jan 1970 00:00", "Sat, 2 Jan 1970 00:00", "Mon, 2 Jan 1970 00:00", "Friday, 2 Jan 1970 00:00", "Fr, 2 Jan 1970 00:00", "F, 2 Jan 1970 00:00", "Thu , 2 Jan 1970 00:00", "Thu ,2 Jan 1970 00:00", "Frz, 2 Jan 1970 00:00", "Thu, 2 Jan 1970 00:00 +0000",
		// Days, months, years.
		"0 Jan 1970 00:00", "00 Jan 1970 00:00", "002 Jan 1970 00:00", "32 Jan 1970 00:00", "31 Apr 1970 00:00", "29 Feb 1970 00:00", "29 Feb 2100 00:00", "30 Feb 2000 00:00", "99 Jan 1970 00:00", "+2 Jan 1970 00:00", "-2 Jan 1970 00:00", "2. Jan 1970 00:00", "two Jan 1970 00:00", "² Jan 1970 00:00", "٢ Jan 1970 00:00",
		"2 1 1970 00:00", "2 01 1970 00:00", "2 January 1970 00:00", "2 Ja 1970 00:00", "2 Jam 1970 00:00", "2 Sept 2000 00:00", "2 \u017fep 2000 00:00", "Jan 2 1970 00:00", "2 Jan. 1970 00:00", "2 J\x00n 1970 00:00", "2 *!. 1970 00:00",
		"2 Jan 0 00:00", "2 Jan 7 00:00", "2 Jan 970 00:00", "2 Jan 100 00:00", "2 Jan 01970 00:00", "2 Jan 10000 00:00", "2 Jan 1969 00:00", "2 Jan 69 00:00", "2 Jan 50 00:00", "2 Jan 0000 00:00", "2 Jan +970 00:00", "2 Jan -970 00:00", "2 Jan '70 00:00", "2 Jan 1e3 00:00", "2 Jan 0x7 00:00", "2 Jan +7 00:00",
		// Clocks.
		"2 Jan 1970 24:00", "2 Jan 1970 24:00:00", "2 Jan 1970 00:60", "2 Jan 1970 00:60:00", "2 Jan 1970 00:00:61", "2 Jan 1970 00:00:99", "2 Jan 1970 99:00", "2 Jan 1970 0:00", "2 Jan 1970 00:0", "2 Jan 1970 000:00", "2 Jan 1970 00:00:0", "2 Jan 1970 00:00:000", "2 Jan 1970 00:00:", "2 Jan 1970 :00:00", "2 Jan 1970 00", "2 Jan 1970 0000", "2 Jan 1970 000000", "2 Jan 1970 00.00", "2 Jan 1970 00:00.00", "2 Jan 1970 00-00-00", "2 Jan 1970 00:00:00.5", "2 Jan 1970 00:00:00:00", "2 Jan 1970 00:000:0", "2 Jan 1970 -1:00", "2 Jan 1970 +1:00", "2 Jan 1970 00:+1", "2 Jan 1970 a0:00", "2 Jan 1970 0a:00", "2 Jan 1970 00:a0", "2 Jan 1970 00:00:0a", "2 Jan 1970 00 00", "2 Jan 1970 00: 00", "2 Jan 1970 00::00", "2 Jan 1970 00:00am", "2 Jan 1970 ::::::::",
		// Zones.
		"2 Jan 1970 00:00 +", "2 Jan 1970 00:00 -", "2 Jan 1970 00:00 +1", "2 Jan 1970 00:00 +00", "2 Jan 1970 00:00 +000", "2 Jan 1970 00:00 +00000", "2 Jan 1970 00:00 0000", "2 Jan 1970 00:00 00000", "2 Jan 1970 00:00 +00:00", "2 Jan 1970 00:00 +2400", "2 Jan 1970 00:00 -2400", "2 Jan 1970 00:00 -0060", "2 Jan 1970 00:00 +0060", "2 Jan 1970 00:00 -9900", "2 Jan 1970 00:00 ++000", "2 Jan 1970 00:00 +-100", "2 Jan 1970 00:00 + 0000", "2 Jan 1970 00:00 +0a00", "2 Jan 1970 00:00 -000a", "2 Jan 1970 00:00 ~0000", "2 Jan 1970 00:00 ,0000",
		"2 Jan 1970 00:00 UTC", "2 Jan 1970 00:00 U", "2 Jan 1970 00:00 A", "2 Jan 1970 00:00 y", "2 Jan 1970 00:00 ZZ", "2 Jan 1970 00:00 GM", "2 Jan 1970 00:00 CET", "2 Jan 1970 00:00 BST", "2 Jan 1970 00:00 GMT+1", "2 Jan 1970 00:00 GMT+0000", "2 Jan 1970 00:00 \"GMT\"", "2 Jan 1970 00:00 E\u017fT", "2 Jan 1970 00:00 ES", "2 Jan 1970 00:00 ESTT",
	} {
		noRead(t, s)
	}
}

func TestNames(t *testing.T) { // P20.2
	for m := time.January; m <= time.December; m++ {
		name := m.String()[:3]
		want := time.Date(2024, m, 15, 12, 30, 0, 0, time.UTC)
		for _, n := range []string{name, strings.ToLower(name), strings.ToUpper(name), strings.ToLower(name[:1]) + strings.ToUpper(name[1:])} {
			reads(t, "15 "+n+" 2024 12:30", want.Unix(), 0)
			for d := range 7 {
				day := time.Weekday(d).String()[:3]
				for _, w := range []string{day, strings.ToLower(day), strings.ToUpper(day)} {
					s := w + ", 15 " + n + " 24 12:30:00 gmt"
					if want.Weekday() == time.Weekday(d) {
						reads(t, s, want.Unix(), 0)
					} else {
						noRead(t, s)
					}
				}
			}
		}
	}
	for zone, hours := range map[string]int64{"UT": 0, "GMT": 0, "Z": 0, "EST": -5, "CST": -6, "MST": -7, "PST": -8, "EDT": -4, "CDT": -5, "MDT": -6, "PDT": -7} {
		for _, z := range []string{zone, strings.ToLower(zone), zone[:1] + strings.ToLower(zone[1:]), strings.ToLower(zone[:1]) + zone[1:]} {
			reads(t, "Tue, 1 Jul 2003 10:52:37 "+z, 1057056757-hours*3600, hours*3600)
		}
	}
}

func TestYearsOfTwoDigits(t *testing.T) { // P20.2
	for y := range 100 {
		s := "1 Mar " + strconv.Itoa(y/10) + strconv.Itoa(y%10) + " 01:02:03 +0000"
		switch {
		case y < 50:
			reads(t, s, time.Date(2000+y, 3, 1, 1, 2, 3, 0, time.UTC).Unix(), 0)
		case y < 70:
			noRead(t, s)
		default:
			reads(t, s, time.Date(1900+y, 3, 1, 1, 2, 3, 0, time.UTC).Unix(), 0)
		}
	}
}

func TestClocksAndShifts(t *testing.T) { // P20.2
	two := func(n int) string { return strconv.Itoa(n/10) + strconv.Itoa(n%10) }
	for h := range 100 {
		for m := range 100 {
			clock := "3 Jan 1970 " + two(h) + ":" + two(m)
			zone := "3 Jan 1970 00:00 +" + two(h) + two(m)
			back := strings.Replace(zone, "+", "-", 1)
			if h >= 24 || m >= 60 {
				noRead(t, clock)
				noRead(t, clock+":00")
				noRead(t, zone)
				noRead(t, back)
				continue
			}
			n := int64(h*3600 + m*60)
			reads(t, clock, 172800+n, 0)
			reads(t, zone, 172800-n, n)
			reads(t, back, 172800+n, -n)
		}
	}
	for s := range 100 {
		clock := "3 Jan 1970 23:59:" + two(s) + " Z"
		if s > 60 {
			noRead(t, clock)
			continue
		}
		reads(t, clock, 172800+86340+int64(min(s, 59)), 0)
	}
	reads(t, "31 Dec 9999 23:59:60", last, 0)
	reads(t, "Sat, 31 Dec 2016 23:59:60 +0000", 1483228799, 0)
	reads(t, "1 Jan 2017 00:10:60", 1483228800+659, 0)
}

func TestEdgesOfTime(t *testing.T) { // P20.2: time and shift together are a time, too
	reads(t, "1 Jan 1970 00:00", 0, 0)
	reads(t, "1 Jan 1970 00:00 -0001", 60, -60)
	reads(t, "1 Jan 1970 00:01 +0001", 0, 60)
	reads(t, "1 Jan 1970 00:00 PST", 28800, -28800)
	reads(t, "31 Dec 9999 23:59:59 +0001", last-60, 60)
	reads(t, "31 Dec 9999 23:58:59 -0001", last, -60)
	for _, s := range []string{"31 Dec 1969 23:59:59 -0001", "31 Dec 1969 23:00 EST", "1 Jan 1970 00:00 +0001", "1 Jan 1970 00:00:59 +0001", "1 Jan 1970 12:00 +1201", "31 Dec 9999 23:59:59 -0001", "31 Dec 9999 23:59 -0001", "31 Dec 9999 23:59 PDT", "1 Jan 10000 00:00 +0100", "01 Jan 00 00:00 +00"} {
		noRead(t, s)
	}
}

// dateForm is a date's words, with one blank between any two.
var dateForm = regexp.MustCompile(`(?i)^(?:(mon|tue|wed|thu|fri|sat|sun)(?:,| , ?) ?)?([0-9]{1,2}) (jan|feb|mar|apr|may|jun|jul|aug|sep|oct|nov|dec) ([0-9]{2}|[0-9]{4}) ([0-9]{2}):([0-9]{2})(?::([0-9]{2}))?(?: (?:([+-])([0-9]{2})([0-9]{2})|(ut|gmt|z|est|cst|mst|pst|edt|cdt|mdt|pdt)))?$`)

// slowParse is Parse by another way: the words by a form, the day by the library.
func slowParse(s string) (int64, int64, api.Errno) {
	s = regexp.MustCompile(`(?s)\(.*?\)`).ReplaceAllString(s, " ")
	s = strings.Trim(regexp.MustCompile(`[ \t]+`).ReplaceAllString(s, " "), " ")
	m := dateForm.FindStringSubmatch(s)
	if m == nil || m[1] != "" && regexp.MustCompile(`^...,[0-9]`).MatchString(s) {
		return 0, 0, api.ErrWhen
	}
	n := func(i int) int { v, _ := strconv.Atoi(m[i]); return v }
	y, mon := n(4), strings.Index("janfebmaraprmayjunjulaugsepoctnovdec", strings.ToLower(m[3]))/3+1
	if len(m[4]) == 2 {
		y += 1900
		if y < 1950 {
			y += 100
		}
	}
	at := time.Date(y, time.Month(mon), n(2), n(5), n(6), min(n(7), 59), 0, time.UTC)
	shift := int64(n(9)*3600 + n(10)*60)
	if m[8] == "-" {
		shift = -shift
	}
	if m[11] != "" {
		shift = 3600 * []int64{0, 0, 0, -5, -6, -7, -8, -4, -5, -6, -7}[slices.Index([]string{"ut", "gmt", "z", "est", "cst", "mst", "pst", "edt", "cdt", "mdt", "pdt"}, strings.ToLower(m[11]))]
	}
	local := at.Unix()
	switch {
	case at.Day() != n(2) || int(at.Month()) != mon || n(5) > 23 || n(6) > 59 || n(7) > 60 || n(9) > 23 || n(10) > 59,
		m[1] != "" && !strings.EqualFold(m[1], at.Weekday().String()[:3]),
		local < 0 || local > last || local-shift < 0 || local-shift > last:
		return 0, 0, api.ErrWhen
	}
	return local - shift, shift, api.OK
}

func TestParseAsSlowly(t *testing.T) { // P20.2
	r := rand.New(rand.NewSource(2))
	pick := func(l ...string) string { return l[r.Intn(len(l))] }
	gap := func() string {
		return pick(" ", " ", " ", " ", " ", "  ", "\t", " \t ", "(x)", " (a b) ", "()(y)", "(", ")", "", ",", " ,")
	}
	good := 0
	for range 400000 {
		s := ""
		n, shift := someDate(r)
		n = n % 5000000000
		if r.Intn(2) == 0 {
			// A date as it is written, of which one sign may be another one.
			l := []byte(time.Unix(n, 0).In(time.FixedZone("", int(shift))).Format(pick(layout, "Mon , 2 Jan 2006 15:04 MST", "2 Jan 06 15:04:05 -0700", "Mon ,2 Jan 06 15:04", "mon,2 jan 2006 15:04")))
			if r.Intn(2) == 0 {
				l[r.Intn(len(l))] = " \t(),:+-0123456789aJAnZFst"[r.Intn(26)]
			}
			s = pick("", "", " ", "\t", "(x)") + string(l) + pick("", "", " ", " (PST)", "\t")
		} else {
			words := []string{pick("Fri,", "fri,", "Fri ,", "thu,", "SAT,", "Fri", "", "", ""), pick("1", "2", "02", "29", "30", "31", "32", "0", "002"), pick("Jan", "feb", "DEC", "Ja", "Xyz"), pick("70", "1970", "2024", "49", "50", "9999", "1969", "970"), pick("00:00", "23:59:60", "24:00", "12:30:15", "1:00", "00:60", "12:34:61", "00:00:00"), pick("+0000", "-2359", "+2400", "EST", "pdt", "z", "ut", "Gmt", "", "", "x", "+000")}
			for _, w := range words {
				s += w + gap()
			}
		}
		wantT, wantZ, want := slowParse(s)
		if want == api.OK {
			good++
		}
		gotT, gotZ, got := Parse(s)
		if gotT != wantT || gotZ != wantZ || got != want {
			t.Fatalf("Parse(%q): %d %d %v, not %d %d %v", s, gotT, gotZ, got, wantT, wantZ, want)
		}
		if got == api.OK {
			// What is read is written, and read as the same.
			text, e := Print(gotT, gotZ)
			if a, b, f := Parse(text); e != api.OK || f != api.OK || a != gotT || b != gotZ {
				t.Fatalf("Parse(%q): written %q", s, text)
			}
		}
	}
	if good < 20000 {
		t.Errorf("just %d are dates", good)
	}
}

func TestLongTexts(t *testing.T) { // P1
	const many = 1 << 20
	for _, s := range []string{strings.Repeat("(", many), strings.Repeat("( ", many), strings.Repeat("(x", many), strings.Repeat(")", many), strings.Repeat(" ", many), strings.Repeat("x ", many), strings.Repeat("9", many), strings.Repeat(":", many), strings.Repeat("()", many) + "(", strings.Repeat("x(", many) + ")", "2 Jan 1970 00:00 +" + strings.Repeat("0", many)} {
		noRead(t, s)
	}
	reads(t, strings.Repeat("()", many)+"2 Jan 1970 00:00"+strings.Repeat(" (", many)+")", 86400, 0)
	noIDs(t, strings.Repeat("<", many), api.ErrForm)
	noIDs(t, strings.Repeat(">", many), api.ErrForm)
	noIDs(t, "<"+strings.Repeat("a", many)+"@b>", api.ErrForm)
	noIDs(t, "<a@"+strings.Repeat("b", many)+">", api.ErrForm)
	noIDs(t, strings.Repeat("<a@b>", many), api.ErrLong)
	ids(t, strings.Repeat(" ", many))
}

func TestID(t *testing.T) { // P20.3
	for _, c := range []struct {
		t      int64
		count  int
		domain string
		want   string
	}{
		{0, 0, "x", "<0.0@x>"}, {31, 31, "X.Org", "<v.v@X.Org>"}, {32, 10, "a-b.c", "<10.a@a-b.c>"}, {1023, 1024, "x", "<vv.100@x>"}, {1709164800, 9, "x", "<1itvi80.9@x>"},
		{last, math.MaxInt, "x", "<7bvv8gbv.7vvvvvvvvvvvv@x>"}, {1 << 35, 1 << 60, "x", "<10000000.1000000000000@x>"}, {1, 1<<60 - 1, "1.2", "<1.vvvvvvvvvvvv@1.2>"},
	} {
		if got, e := ID(c.t, c.count, c.domain); got != c.want || e != api.OK {
			t.Errorf("ID(%d, %d, %q): %q %v, not %q", c.t, c.count, c.domain, got, e, c.want)
		}
	}
	label := strings.Repeat("a", 63)
	longest := label + "." + label + "." + label + "." + strings.Repeat("b", 61)
	if got, e := ID(1, 1, longest); got != "<1.1@"+longest+">" || e != api.OK {
		t.Errorf("a domain of 253 bytes: %q %v", got, e)
	}
	noID := func(n int64, count int, domain string) {
		t.Helper()
		if got, e := ID(n, count, domain); got != "" || e != api.ErrArg {
			t.Errorf("ID(%d, %d, %.80q): %q %v", n, count, domain, got, e)
		}
	}
	for _, n := range []int64{-1, last + 1, math.MinInt64, math.MaxInt64} {
		noID(n, 0, "x")
	}
	for _, count := range []int{-1, -32, math.MinInt} {
		noID(0, count, "x")
	}
	for _, domain := range []string{"", ".", "x.", ".x", "a..b", "-a", "a-", "a_b", "a b", " a", "a@b", "x>", "é", "[1.2.3.4]", label + "a", longest + "b", "a\r\n", "a\x00", strings.Repeat("a.", 1<<20)} {
		noID(0, 0, domain)
	}
	noID(-1, -1, "")
}

// ids asks which ids a text has.
func ids(t testing.TB, s string, want ...string) {
	t.Helper()
	if got, e := IDs(s); !slices.Equal(got, want) || e != api.OK {
		t.Errorf("IDs(%.200q): %q %v, not %q", s, got, e, want)
	}
}

// noIDs asks why a text's ids can't be read.
func noIDs(t testing.TB, s string, code api.Errno) {
	t.Helper()
	if got, e := IDs(s); len(got) != 0 || e != code {
		t.Errorf("IDs(%.200q): %.200q %v, not %v", s, got, e, code)
	}
}

func TestIDs(t *testing.T) { // P20.3
	ids(t, "")
	ids(t, "<a@b>", "<a@b>")
	ids(t, "<a@b><c@d>", "<a@b>", "<c@d>")
	ids(t, "<a@b> <c@d>\t<a@b> \t <e@f>", "<a@b>", "<c@d>", "<a@b>", "<e@f>")
	ids(t, "<A.b+c!#$%&'*/=?^_{|}`-x@D-1.org>", "<A.b+c!#$%&'*/=?^_{|}`-x@D-1.org>")
	// Blanks and tabs are nothing else, wherever they stand.
	ids(t, " \t")
	ids(t, " <a@b>\t", "<a@b>")
	long := strings.Repeat("a", 64)
	ids(t, "<"+long+"@b>", "<"+long+"@b>")
	for _, s := range []string{"a@b", "<>", "<@>", "<a>", "<a@>", "<@b>", "<a@b", "a@b>", "<<a@b>>", "<a@b>>", "<a@b>,<c@d>", "<a@b>, <c@d>", "<a@b> x", "x <a@b>", "<a@b> <c", "<a@b>\r\n <c@d>", "<a@b>\n", "\n", "< a@b>", "<a@b >", "<a @b>", "<a@b@c>", "<\"a\"@b>", "<a.@b>", "<.a@b>", "<a..b@c>", "<a@b.>", "<a@[1.2]>", "<a@b_c>", "<é@b>", "<a@é>", "<" + long + "a@b>", "<a@-b>", "(x) <a@b>", "<a@b> (x)", "<a@b>\v<c@d>", "<a@b>\x00", "<", ">", "<a@b><", "x"} {
		noIDs(t, s, api.ErrForm)
	}
	// At most 64; what is wrong is told first, however many there are.
	var l []string
	for i := range 64 {
		l = append(l, "<"+strconv.Itoa(i)+"@x>")
	}
	ids(t, strings.Join(l, ""), l...)
	ids(t, strings.Join(l, " "), l...)
	noIDs(t, strings.Join(l, " ")+"<a@b>", api.ErrLong)
	noIDs(t, strings.Join(l, "\t")+strings.Repeat(" <a@b>", 100), api.ErrLong)
	noIDs(t, strings.Join(l, " ")+"<a@b> x", api.ErrForm)
	noIDs(t, strings.Join(l, " ")+strings.Repeat("<a@b>", 100)+"<", api.ErrForm)
}

func TestIDsAreUnlike(t *testing.T) { // P20.6
	r := rand.New(rand.NewSource(3))
	seen := map[string][2]int64{}
	for range 100000 {
		n, count := r.Int63n(last+1)>>r.Intn(38), r.Int63()>>r.Intn(63)
		s, e := ID(n, int(count), "a.example")
		if was, twice := seen[s]; e != api.OK || twice && was != [2]int64{n, count} {
			t.Fatalf("ID(%d, %d): %q %v, as of %d", n, count, s, e, was)
		}
		seen[s] = [2]int64{n, count}
		ids(t, s, s)
		left, right, _ := strings.Cut(strings.TrimSuffix(strings.TrimPrefix(s, "<"), "@a.example>"), ".")
		a, wrongA := strconv.ParseInt(left, 32, 64)
		b, wrongB := strconv.ParseInt(right, 32, 64)
		if wrongA != nil || wrongB != nil || a != n || b != count {
			t.Fatalf("ID(%d, %d): %q", n, count, s)
		}
	}
}

func TestNeverPanics(t *testing.T) { // P1
	r := rand.New(rand.NewSource(4))
	from := []string{"", " ", "\t", "(", ")", ",", ":", "+", "-", "0", "12", "Fri", "Fri,", "Jan", "1970", "00:00", "Z", "<", ">", "@", "<a@b>", "\xff", "é", "\x00"}
	for range 300000 {
		s := ""
		for range r.Intn(12) {
			s += from[r.Intn(len(from))]
			if r.Intn(2) == 0 {
				s += " "
			}
		}
		n, z, e := Parse(s)
		if e == api.OK && (!when.Right(n) || !when.Right(n+z)) || e != api.OK && (e != api.ErrWhen || n != 0 || z != 0) {
			t.Fatalf("Parse(%q): %d %d %v", s, n, z, e)
		}
		l, e := IDs(s)
		if e == api.OK && strings.Join(l, "") != strings.NewReplacer(" ", "", "\t", "").Replace(s) || e != api.OK && (e != api.ErrForm || len(l) != 0) {
			t.Fatalf("IDs(%q): %q %v", s, l, e)
		}
	}
}
