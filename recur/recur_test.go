package recur

import (
	"math"
	"math/rand"
	"reflect"
	"regexp"
	"slices"
	"strconv"
	"strings"
	"testing"
	"time"

	"posthorn/api"
)

const (
	last    = 253402300799
	lastDay = 2932896
	layout  = "20060102T150405Z"
	// reach is how far behind the first time a window ends at most.
	reach = 7305 * 86400
)

// rule reads a rule that can be read.
func rule(t testing.TB, s string) Rule {
	t.Helper()
	r, e := Read(s)
	if e != api.OK {
		t.Fatalf("Read(%q): %v", s, e)
	}
	return r
}

// same tells whether rules are alike, with lists that are nil or empty, too.
func same(a, b Rule) bool {
	return a.Freq == b.Freq && a.Interval == b.Interval && a.Count == b.Count && a.Until == b.Until &&
		slices.Equal(a.Months, b.Months) && slices.Equal(a.Days, b.Days) && slices.Equal(a.Week, b.Week)
}

// noRule asks that a rule may not be, and what each call says of it.
func noRule(t testing.TB, r Rule) {
	t.Helper()
	if Right(r) {
		t.Errorf("Right(%v)", r)
	}
	if s, e := Write(r); s != "" || e != api.ErrForm {
		t.Errorf("Write(%v): %q %v", r, s, e)
	}
	// What is wrong with the rule is told first.
	if m, e := Match(r, -1, -1); m || e != api.ErrForm {
		t.Errorf("Match(%v): %v %v", r, m, e)
	}
	if l, e := Expand(r, -1, -1, -1, -1); len(l) != 0 || e != api.ErrForm {
		t.Errorf("Expand(%v): %v %v", r, l, e)
	}
}

// is asks that a rule may be, how it is written, and that it is read as it was.
func is(t testing.TB, r Rule, want string) {
	t.Helper()
	if !Right(r) {
		t.Errorf("Right(%v): false", r)
	}
	if s, e := Write(r); s != want || e != api.OK {
		t.Errorf("Write(%v): %q %v, not %q", r, s, e, want)
	}
	if got, e := Read(want); !same(got, r) || e != api.OK {
		t.Errorf("Read(%q): %v %v", want, got, e)
	}
}

// noRead asks that a text says no rule.
func noRead(t testing.TB, s string) {
	t.Helper()
	if r, e := Read(s); !reflect.DeepEqual(r, Rule{}) || e != api.ErrForm {
		t.Errorf("Read(%.200q): %v %v", s, r, e)
	}
}

func TestExample(t *testing.T) { // P21.3
	l, e := Expand(rule(t, "FREQ=MONTHLY;BYDAY=-1SU"), 0, 0, 100*86400, 4)
	if want := []int64{0, 24 * 86400, 52 * 86400, 87 * 86400}; !slices.Equal(l, want) || e != api.OK {
		t.Errorf("Expand: %v %v, not %v", l, e, want)
	}
}

func TestWrite(t *testing.T) { // P21.1, P21.4
	is(t, Rule{Freq: Daily, Interval: 1, Until: -1}, "FREQ=DAILY")
	is(t, Rule{Freq: Weekly, Interval: 2, Count: 1, Until: -1}, "FREQ=WEEKLY;INTERVAL=2;COUNT=1")
	is(t, Rule{Freq: Monthly, Interval: 1000, Count: 10000, Until: -1, Months: []int{}, Days: []int{}, Week: []Weekday{}}, "FREQ=MONTHLY;INTERVAL=1000;COUNT=10000")
	is(t, Rule{Freq: Yearly, Interval: 1, Until: 0}, "FREQ=YEARLY;UNTIL=19700101T000000Z")
	is(t, Rule{Freq: Daily, Interval: 1, Until: last, Months: []int{1, 12}, Week: []Weekday{{0, 0}, {6, 0}}}, "FREQ=DAILY;UNTIL=99991231T235959Z;BYMONTH=1,12;BYDAY=MO,SU")
	is(t, Rule{Freq: Weekly, Interval: 1, Until: -1, Week: []Weekday{{0, 0}, {1, 0}, {2, 0}, {3, 0}, {4, 0}, {5, 0}, {6, 0}}}, "FREQ=WEEKLY;BYDAY=MO,TU,WE,TH,FR,SA,SU")
	is(t, Rule{Freq: Monthly, Interval: 1, Until: -1, Days: []int{-31, -1, 1, 31}, Week: []Weekday{{0, -5}, {0, -1}, {0, 0}, {0, 1}, {0, 5}, {6, -5}, {6, 5}}}, "FREQ=MONTHLY;BYMONTHDAY=-31,-1,1,31;BYDAY=-5MO,-1MO,MO,1MO,5MO,-5SU,5SU")
	is(t, Rule{Freq: Yearly, Interval: 3, Count: 7, Until: -1, Months: []int{2, 4}, Days: []int{29}, Week: []Weekday{{3, 2}}}, "FREQ=YEARLY;INTERVAL=3;COUNT=7;BYMONTH=2,4;BYMONTHDAY=29;BYDAY=2TH")
}

// fullest is a rule with lists as long as they may be.
func fullest() Rule {
	r := Rule{Freq: Yearly, Interval: 1, Until: -1}
	for m := 1; m <= 12; m++ {
		r.Months = append(r.Months, m)
	}
	for d := -31; d <= 31; d++ {
		if d != 0 {
			r.Days = append(r.Days, d)
		}
	}
	for d := range 7 {
		for o := -5; o <= 5; o++ {
			r.Week = append(r.Week, Weekday{d, o})
		}
	}
	return r
}

func TestFullestRule(t *testing.T) { // P21.1
	r := fullest()
	s, e := Write(r)
	if e != api.OK {
		t.Fatalf("Write: %v", e)
	}
	is(t, r, s)
	r.Freq = Monthly
	is(t, r, strings.Replace(s, "YEARLY", "MONTHLY", 1))
	// One item more stands there twice.
	noRead(t, s+",5SU")
	noRead(t, s+",MO")
	noRead(t, s+strings.Repeat(",MO", 1<<20))
	noRead(t, "FREQ=YEARLY;BYMONTH=1"+strings.Repeat(",1", 1<<20))
}

func TestWrongRules(t *testing.T) { // P21.1
	noRule(t, Rule{})
	with := func(change func(r *Rule)) {
		t.Helper()
		for _, freq := range []int{Daily, Weekly, Monthly, Yearly} {
			r := Rule{Freq: freq, Interval: 1, Until: -1}
			change(&r)
			noRule(t, r)
		}
	}
	for _, n := range []int{-1, 0, 5, math.MinInt, math.MaxInt} {
		with(func(r *Rule) { r.Freq = n })
	}
	for _, n := range []int{-1, 0, 1001, math.MinInt, math.MaxInt} {
		with(func(r *Rule) { r.Interval = n })
	}
	for _, n := range []int{-1, 10001, math.MinInt, math.MaxInt} {
		with(func(r *Rule) { r.Count = n })
	}
	for _, n := range []int64{-2, last + 1, math.MinInt64, math.MaxInt64} {
		with(func(r *Rule) { r.Until = n })
	}
	for _, n := range []int64{0, 1, last} {
		with(func(r *Rule) { r.Count, r.Until = 1, n })
	}
	for _, l := range [][]int{{0}, {13}, {-1}, {1, 1}, {2, 1}, {1, 3, 2}, {12, 13}, {0, 1}, {math.MinInt}, {math.MaxInt}, {1, 2, 3, 4, 5, 6, 7, 8, 9, 10, 11, 12, 12}} {
		with(func(r *Rule) { r.Months = l })
	}
	for _, l := range [][]int{{0}, {-1, 0, 1}, {32}, {-32}, {1, 1}, {2, 1}, {1, -1}, {-1, -1}, {-1, -2}, {31, 32}, {math.MinInt}, {math.MaxInt}} {
		with(func(r *Rule) { r.Days = l })
	}
	for _, l := range [][]Weekday{{{-1, 0}}, {{7, 0}}, {{0, 6}}, {{0, -6}}, {{0, 0}, {0, 0}}, {{1, 0}, {0, 0}}, {{0, 1}, {0, -1}}, {{0, 2}, {0, 2}}, {{1, -5}, {0, 5}}, {{math.MinInt, 0}}, {{math.MaxInt, 0}}, {{0, math.MinInt}}, {{0, math.MaxInt}}} {
		with(func(r *Rule) { r.Week = l })
	}
	// Days and Orders are of Monthly and Yearly alone.
	for _, freq := range []int{Daily, Weekly} {
		noRule(t, Rule{Freq: freq, Interval: 1, Until: -1, Days: []int{1}})
		noRule(t, Rule{Freq: freq, Interval: 1, Until: -1, Week: []Weekday{{0, 1}}})
		noRule(t, Rule{Freq: freq, Interval: 1, Until: -1, Week: []Weekday{{0, 0}, {1, -1}}})
	}
}

func TestRead(t *testing.T) { // P21.1
	reads := func(s, want string) {
		t.Helper()
		r, e := Read(s)
		if e != api.OK {
			t.Errorf("Read(%q): %v", s, e)
		}
		is(t, r, want)
	}
	reads("freq=daily", "FREQ=DAILY")
	reads("Freq=wEEKLY;Interval=1", "FREQ=WEEKLY")
	reads("COUNT=3;INTERVAL=20;FREQ=YEARLY", "FREQ=YEARLY;INTERVAL=20;COUNT=3")
	reads("FREQ=DAILY;COUNT=0", "FREQ=DAILY")
	reads("COUNT=0;until=20240229t235959z;FREQ=DAILY", "FREQ=DAILY;UNTIL=20240229T235959Z")
	reads("BYMONTH=12,1,3;FREQ=DAILY", "FREQ=DAILY;BYMONTH=1,3,12")
	reads("BYMONTHDAY=31,-1,1,-31;FREQ=MONTHLY", "FREQ=MONTHLY;BYMONTHDAY=-31,-1,1,31")
	reads("byday=su,mo,+2mo,-1mo,5Tu;freq=monthly", "FREQ=MONTHLY;BYDAY=-1MO,MO,2MO,5TU,SU")
	for _, s := range []string{
		"", ";", "=", "FREQ", "FREQ=", "=DAILY", "DAILY", "COUNT=1", "INTERVAL=1", "BYDAY=MO", "FREQ=HOURLY", "FREQ=SECONDLY", "FREQ=DAIL", "FREQ=DAILYY", "FREQ=DAILY,WEEKLY", "FREQ=1", "FREQ==DAILY", "FREQ=DAILY=", "FREQ:DAILY",
		" FREQ=DAILY", "FREQ=DAILY ", "FREQ =DAILY", "FREQ= DAILY", "FREQ=DAILY\r\n", "RRULE:FREQ=DAILY", ";FREQ=DAILY", "FREQ=DAILY;", "FREQ=DAILY;;COUNT=1", "FREQ=DAILY,COUNT=1", "FREQ=DAILY; COUNT=1",
		"FREQ=DAILY;FREQ=DAILY", "FREQ=DAILY;freq=DAILY", "FREQ=DAILY;COUNT=1;COUNT=1", "FREQ=DAILY;COUNT=0;COUNT=0", "FREQ=DAILY;INTERVAL=1;interval=1", "FREQ=DAILY;BYMONTH=1;BYMONTH=2", "FREQ=DAILY;BYDAY=MO;BYDAY=TU", "FREQ=MONTHLY;BYMONTHDAY=1;BYMONTHDAY=2", "FREQ=DAILY;UNTIL=19700101T000000Z;UNTIL=19700101T000000Z",
		"FREQ=DAILY;WKST=MO", "FREQ=DAILY;BYSETPOS=1", "FREQ=DAILY;BYHOUR=1", "FREQ=DAILY;BYYEARDAY=1", "FREQ=DAILY;X-A=1", "FREQ=DAILY;BYMONTHS=1", "FREQ=DAILY;BYMONT=1", "FREQ=DAILY;\u0131NTERVAL=1", "FREQ=DAILY;INTERVAL\x00=1",
		"FREQ=DAILY;INTERVAL=", "FREQ=DAILY;INTERVAL", "FREQ=DAILY;INTERVAL=0", "FREQ=DAILY;INTERVAL=-1", "FREQ=DAILY;INTERVAL=+1", "FREQ=DAILY;INTERVAL=01", "FREQ=DAILY;INTERVAL=1001", "FREQ=DAILY;INTERVAL=1.0", "FREQ=DAILY;INTERVAL=1e1", "FREQ=DAILY;INTERVAL=0x1", "FREQ=DAILY;INTERVAL=1_0", "FREQ=DAILY;INTERVAL=1,2", "FREQ=DAILY;INTERVAL= 1", "FREQ=DAILY;INTERVAL=A", "FREQ=DAILY;INTERVAL=18446744073709551617", "FREQ=DAILY;INTERVAL=\u0661",
		"FREQ=DAILY;COUNT=", "FREQ=DAILY;COUNT=-1", "FREQ=DAILY;COUNT=-0", "FREQ=DAILY;COUNT=+0", "FREQ=DAILY;COUNT=+1", "FREQ=DAILY;COUNT=00", "FREQ=DAILY;COUNT=01", "FREQ=DAILY;COUNT=10001", "FREQ=DAILY;COUNT=99999999999999999999",
		"FREQ=DAILY;UNTIL=", "FREQ=DAILY;UNTIL=-1", "FREQ=DAILY;UNTIL=0", "FREQ=DAILY;UNTIL=19700101", "FREQ=DAILY;UNTIL=19700101T000000", "FREQ=DAILY;UNTIL=19691231T235959Z", "FREQ=DAILY;UNTIL=19700230T000000Z", "FREQ=DAILY;UNTIL=19700101T240000Z", "FREQ=DAILY;UNTIL=19700101T000000ZZ",
		"FREQ=DAILY;COUNT=1;UNTIL=19700101T000000Z", "UNTIL=99991231T235959Z;COUNT=10000;FREQ=DAILY",
		"FREQ=DAILY;BYMONTH=", "FREQ=DAILY;BYMONTH=0", "FREQ=DAILY;BYMONTH=13", "FREQ=DAILY;BYMONTH=-1", "FREQ=DAILY;BYMONTH=+1", "FREQ=DAILY;BYMONTH=01", "FREQ=DAILY;BYMONTH=1,", "FREQ=DAILY;BYMONTH=,1", "FREQ=DAILY;BYMONTH=1,,2", "FREQ=DAILY;BYMONTH=,", "FREQ=DAILY;BYMONTH=1,1", "FREQ=DAILY;BYMONTH=1,2,1", "FREQ=DAILY;BYMONTH=1, 2", "FREQ=DAILY;BYMONTH=JAN",
		"FREQ=MONTHLY;BYMONTHDAY=", "FREQ=MONTHLY;BYMONTHDAY=0", "FREQ=MONTHLY;BYMONTHDAY=-0", "FREQ=MONTHLY;BYMONTHDAY=32", "FREQ=MONTHLY;BYMONTHDAY=-32", "FREQ=MONTHLY;BYMONTHDAY=+1", "FREQ=MONTHLY;BYMONTHDAY=01", "FREQ=MONTHLY;BYMONTHDAY=-01", "FREQ=MONTHLY;BYMONTHDAY=--1", "FREQ=MONTHLY;BYMONTHDAY=-", "FREQ=MONTHLY;BYMONTHDAY=1,1", "FREQ=MONTHLY;BYMONTHDAY=-1,1,-1", "FREQ=MONTHLY;BYMONTHDAY=1,", "FREQ=MONTHLY;BYMONTHDAY=1;BYMONTHDAY=",
		"FREQ=MONTHLY;BYDAY=", "FREQ=MONTHLY;BYDAY=M", "FREQ=MONTHLY;BYDAY=MON", "FREQ=MONTHLY;BYDAY=MOTU", "FREQ=MONTHLY;BYDAY=MO,", "FREQ=MONTHLY;BYDAY=,MO", "FREQ=MONTHLY;BYDAY=MO TU", "FREQ=MONTHLY;BYDAY=XX", "FREQ=MONTHLY;BYDAY=1", "FREQ=MONTHLY;BYDAY=+", "FREQ=MONTHLY;BYDAY=MO1", "FREQ=MONTHLY;BYDAY=0MO", "FREQ=MONTHLY;BYDAY=+0MO", "FREQ=MONTHLY;BYDAY=-0MO", "FREQ=MONTHLY;BYDAY=6MO", "FREQ=MONTHLY;BYDAY=-6MO", "FREQ=MONTHLY;BYDAY=+6MO", "FREQ=MONTHLY;BYDAY=01MO", "FREQ=MONTHLY;BYDAY=+01MO", "FREQ=MONTHLY;BYDAY=-01MO", "FREQ=MONTHLY;BYDAY=+-1MO", "FREQ=MONTHLY;BYDAY=-+1MO", "FREQ=MONTHLY;BYDAY=++1MO", "FREQ=MONTHLY;BYDAY=--1MO", "FREQ=MONTHLY;BYDAY=+MO", "FREQ=MONTHLY;BYDAY=-MO", "FREQ=MONTHLY;BYDAY=1 MO", "FREQ=MONTHLY;BYDAY= MO", "FREQ=MONTHLY;BYDAY=MO,MO", "FREQ=MONTHLY;BYDAY=1MO,+1MO", "FREQ=MONTHLY;BYDAY=MO,TU,MO", "FREQ=MONTHLY;BYDAY=\u017fU", "FREQ=MONTHLY;BYDAY=99999999999999999999MO",
		"FREQ=DAILY;BYMONTHDAY=1", "FREQ=WEEKLY;BYMONTHDAY=1", "FREQ=DAILY;BYDAY=1MO", "FREQ=WEEKLY;BYDAY=-1MO", "FREQ=WEEKLY;BYDAY=MO,+1TU",
	} {
		noRead(t, s)
	}
	noRead(t, strings.Repeat("F", 1<<20))
	noRead(t, strings.Repeat(";", 1<<20))
	noRead(t, "FREQ=DAILY;COUNT="+strings.Repeat("9", 1<<20))
	noRead(t, "FREQ=MONTHLY;BYDAY="+strings.Repeat("+", 1<<20)+"1MO")
}

var (
	numberPattern  = regexp.MustCompile(`\A(0|-?[1-9][0-9]{0,6})\z`)
	weekdayPattern = regexp.MustCompile(`\A([+-]?[1-9][0-9]{0,6})?(MO|TU|WE|TH|FR|SA|SU)\z`)
	partPattern    = regexp.MustCompile(`\A(FREQ|INTERVAL|COUNT|UNTIL|BYMONTH|BYMONTHDAY|BYDAY)=(.*)\z`)
	smallLetter    = regexp.MustCompile(`[a-z]`)
)

// slowRight is what Right must answer.
func slowRight(r Rule) bool {
	for i, m := range r.Months {
		if m < 1 || m > 12 || i > 0 && r.Months[i-1] >= m {
			return false
		}
	}
	for i, d := range r.Days {
		if d < -31 || d > 31 || d == 0 || i > 0 && r.Days[i-1] >= d {
			return false
		}
	}
	for i, w := range r.Week {
		if w.Day < 0 || w.Day > 6 || w.Order < -5 || w.Order > 5 || r.Freq < 3 && w.Order != 0 {
			return false
		}
		if i > 0 && 100*r.Week[i-1].Day+r.Week[i-1].Order >= 100*w.Day+w.Order {
			return false
		}
	}
	if r.Freq < 3 && len(r.Days) > 0 || r.Count != 0 && r.Until != -1 {
		return false
	}
	return r.Freq >= 1 && r.Freq <= 4 && r.Interval >= 1 && r.Interval <= 1000 && r.Count >= 0 && r.Count <= 10000 && r.Until >= -1 && r.Until <= last
}

// slowRead reads a rule by patterns.
func slowRead(s string) (Rule, bool) {
	s = smallLetter.ReplaceAllStringFunc(s, strings.ToUpper)
	r := Rule{Interval: 1, Until: -1}
	seen := map[string]bool{}
	for _, part := range strings.Split(s, ";") {
		m := partPattern.FindStringSubmatch(part)
		if m == nil || seen[m[1]] {
			return Rule{}, false
		}
		seen[m[1]] = true
		switch items := strings.Split(m[2], ","); m[1] {
		case "FREQ":
			r.Freq = 1 + slices.Index([]string{"DAILY", "WEEKLY", "MONTHLY", "YEARLY"}, m[2])
		case "UNTIL":
			at, err := time.Parse(layout, m[2])
			if err != nil || len(m[2]) != 16 || at.Unix() < 0 {
				return Rule{}, false
			}
			r.Until = at.Unix()
		case "BYDAY":
			for _, item := range items {
				w := weekdayPattern.FindStringSubmatch(item)
				if w == nil {
					return Rule{}, false
				}
				order, _ := strconv.Atoi(w[1])
				r.Week = append(r.Week, Weekday{strings.Index("MOTUWETHFRSASU", w[2]) / 2, order})
			}
			slices.SortFunc(r.Week, func(a, b Weekday) int { return 100*(a.Day-b.Day) + a.Order - b.Order })
		default:
			var l []int
			for _, item := range items {
				n, _ := strconv.Atoi(item)
				if !numberPattern.MatchString(item) {
					return Rule{}, false
				}
				l = append(l, n)
			}
			slices.Sort(l)
			switch {
			case m[1] == "BYMONTH":
				r.Months = l
			case m[1] == "BYMONTHDAY":
				r.Days = l
			case len(l) != 1:
				return Rule{}, false
			case m[1] == "COUNT":
				r.Count = l[0]
			default:
				r.Interval = l[0]
			}
		}
	}
	return r, seen["FREQ"] && slowRight(r)
}

// slowMatch is what Match must answer of a rule that may be, by the library's calendar.
func slowMatch(r Rule, first, day int64) bool {
	a, b := time.Unix(first*86400, 0).UTC(), time.Unix(day*86400, 0).UTC()
	if day < first || len(r.Months) > 0 && !slices.Contains(r.Months, int(b.Month())) {
		return false
	}
	weekday := func(t time.Time) int { return (int(t.Weekday()) + 6) % 7 }
	// The days of the month that are the same weekday.
	var alike []int
	size := 0
	for d := time.Date(b.Year(), b.Month(), 1, 0, 0, 0, 0, time.UTC); d.Month() == b.Month(); d = d.AddDate(0, 0, 1) {
		size++
		if d.Weekday() == b.Weekday() {
			alike = append(alike, d.Day())
		}
	}
	inWeek := len(r.Week) == 0
	for _, w := range r.Week {
		switch {
		case w.Day != weekday(b):
		case w.Order == 0:
			inWeek = true
		case w.Order > 0:
			inWeek = inWeek || w.Order <= len(alike) && alike[w.Order-1] == b.Day()
		default:
			inWeek = inWeek || -w.Order <= len(alike) && alike[len(alike)+w.Order] == b.Day()
		}
	}
	switch r.Freq {
	case Daily:
		return (day-first)%int64(r.Interval) == 0 && inWeek
	case Weekly:
		monday := a.AddDate(0, 0, -weekday(a))
		weeks := 0
		for d := monday.AddDate(0, 0, 7); !d.After(b); d = d.AddDate(0, 0, 7) {
			weeks++
		}
		return weeks%r.Interval == 0 && inWeek && (len(r.Week) > 0 || a.Weekday() == b.Weekday())
	case Monthly:
		if (12*(b.Year()-a.Year())+int(b.Month())-int(a.Month()))%r.Interval != 0 {
			return false
		}
	case Yearly:
		if (b.Year()-a.Year())%r.Interval != 0 || len(r.Months) == 0 && a.Month() != b.Month() {
			return false
		}
	}
	inDays := len(r.Days) == 0
	for _, d := range r.Days {
		inDays = inDays || d == b.Day() || d < 0 && size+1+d == b.Day()
	}
	if len(r.Days) == 0 && len(r.Week) == 0 {
		return a.Day() == b.Day()
	}
	return inDays && inWeek
}

// slowExpand is what Expand must answer of arguments that may be.
func slowExpand(r Rule, first, from, to int64, most int) []int64 {
	all := []int64{first}
	for day := first/86400 + 1; day*86400 < to; day++ {
		if slowMatch(r, first/86400, day) {
			all = append(all, day*86400+first%86400)
		}
	}
	if r.Count > 0 {
		all = all[:min(len(all), r.Count)]
	}
	var out []int64
	for _, t := range all {
		if (r.Until == -1 || t <= r.Until) && t >= from && t < to && len(out) < most {
			out = append(out, t)
		}
	}
	return out
}

// someRule is a rule that may be; near is where its Until may lie.
func someRule(g *rand.Rand, near int64) Rule {
	r := Rule{Freq: 1 + g.Intn(4), Interval: 1 + g.Intn(3), Until: -1}
	if g.Intn(8) == 0 {
		r.Interval = []int{7, 12, 100, 1000}[g.Intn(4)]
	}
	switch g.Intn(4) {
	case 0:
		r.Count = 1 + g.Intn(12)
	case 1:
		r.Until = min(last, max(0, near+int64(g.Intn(1000)-100)*43200))
	}
	if g.Intn(3) == 0 {
		for m := 1; m <= 12; m++ {
			if g.Intn(4) == 0 {
				r.Months = append(r.Months, m)
			}
		}
	}
	if r.Freq >= Monthly && g.Intn(2) == 0 {
		for d := -31; d <= 31; d++ {
			if d != 0 && (g.Intn(12) == 0 || d == -1 && g.Intn(3) == 0) {
				r.Days = append(r.Days, d)
			}
		}
	}
	if g.Intn(2) == 0 {
		for d := range 7 {
			for o := -5; o <= 5; o++ {
				if o == 0 && g.Intn(4) == 0 || o != 0 && r.Freq >= Monthly && g.Intn(14) == 0 {
					r.Week = append(r.Week, Weekday{d, o})
				}
			}
		}
	}
	return r
}

// someTime is a time, of the first or the last days now and then.
func someTime(g *rand.Rand) int64 {
	switch g.Intn(6) {
	case 0:
		return g.Int63n(40 * 86400)
	case 1:
		return last - g.Int63n(400*86400)
	}
	return g.Int63n(last + 1)
}

func TestThereAndBack(t *testing.T) { // P21.4
	g := rand.New(rand.NewSource(1))
	for range 50000 {
		r := someRule(g, someTime(g))
		s, e := Write(r)
		if e != api.OK || !Right(r) {
			t.Fatalf("Write(%v): %v", r, e)
		}
		// In any order, with small letters and pluses.
		parts := strings.Split(s, ";")
		g.Shuffle(len(parts), func(a, b int) { parts[a], parts[b] = parts[b], parts[a] })
		for at, part := range parts {
			name, value, _ := strings.Cut(part, "=")
			items := strings.Split(value, ",")
			g.Shuffle(len(items), func(a, b int) { items[a], items[b] = items[b], items[a] })
			for i, item := range items {
				if name == "BYDAY" && item[0] >= '1' && item[0] <= '5' && g.Intn(2) == 0 {
					items[i] = "+" + item
				}
			}
			parts[at] = name + "=" + strings.Join(items, ",")
			if g.Intn(2) == 0 {
				parts[at] = strings.ToLower(parts[at])
			}
		}
		for _, text := range []string{s, strings.Join(parts, ";")} {
			if got, e := Read(text); !same(got, r) || e != api.OK {
				t.Fatalf("Read(%q): %v %v, not %v", text, got, e, r)
			}
		}
	}
}

func TestReadAsSlowly(t *testing.T) { // P21.1
	g := rand.New(rand.NewSource(2))
	names := []string{"FREQ", "freq", "INTERVAL", "COUNT", "UNTIL", "BYMONTH", "BYMONTHDAY", "BYDAY", "byDay", "WKST", ""}
	values := []string{"DAILY", "weekly", "MONTHLY", "Yearly", "0", "1", "2", "-1", "+1", "12", "13", "31", "-31", "32", "01", "1000", "10000", "10001", "MO", "su", "+1MO", "-1FR", "5TH", "6TH", "0SA", "19700101T000000Z", "20000230T000000Z", "99991231T235959Z", ""}
	signs := ";=,+-0123456789MOTUmo \x00\xff"
	good := 0
	for range 400000 {
		s := ""
		if g.Intn(2) == 0 {
			// A written rule, of which some signs may be others.
			s, _ = Write(someRule(g, someTime(g)))
			for range g.Intn(3) {
				at, c := g.Intn(len(s)), string(signs[g.Intn(len(signs))])
				s = s[:at] + c + s[min(len(s), at+g.Intn(2)):]
			}
		} else {
			var parts []string
			for range 1 + g.Intn(4) {
				part := names[g.Intn(len(names))] + "=" + values[g.Intn(len(values))]
				for range g.Intn(3) {
					part += "," + values[g.Intn(len(values))]
				}
				parts = append(parts, part)
			}
			s = strings.Join(append(parts, "FREQ="+values[g.Intn(4)])[g.Intn(2):], ";")
		}
		want, right := slowRead(s)
		if !right {
			noRead(t, s)
			continue
		}
		good++
		got, e := Read(s)
		if !same(got, want) || e != api.OK {
			t.Fatalf("Read(%q): %v %v, not %v", s, got, e, want)
		}
		// What is read is written, and read as the same.
		text, e := Write(got)
		if again, f := Read(text); e != api.OK || f != api.OK || !same(again, got) {
			t.Fatalf("Read(%q): written %q", s, text)
		}
	}
	if good < 40000 {
		t.Errorf("just %d are rules", good)
	}
}

func TestRightAsSlowly(t *testing.T) { // P21.1
	g := rand.New(rand.NewSource(3))
	good := 0
	for range 300000 {
		r := someRule(g, someTime(g))
		for range g.Intn(3) {
			n := g.Intn(80) - 40
			switch g.Intn(8) {
			case 0:
				r.Freq = n / 6
			case 1:
				r.Interval = n * 30
			case 2:
				r.Count = n * 300
			case 3:
				r.Until = []int64{-2, -1, 0, last, last + 1}[g.Intn(5)]
			case 4:
				r.Months = append(r.Months, n/2)
			case 5:
				r.Days = append(r.Days, n)
			case 6:
				r.Week = append(r.Week, Weekday{n / 5, n % 7})
			case 7:
				r.Week = append(r.Week, Weekday{6, 5})
			}
		}
		if !slowRight(r) {
			noRule(t, r)
			continue
		}
		good++
		s, e := Write(r)
		if got, f := Read(s); !Right(r) || e != api.OK || f != api.OK || !same(got, r) {
			t.Fatalf("Write(%v): %q %v", r, s, e)
		}
	}
	if good < 50000 {
		t.Errorf("just %d may be", good)
	}
}

// match asks which days of so many from a first one on match.
func match(t testing.TB, s string, first int64, days int64, want ...int64) {
	t.Helper()
	var got []int64
	for d := range days {
		yes, e := Match(rule(t, s), first, first+d)
		if e != api.OK {
			t.Errorf("Match(%q, %d, %d): %v", s, first, first+d, e)
		}
		if yes {
			got = append(got, d)
		}
	}
	if !slices.Equal(got, want) {
		t.Errorf("Match(%q, %d): %v, not %v", s, first, got, want)
	}
}

func TestMatch(t *testing.T) { // P21.2
	match(t, "FREQ=DAILY", 0, 4, 0, 1, 2, 3)
	match(t, "FREQ=DAILY;INTERVAL=3", 5, 10, 0, 3, 6, 9)
	match(t, "FREQ=DAILY;INTERVAL=2;BYDAY=TH,SU", 0, 15, 0, 10, 14)
	match(t, "FREQ=DAILY;BYMONTH=2", 29, 5, 2, 3, 4)
	// The first of 1970 is a Thursday: its week begins ahead of it.
	match(t, "FREQ=WEEKLY", 0, 15, 0, 7, 14)
	match(t, "FREQ=WEEKLY;BYDAY=MO,FR", 0, 13, 1, 4, 8, 11)
	match(t, "FREQ=WEEKLY;INTERVAL=2", 0, 20, 0, 14)
	match(t, "FREQ=WEEKLY;INTERVAL=2;BYDAY=SU,MO", 0, 20, 3, 11, 17)
	match(t, "FREQ=WEEKLY;INTERVAL=2;BYDAY=SU,MO", 3, 20, 0, 8, 14)
	match(t, "FREQ=WEEKLY;INTERVAL=2;BYDAY=SU,MO", 4, 20, 0, 6, 14)
	match(t, "FREQ=WEEKLY;BYMONTH=2", 0, 50, 35, 42, 49)
	match(t, "FREQ=MONTHLY", 30, 160, 0, 59, 120)
	match(t, "FREQ=MONTHLY;INTERVAL=2", 30, 160, 0, 59, 120)
	match(t, "FREQ=MONTHLY;INTERVAL=3", 1, 200, 0, 90, 181)
	match(t, "FREQ=MONTHLY;BYMONTHDAY=-1", 0, 70, 30, 58)
	match(t, "FREQ=MONTHLY;BYMONTHDAY=-31,31", 0, 95, 0, 30, 59, 89)
	match(t, "FREQ=MONTHLY;BYMONTHDAY=-28", 0, 70, 3, 31, 62)
	match(t, "FREQ=MONTHLY;BYDAY=1TH,-1TH", 0, 60, 0, 28, 35, 56)
	match(t, "FREQ=MONTHLY;BYDAY=5SA,-5SA", 0, 100, 2, 30)
	match(t, "FREQ=MONTHLY;BYDAY=2TU,TU", 0, 30, 5, 12, 19, 26)
	// Each of Days and Week must hold, where there are both.
	match(t, "FREQ=MONTHLY;BYMONTHDAY=13;BYDAY=FR", 0, 400, 43, 71, 316)
	match(t, "FREQ=YEARLY", 0, 800, 0, 365, 730)
	match(t, "FREQ=YEARLY;INTERVAL=2", 0, 800, 0, 730)
	match(t, "FREQ=YEARLY;BYMONTH=1,2", 0, 400, 0, 31, 365, 396)
	match(t, "FREQ=YEARLY;BYMONTH=2", 0, 400, 31, 396)
	match(t, "FREQ=YEARLY;BYMONTHDAY=2", 0, 400, 1, 366)
	match(t, "FREQ=YEARLY;BYDAY=-1SU", 0, 400, 24, 395)
	// The Order is of the month, not of the year.
	match(t, "FREQ=YEARLY;BYMONTH=3;BYDAY=-1SU", 0, 500, 87, 451)
	// A February 29, from one on (of 1972).
	match(t, "FREQ=YEARLY", 789, 3000, 0, 1461, 2922)
	match(t, "FREQ=YEARLY;INTERVAL=3", 789, 5000, 0, 4383)
	// Of a day ahead of the first one nothing matches.
	for _, s := range []string{"FREQ=DAILY", "FREQ=WEEKLY;BYDAY=MO,TU,WE,TH,FR,SA,SU", "FREQ=MONTHLY;BYDAY=MO,TU,WE,TH,FR,SA,SU", "FREQ=YEARLY;BYMONTHDAY=1,2,3"} {
		for day := range int64(100) {
			if yes, e := Match(rule(t, s), 100, day); yes || e != api.OK {
				t.Errorf("Match(%q, 100, %d): %v %v", s, day, yes, e)
			}
		}
	}
	// A rule's end is not asked.
	match(t, "FREQ=DAILY;COUNT=1", 0, 3, 0, 1, 2)
	match(t, "FREQ=DAILY;UNTIL=19700101T000000Z", 7, 3, 0, 1, 2)
	match(t, "FREQ=DAILY", lastDay-2, 3, 0, 1, 2)
}

func TestMatchOfNoDays(t *testing.T) { // P21.2
	r := rule(t, "FREQ=DAILY")
	for _, n := range []int64{-1, lastDay + 1, last, math.MinInt64, math.MaxInt64} {
		for _, d := range []int64{0, 7, lastDay, n} {
			if yes, e := Match(r, n, d); yes || e != api.ErrWhen {
				t.Errorf("Match(%d, %d): %v %v", n, d, yes, e)
			}
			if yes, e := Match(r, d, n); yes || e != api.ErrWhen {
				t.Errorf("Match(%d, %d): %v %v", d, n, yes, e)
			}
		}
	}
	if yes, e := Match(r, 0, lastDay); !yes || e != api.OK {
		t.Errorf("Match: %v %v", yes, e)
	}
}

func TestMatchAsSlowly(t *testing.T) { // P21.2
	g := rand.New(rand.NewSource(4))
	yeses := 0
	for range 1500 {
		r := someRule(g, 0)
		first := someTime(g) / 86400
		for range 60 {
			day := min(lastDay, max(0, first+g.Int63n(9000)-20))
			if g.Intn(8) == 0 {
				day = someTime(g) / 86400
			}
			// Weeks are counted one by one, which takes long.
			if r.Freq == Weekly && day-first > 20000 {
				continue
			}
			got, e := Match(r, first, day)
			if want := slowMatch(r, first, day); got != want || e != api.OK {
				t.Fatalf("Match(%v, %d, %d): %v %v, not %v", r, first, day, got, e, want)
			}
			if got {
				yeses++
			}
		}
	}
	if yeses < 2000 {
		t.Errorf("just %d match", yeses)
	}
}

// expands asks for a rule's times in a window, in days from the first time on.
func expands(t testing.TB, s string, first, from, to int64, most int, want ...int64) {
	t.Helper()
	l, e := Expand(rule(t, s), first, from, to, most)
	for at := range l {
		if (l[at]-first)%86400 != 0 {
			t.Errorf("Expand(%q): %d is of another clock", s, l[at])
		}
		l[at] = (l[at] - first) / 86400
	}
	if !slices.Equal(l, want) || e != api.OK {
		t.Errorf("Expand(%q, %d, %d, %d, %d): %v %v, not %v", s, first, from, to, most, l, e, want)
	}
}

func TestExpand(t *testing.T) { // P21.3
	const day = 86400
	expands(t, "FREQ=DAILY", 0, 0, 3*day, 1000, 0, 1, 2)
	expands(t, "FREQ=DAILY", 3600, 0, 3*day, 1000, 0, 1, 2)
	// A window has its beginning, not its end.
	expands(t, "FREQ=DAILY", 3600, 3600, 2*day+3600, 1000, 0, 1)
	expands(t, "FREQ=DAILY", 3600, 3601, 2*day+3601, 1000, 1, 2)
	expands(t, "FREQ=DAILY", 3600, 3600, 3600, 1000)
	expands(t, "FREQ=DAILY", 3600, 3600, 3601, 1000, 0)
	expands(t, "FREQ=DAILY", 3600, 0, 3600, 1000)
	expands(t, "FREQ=DAILY", 3600, 0, 0, 1000)
	expands(t, "FREQ=DAILY", 3600, 5*day, 2*day, 1000)
	expands(t, "FREQ=DAILY", last, last, last, 1)
	expands(t, "FREQ=DAILY", last, 0, last, 1000)
	expands(t, "FREQ=DAILY", last-day, 0, last, 1000, 0)
	// At most so many.
	expands(t, "FREQ=DAILY", 0, 0, 9*day, 1, 0)
	expands(t, "FREQ=DAILY", 0, 5*day, 9*day, 3, 5, 6, 7)
	// The first time is one, whether it matches or not.
	expands(t, "FREQ=MONTHLY;BYMONTHDAY=2,3", 0, 0, 40*day, 1000, 0, 1, 2, 32, 33)
	expands(t, "FREQ=YEARLY;BYMONTH=2;BYDAY=1SU", 0, 0, 500*day, 1000, 0, 31, 402)
	expands(t, "FREQ=MONTHLY;BYMONTHDAY=31;BYDAY=MO", 0, 0, 100*day, 1000, 0)
	// Count counts all from the first one on, the first one, too.
	expands(t, "FREQ=DAILY;COUNT=1", 0, 0, 9*day, 1000, 0)
	expands(t, "FREQ=DAILY;COUNT=3", 0, 0, 9*day, 1000, 0, 1, 2)
	expands(t, "FREQ=DAILY;COUNT=3", 0, 2*day, 9*day, 1000, 2)
	expands(t, "FREQ=DAILY;COUNT=3", 0, 3*day, 9*day, 1000)
	expands(t, "FREQ=MONTHLY;BYMONTHDAY=2;COUNT=2", 0, 0, 99*day, 1000, 0, 1)
	// None is above Until, not even the first one.
	expands(t, "FREQ=DAILY;UNTIL=19700103T010000Z", 3600, 0, 9*day, 1000, 0, 1, 2)
	expands(t, "FREQ=DAILY;UNTIL=19700103T005959Z", 3600, 0, 9*day, 1000, 0, 1)
	expands(t, "FREQ=DAILY;UNTIL=19700101T010000Z", 3600, 0, 9*day, 1000, 0)
	expands(t, "FREQ=DAILY;UNTIL=19700101T005959Z", 3600, 0, 9*day, 1000)
	// As far as a window may end, and as many as may be asked for.
	l, e := Expand(rule(t, "FREQ=DAILY"), 5, 5, reach+5, 1000)
	if e != api.OK || len(l) != 1000 || l[999] != 999*day+5 {
		t.Errorf("Expand: %d %v", len(l), e)
	}
	expands(t, "FREQ=DAILY", 5, 7303*day, reach+5, 1000, 7303, 7304)
	expands(t, "FREQ=YEARLY", 0, 0, reach, 1000, 0, 365, 730, 1096, 1461, 1826, 2191, 2557, 2922, 3287, 3652, 4018, 4383, 4748, 5113, 5479, 5844, 6209, 6574, 6940)
	// The calendar's end.
	expands(t, "FREQ=DAILY", last-2*day, 0, last, 1000, 0, 1)
	expands(t, "FREQ=MONTHLY;BYMONTHDAY=-1", (lastDay-70)*day, 0, last, 1000, 0, 9, 39, 70)
}

func TestExpandErrors(t *testing.T) { // P21.3
	r := rule(t, "FREQ=DAILY")
	wrong := func(first, from, to int64, most int, code api.Errno) {
		t.Helper()
		if l, e := Expand(r, first, from, to, most); len(l) != 0 || e != code {
			t.Errorf("Expand(%d, %d, %d, %d): %v %v, not %v", first, from, to, most, l, e, code)
		}
	}
	for _, n := range []int64{-1, last + 1, math.MinInt64, math.MaxInt64} {
		wrong(n, 0, 0, 1, api.ErrWhen)
		wrong(0, n, 0, 1, api.ErrWhen)
		wrong(0, 0, n, 1, api.ErrWhen)
		wrong(n, n, n, 0, api.ErrWhen)
		wrong(0, 0, n, 1001, api.ErrWhen)
	}
	for _, n := range []int{0, -1, 1001, math.MinInt, math.MaxInt} {
		wrong(0, 0, 1, n, api.ErrArg)
	}
	wrong(0, 0, reach+1, 1, api.ErrArg)
	wrong(5, 0, reach+6, 1, api.ErrArg)
	wrong(0, last, last, 1, api.ErrArg)
	wrong(0, 0, last, 0, api.ErrArg)
	for _, most := range []int{1, 1000} {
		if l, e := Expand(r, 5, 0, reach+5, most); len(l) != most || e != api.OK {
			t.Errorf("Expand: %d %v", len(l), e)
		}
	}
}

func TestExpandAsSlowly(t *testing.T) { // P21.3
	g := rand.New(rand.NewSource(5))
	told := 0
	for n := range 3000 {
		first := someTime(g)
		r := someRule(g, first)
		length := int64(3 * 365)
		if n%100 == 0 {
			length = 7305
		}
		to := min(last, max(0, first+g.Int63n(length*86400)-86400))
		from := min(last, max(0, first+g.Int63n(length*86400)-100*86400))
		most := 1 + g.Intn(1000)
		if g.Intn(2) == 0 {
			most, from = 1+g.Intn(5), first
		}
		got, e := Expand(r, first, from, to, most)
		if want := slowExpand(r, first, from, to, most); !slices.Equal(got, want) || e != api.OK {
			t.Fatalf("Expand(%v, %d, %d, %d, %d): %v %v, not %v", r, first, from, to, most, got, e, want)
		}
		told += len(got)
	}
	if told < 20000 {
		t.Errorf("just %d times", told)
	}
}

func TestTimesRise(t *testing.T) { // P21.5
	g := rand.New(rand.NewSource(6))
	for range 2000 {
		first := g.Int63n(last - reach)
		r := someRule(g, first)
		l, e := Expand(r, first, first, first+g.Int63n(2000*86400), 1000)
		if e != api.OK || len(l) == 0 {
			continue
		}
		for at, n := range l[1:] {
			day := l[at] / 86400
			if n <= l[at] || n%86400 != first%86400 {
				t.Fatalf("Expand(%v, %d): %v", r, first, l)
			}
			for day++; day <= n/86400; day++ {
				if yes, _ := Match(r, first/86400, day); yes != (day == n/86400) {
					t.Fatalf("Expand(%v, %d): %d and %d, day %d", r, first, l[at], n, day)
				}
			}
		}
	}
}

func TestWindowsSideBySide(t *testing.T) { // P21.6
	g := rand.New(rand.NewSource(7))
	for range 5000 {
		first := someTime(g)
		r := someRule(g, first)
		at := func() int64 { return min(last, max(0, first+g.Int63n(900*86400)-50*86400)) }
		edges := []int64{at(), at(), at()}
		slices.Sort(edges)
		if g.Intn(3) == 0 {
			edges[1] = min(edges[2], max(edges[0], first))
		}
		a, e := Expand(r, first, edges[0], edges[1], 1000)
		b, f := Expand(r, first, edges[1], edges[2], 1000)
		both, h := Expand(r, first, edges[0], edges[2], 1000)
		if !slices.Equal(append(a, b...), both) || e != api.OK || f != api.OK || h != api.OK {
			t.Fatalf("Expand(%v, %d, %v): %v and %v, not %v", r, first, edges, a, b, both)
		}
	}
}

func TestGreaterCount(t *testing.T) { // P21.7
	g := rand.New(rand.NewSource(8))
	for range 3000 {
		first := g.Int63n(last - reach)
		r := someRule(g, first)
		r.Until, r.Count = -1, 1+g.Intn(20)
		to := first + 1 + g.Int63n(reach)
		few, e := Expand(r, first, 0, to, 1000)
		count := r.Count
		r.Count += 1 + g.Intn(20)
		more, f := Expand(r, first, 0, to, 1000)
		r.Count = 0
		all, h := Expand(r, first, 0, to, 1000)
		if e != api.OK || f != api.OK || h != api.OK {
			t.Fatalf("Expand(%v): %v %v %v", r, e, f, h)
		}
		if len(few) != min(count, len(all)) || !slices.Equal(few, more[:len(few)]) || !slices.Equal(more, all[:len(more)]) {
			t.Fatalf("Expand(%v, %d): %v, %v", r, first, few, more)
		}
	}
}

func TestArgumentsStay(t *testing.T) { // rules 4 and 5
	months, days, week := []int{1, 2, 99, 99}, []int{-1, 1, 99, 99}, []Weekday{{0, 1}, {1, 1}, {99, 99}, {99, 99}}
	r := Rule{Freq: Yearly, Interval: 1, Until: -1, Months: months[:2], Days: days[:2], Week: week[:2]}
	if !Right(r) {
		t.Error("Right: false")
	}
	s, _ := Write(r)
	Match(r, 0, 5)
	l, _ := Expand(r, 0, 0, reach, 1000)
	if !slices.Equal(months, []int{1, 2, 99, 99}) || !slices.Equal(days, []int{-1, 1, 99, 99}) || !slices.Equal(week, []Weekday{{0, 1}, {1, 1}, {99, 99}, {99, 99}}) {
		t.Errorf("changed: %v %v %v", months, days, week)
	}
	// What is handed out is not kept.
	clear(l)
	a := rule(t, s)
	clear(a.Months)
	clear(a.Week)
	if b := rule(t, s); !same(b, r) {
		t.Errorf("Read(%q): %v", s, b)
	}
	if l, _ := Expand(r, 86400, 0, reach, 1); l[0] != 86400 {
		t.Errorf("Expand: %v", l)
	}
}

func TestNeverPanics(t *testing.T) { // P1
	g := rand.New(rand.NewSource(9))
	numbers := []int64{math.MinInt64, -last, -86401, -86400, -86399, -2, -1, 0, 1, 2, 5, 31, 86399, 86400, 7305 * 86400, lastDay, lastDay + 1, last - 1, last, last + 1, math.MaxInt64 - 1, math.MaxInt64}
	pick := func() int64 { return numbers[g.Intn(len(numbers))] }
	for range 200000 {
		r := someRule(g, 0)
		for range g.Intn(3) {
			switch g.Intn(7) {
			case 0:
				r.Freq = int(pick())
			case 1:
				r.Interval = int(pick())
			case 2:
				r.Count = int(pick())
			case 3:
				r.Until = pick()
			case 4:
				r.Months = []int{int(pick())}
			case 5:
				r.Days = []int{int(pick()), int(pick())}
			case 6:
				r.Week = []Weekday{{int(pick()), int(pick())}}
			}
		}
		s, e := Write(r)
		if (e == api.OK) != Right(r) || e != api.OK && s != "" {
			t.Fatalf("Write(%v): %q %v", r, s, e)
		}
		Match(r, pick(), pick())
		if l, e := Expand(r, pick(), pick(), pick(), int(pick())); e != api.OK && len(l) > 0 {
			t.Fatalf("Expand(%v): %v %v", r, l, e)
		}
	}
}
