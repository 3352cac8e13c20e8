package zone

import (
	"math"
	"math/rand"
	"reflect"
	"regexp"
	"slices"
	"sort"
	"strconv"
	"strings"
	"testing"
	"time"
	_ "time/tzdata"

	"posthorn/api"
	"posthorn/recur"
	"posthorn/tree"
)

const (
	last = 253402300799
	wide = 86399
	// layout is a time as it is written.
	layout = "20060102T150405Z"
)

// rule reads a rule that can be read.
func rule(t testing.TB, s string) recur.Rule {
	t.Helper()
	r, e := recur.Read(s)
	if e != api.OK {
		t.Fatalf("rule %q: %v", s, e)
	}
	return r
}

// at is the local time that is written so.
func at(t testing.TB, s string) int64 {
	t.Helper()
	n, err := time.Parse(layout, s+"Z")
	if err != nil {
		t.Fatal(err)
	}
	return n.Unix()
}

// europe is the zone of the document's example.
func europe(t testing.TB) Zone {
	return Zone{"E", 3600, []Onset{
		{at(t, "19700329T020000"), 3600, 7200, true, rule(t, "FREQ=YEARLY;BYMONTH=3;BYDAY=-1SU")},
		{at(t, "19701025T030000"), 7200, 3600, true, rule(t, "FREQ=YEARLY;BYMONTH=10;BYDAY=-1SU")},
	}}
}

// once is a zone with onsets that do not repeat, each of a Start, a From and a To.
func once(base int64, l ...[3]int64) Zone {
	z := Zone{Name: "Z", Base: base}
	for _, o := range l {
		z.Onsets = append(z.Onsets, Onset{Start: o[0], From: o[1], To: o[2]})
	}
	return z
}

// same tells whether zones are alike, with lists that are nil or empty, too.
func same(a, b Zone) bool {
	return a.Name == b.Name && a.Base == b.Base && slices.EqualFunc(a.Onsets, b.Onsets, func(a, b Onset) bool {
		r, s := a.Rule, b.Rule
		return a.Start == b.Start && a.From == b.From && a.To == b.To && a.Repeats == b.Repeats &&
			r.Freq == s.Freq && r.Interval == s.Interval && r.Count == s.Count && r.Until == s.Until &&
			slices.Equal(r.Months, s.Months) && slices.Equal(r.Days, s.Days) && slices.Equal(r.Week, s.Week)
	})
}

// slow is a zone's onsets, told one by one: of each rule its moments, rising.
type slow struct {
	z       Zone
	moments [][]int64
}

// slowTimes is the local times of an onset rule, by the library's calendar.
func slowTimes(o Onset) []int64 {
	l := []int64{o.Start}
	if !o.Repeats {
		return l
	}
	month, w := time.Month(o.Rule.Months[0]), o.Rule.Week[0]
	for year := time.Unix(o.Start, 0).UTC().Year(); year <= 9999; year++ {
		var alike []int64
		first := time.Date(year, month, 1, 0, 0, 0, 0, time.UTC)
		for d := range first.AddDate(0, 1, -1).Day() {
			if (int(first.Weekday())+d+6)%7 == w.Day {
				alike = append(alike, first.Unix()+int64(86400*d))
			}
		}
		n := w.Order - 1
		if w.Order < 0 {
			n = len(alike) + w.Order
		}
		if t := alike[n] + o.Start%86400; t > o.Start && (o.Rule.Until == -1 || t <= o.Rule.Until) {
			l = append(l, t)
		}
	}
	return l
}

func slowly(z Zone) slow {
	s := slow{z: z}
	for _, o := range z.Onsets {
		l := slowTimes(o)
		for i := range l {
			l[i] -= o.From
		}
		s.moments = append(s.moments, l)
	}
	return s
}

func (s slow) shift(t int64) int64 {
	best, shift := int64(math.MinInt64), s.z.Base
	for i, l := range s.moments {
		n := sort.Search(len(l), func(i int) bool { return l[i] > t })
		if n > 0 && l[n-1] >= best {
			best, shift = l[n-1], s.z.Onsets[i].To
		}
	}
	return shift
}

// near is all onsets' moments from one moment to another, rising.
func (s slow) near(from, to int64) []int64 {
	var out []int64
	for _, l := range s.moments {
		for n := sort.Search(len(l), func(i int) bool { return l[i] >= from }); n < len(l) && l[n] <= to; n++ {
			out = append(out, l[n])
		}
	}
	slices.Sort(out)
	return slices.Compact(out)
}

// local asks for all moments that have the local time: each shift may have made it.
func (s slow) local(local int64) []int64 {
	var out []int64
	seen := map[int64]bool{}
	for i := -1; i < len(s.z.Onsets); i++ {
		shift := s.z.Base
		if i >= 0 {
			shift = s.z.Onsets[i].To
		}
		if t := local - shift; t >= 0 && t <= last && s.shift(t) == shift && !seen[t] {
			seen[t] = true
			out = append(out, t)
		}
	}
	slices.Sort(out)
	return out
}

func (s slow) moment(local int64) (int64, api.Errno) {
	if l := s.local(local); len(l) > 0 {
		return l[0], api.OK
	}
	for _, c := range s.near(local-200000, local+200000) {
		if t := local - s.shift(c-1); c+s.shift(c-1) <= local && c+s.shift(c) > local && t >= 0 && t <= last {
			return t, api.OK
		}
	}
	return 0, api.ErrNone
}

// shift asks for the shift at a moment, and for its local time.
func shift(t testing.TB, z Zone, n, want int64) {
	t.Helper()
	if got, e := Shift(z, n); got != want || e != api.OK {
		t.Errorf("Shift(%d): %d %v, not %d", n, got, e, want)
	}
	got, e := Local(z, n)
	if sum := n + want; sum < 0 || sum > last {
		if got != 0 || e != api.ErrWhen {
			t.Errorf("Local(%d): %d %v", n, got, e)
		}
	} else if got != sum || e != api.OK {
		t.Errorf("Local(%d): %d %v, not %d", n, got, e, sum)
	}
}

// moments asks for the moments of a local time, and that the first one is its moment.
func moments(t testing.TB, z Zone, local int64, want ...int64) {
	t.Helper()
	if got, e := Moments(z, local); !slices.Equal(got, want) || e != api.OK {
		t.Errorf("Moments(%d): %v %v, not %v", local, got, e, want)
	}
	if len(want) > 0 {
		moment(t, z, local, want[0], api.OK)
	}
}

func moment(t testing.TB, z Zone, local, want int64, code api.Errno) {
	t.Helper()
	if got, e := Moment(z, local); got != want || e != code {
		t.Errorf("Moment(%d): %d %v, not %d %v", local, got, e, want, code)
	}
}

func TestExample(t *testing.T) { // P22.1, P22.2
	z := europe(t)
	gap, twice := at(t, "19700329T023000"), at(t, "19701025T023000")
	moments(t, z, gap)
	moment(t, z, gap, gap-3600, api.OK)
	moments(t, z, twice, twice-7200, twice-3600)
	change := at(t, "19700329T010000")
	shift(t, z, change-1, 3600)
	shift(t, z, change, 7200)
	// The gap's edges, and those of what is there twice.
	moments(t, z, gap-1801, gap-5401)
	moments(t, z, gap-1800)
	moment(t, z, gap-1800, gap-5400, api.OK)
	moments(t, z, gap+1799)
	moment(t, z, gap+1799, gap-1801, api.OK)
	moments(t, z, gap+1800, gap-5400)
	moments(t, z, twice-1801, twice-9001)
	moments(t, z, twice-1800, twice-9000, twice-5400)
	moments(t, z, twice+1799, twice-5401, twice-1801)
	moments(t, z, twice+1800, twice-1800)
}

func TestShift(t *testing.T) { // P22.1
	// Ahead of all onsets there is the Base, whatever From says.
	z := once(60, [3]int64{1000, 100, 200})
	shift(t, z, 0, 60)
	shift(t, z, 899, 60)
	shift(t, z, 900, 200)
	shift(t, z, last, 200)
	// Moments may be below 0.
	shift(t, once(60, [3]int64{0, 1, -5}), 0, -5)
	shift(t, once(60, [3]int64{0, 86399, -5}), 0, -5)
	shift(t, once(60, [3]int64{0, 0, -5}), 0, -5)
	shift(t, once(60, [3]int64{0, -1, -5}), 0, 60)
	shift(t, once(60, [3]int64{0, -1, -5}), 1, -5)
	// Of two that are no times the later one counts, too.
	shift(t, once(60, [3]int64{0, 7, 1}, [3]int64{0, 9, 2}), 0, 1)
	shift(t, once(60, [3]int64{0, 9, 1}, [3]int64{0, 7, 2}), 0, 2)
	// Behind the last time there is none.
	shift(t, once(60, [3]int64{last, -1, 7}), last, 60)
	shift(t, once(60, [3]int64{last, 0, 7}), last, 7)
	// The last one counts, wherever it stands in the list; of two at one moment the later in the list.
	for _, l := range [][]Onset{
		{{Start: 500, To: 1}, {Start: 700, To: 2}, {Start: 600, To: 3}},
		{{Start: 700, To: 2}, {Start: 600, To: 3}, {Start: 500, To: 1}},
	} {
		z := Zone{Name: "Z", Base: 9, Onsets: l}
		for n, want := range map[int64]int64{499: 9, 500: 1, 599: 1, 600: 3, 699: 3, 700: 2, last: 2} {
			shift(t, z, n, want)
		}
	}
	z = once(0, [3]int64{1000, 0, 1}, [3]int64{1100, 100, 2}, [3]int64{900, -100, 3})
	shift(t, z, 999, 0)
	shift(t, z, 1000, 3)
	shift(t, z, 1001, 3)
	slices.Reverse(z.Onsets)
	shift(t, z, 1000, 1)
	// Start is an onset of a rule that it does not match, and that ends ahead of it.
	start := at(t, "19800105T120000")
	z = once(0, [3]int64{start, 0, 5}, [3]int64{at(t, "19800401T000000"), 0, 9})
	z.Onsets[0].Repeats, z.Onsets[0].Rule = true, rule(t, "FREQ=YEARLY;BYMONTH=6;BYDAY=1MO;UNTIL=19820607T120000Z")
	for s, want := range map[string]int64{
		"19800105T115959": 0, "19800105T120000": 5, "19800401T000000": 9, "19800602T115959": 9, "19800602T120000": 5,
	} {
		shift(t, z, at(t, s), want)
	}
	z.Onsets[1].Start = at(t, "19820101T000000")
	shift(t, z, at(t, "19820607T115959"), 9)
	shift(t, z, at(t, "19820607T120000"), 5)
	z.Onsets[0].Rule.Until--
	shift(t, z, at(t, "19820607T120000"), 9)
	z.Onsets[0].Rule.Until = start - 1
	shift(t, z, start-1, 0)
	shift(t, z, start, 5)
	z.Onsets[0].Rule.Until = 0
	shift(t, z, start, 5)
	// In the first year there is none ahead of Start, and at the day of Start none but Start.
	z = once(1, [3]int64{at(t, "19700201T000000"), 0, 2})
	z.Onsets[0].Repeats, z.Onsets[0].Rule = true, rule(t, "FREQ=YEARLY;BYMONTH=1;BYDAY=1TH")
	shift(t, z, 0, 1)
	shift(t, z, at(t, "19700131T235959"), 1)
	shift(t, z, at(t, "19700201T000000"), 2)
}

func TestWrongZones(t *testing.T) { // P22.1
	may := func(want bool, change func(z *Zone)) {
		t.Helper()
		z := europe(t)
		change(&z)
		c, e := Write(z)
		if got := Right(z); got != want || (e == api.OK) != want {
			t.Errorf("Right(%v): %v; Write: %v", z, got, e)
		}
		if want {
			return
		}
		n, a := Shift(z, -1)
		l, b := Local(z, -1)
		m, c1 := Moments(z, -1)
		o, d := Moment(z, -1)
		if e != api.ErrForm || a != api.ErrForm || b != api.ErrForm || c1 != api.ErrForm || d != api.ErrForm || n != 0 || l != 0 || len(m) != 0 || o != 0 || !reflect.DeepEqual(c, api.Comp{}) {
			t.Errorf("%v: %v %d %v %d %v %v %v %d %v", z, e, n, a, l, b, m, c1, o, d)
		}
	}
	may(true, func(z *Zone) {})
	may(false, func(z *Zone) { *z = Zone{} })
	for c := range 256 {
		want := c >= 33 && c <= 126 && c != '\\' && c != ';' && c != ','
		may(want, func(z *Zone) { z.Name = string([]byte{byte(c)}) })
		may(want, func(z *Zone) { z.Name = "a" + string([]byte{byte(c)}) + "b" })
	}
	may(false, func(z *Zone) { z.Name = "" })
	may(true, func(z *Zone) { z.Name = strings.Repeat("a", 64) })
	may(false, func(z *Zone) { z.Name = strings.Repeat("a", 65) })
	may(false, func(z *Zone) { z.Onsets = nil })
	may(false, func(z *Zone) { z.Onsets = []Onset{} })
	may(true, func(z *Zone) { z.Onsets = slices.Repeat(z.Onsets, 4) })
	may(false, func(z *Zone) { z.Onsets = append(slices.Repeat(z.Onsets, 4), z.Onsets[0]) })
	may(true, func(z *Zone) { z.Onsets = z.Onsets[:1] })
	for _, n := range []int64{-wide, -1, 0, wide} {
		may(true, func(z *Zone) { z.Base = n })
		may(true, func(z *Zone) { z.Onsets[1].From = n })
		may(true, func(z *Zone) { z.Onsets[1].To = n })
	}
	for _, n := range []int64{-wide - 1, wide + 1, math.MinInt64, math.MaxInt64} {
		may(false, func(z *Zone) { z.Base = n })
		may(false, func(z *Zone) { z.Onsets[1].From = n })
		may(false, func(z *Zone) { z.Onsets[1].To = n })
	}
	for _, n := range []int64{0, last} {
		may(true, func(z *Zone) { z.Onsets[1].Start = n })
	}
	for _, n := range []int64{-1, last + 1, math.MinInt64, math.MaxInt64} {
		may(false, func(z *Zone) { z.Onsets[1].Start = n })
	}
	// A rule that does not repeat is the zero one.
	rules := func(want bool, repeats bool, r recur.Rule) {
		t.Helper()
		for i := range 2 {
			may(want, func(z *Zone) { z.Onsets[i].Repeats, z.Onsets[i].Rule = repeats, r })
		}
	}
	rules(true, false, recur.Rule{})
	rules(true, false, recur.Rule{Months: []int{}, Days: []int{}, Week: []recur.Weekday{}})
	rules(false, true, recur.Rule{})
	for _, r := range []recur.Rule{{Freq: 1}, {Interval: 1}, {Count: 1}, {Until: 1}, {Until: -1}, {Months: []int{1}}, {Days: []int{1}}, {Week: []recur.Weekday{{Day: 0, Order: 1}}}, rule(t, "FREQ=YEARLY;BYMONTH=3;BYDAY=-1SU")} {
		rules(false, false, r)
	}
	for _, s := range []string{"BYMONTH=1;BYDAY=1MO", "BYMONTH=12;BYDAY=-4SU", "BYMONTH=2;BYDAY=4FR;UNTIL=19700101T000000Z", "BYMONTH=2;BYDAY=-1TH;UNTIL=99991231T235959Z"} {
		rules(true, true, rule(t, "FREQ=YEARLY;"+s))
		rules(false, true, rule(t, "FREQ=MONTHLY;"+s))
	}
	for _, s := range []string{"", ";BYMONTH=3", ";BYDAY=1SU", ";BYMONTH=3;BYDAY=SU", ";BYMONTH=3;BYDAY=5SU", ";BYMONTH=3;BYDAY=-5SU", ";BYMONTH=3,4;BYDAY=1SU", ";BYMONTH=3;BYDAY=1SU,2SU", ";BYMONTH=3;BYDAY=1MO,1SU", ";BYMONTH=3;BYDAY=1SU;INTERVAL=2", ";BYMONTH=3;BYDAY=1SU;COUNT=1", ";BYMONTH=3;BYDAY=1SU;BYMONTHDAY=1", ";BYMONTH=3;BYMONTHDAY=1"} {
		rules(false, true, rule(t, "FREQ=YEARLY"+s))
	}
	for _, change := range []func(r *recur.Rule){func(r *recur.Rule) { r.Until = -2 }, func(r *recur.Rule) { r.Until = last + 1 }, func(r *recur.Rule) { r.Months[0] = 0 }, func(r *recur.Rule) { r.Months[0] = 13 }, func(r *recur.Rule) { r.Week[0].Day = 7 }, func(r *recur.Rule) { r.Week[0].Day = -1 }, func(r *recur.Rule) { r.Interval = 0 }, func(r *recur.Rule) { r.Freq = 5 }} {
		r := rule(t, "FREQ=YEARLY;BYMONTH=3;BYDAY=1SU")
		change(&r)
		rules(false, true, r)
	}
}

func TestNoTimes(t *testing.T) { // P22.1, P22.2
	z := europe(t)
	for _, n := range []int64{-1, -7200, last + 1, math.MinInt64, math.MaxInt64} {
		a, e := Shift(z, n)
		b, f := Local(z, n)
		c, g := Moments(z, n)
		d, h := Moment(z, n)
		if a != 0 || b != 0 || len(c) != 0 || d != 0 || e != api.ErrWhen || f != api.ErrWhen || g != api.ErrWhen || h != api.ErrWhen {
			t.Errorf("%d: %d %v %d %v %v %v %d %v", n, a, e, b, f, c, g, d, h)
		}
	}
	// At the ends of time a local time may be none, and have no moment.
	shift(t, z, 0, 3600)
	shift(t, z, last, 3600)
	shift(t, z, last-3600, 3600)
	moments(t, z, 3599)
	moment(t, z, 3599, 0, api.ErrNone)
	moments(t, z, 3600, 0)
	moments(t, z, last, last-3600)
	west := once(-3600, [3]int64{0, -3600, -3600})
	shift(t, west, 3599, -3600)
	shift(t, west, 3600, -3600)
	moments(t, west, 0, 3600)
	moments(t, west, last)
	moment(t, west, last, 0, api.ErrNone)
	moments(t, west, last-3600, last)
	moment(t, west, last-3599, 0, api.ErrNone)
}

func TestMoments(t *testing.T) { // P22.2
	// The clock goes back twice: a local time has three moments.
	z := once(300, [3]int64{10000, 300, 200}, [3]int64{9950, 200, 100})
	moments(t, z, 9849, 9549)
	moments(t, z, 9850, 9550, 9750)
	moments(t, z, 9900, 9600, 9700, 9800)
	moments(t, z, 9949, 9649, 9749, 9849)
	moments(t, z, 9950, 9650, 9850)
	moments(t, z, 10000, 9900)
	// Two gaps side by side: each has its own shift ahead.
	z = once(0, [3]int64{1000, 0, 100}, [3]int64{1100, 100, 300})
	moment(t, z, 1099, 1099, api.OK)
	moments(t, z, 1099)
	moment(t, z, 1299, 1299, api.OK)
	z = once(0, [3]int64{1000, 0, 100}, [3]int64{1150, 100, 300})
	moments(t, z, 1120, 1020)
	moments(t, z, 1200)
	moment(t, z, 1200, 1100, api.OK)
	// Two onsets a second apart: the later one's gap begins at the shift of that second.
	z = once(0, [3]int64{1000, 0, 100}, [3]int64{1101, 100, 300})
	moment(t, z, 1099, 1099, api.OK)
	moments(t, z, 1100, 1000)
	moments(t, z, 1101)
	moment(t, z, 1101, 1001, api.OK)
	moment(t, z, 1300, 1200, api.OK)
	moments(t, z, 1301, 1001)
	// Two gaps one in another, with a way back between: the first one counts.
	z = once(0, [3]int64{1000, 0, 500}, [3]int64{1510, 500, -20}, [3]int64{1000, -20, 600})
	moments(t, z, 1300)
	moment(t, z, 1300, 1300, api.OK)
	// What is ahead of a gap is told by the shift there, not by From.
	z = once(50, [3]int64{1000, 0, 100})
	moments(t, z, 1050)
	moment(t, z, 1050, 1000, api.OK)
	moments(t, z, 1049, 999)
	moment(t, z, 1099, 1049, api.OK)
	moments(t, z, 1100, 1000)
	// A gap's moment must be a time.
	z = once(100, [3]int64{0, 100, 5000})
	moments(t, z, 50)
	moment(t, z, 50, 0, api.ErrNone)
	moment(t, z, 99, 0, api.ErrNone)
	moment(t, z, 100, 0, api.OK)
	moment(t, z, 4899, 4799, api.OK)
	moments(t, z, 4899)
	// Its own moment would be below 0.
	moments(t, z, 4900)
	moment(t, z, 4900, 0, api.ErrNone)
	moments(t, z, 4999)
	moments(t, z, 5000, 0)
}

func TestGapsAtTheFirstTime(t *testing.T) { // P22.2
	// An onset below 0 leaves out local times that are some.
	z := once(-200, [3]int64{0, 100, 5000})
	moments(t, z, 0)
	moment(t, z, 0, 200, api.OK)
	moment(t, z, 4899, 5099, api.OK)
	moment(t, z, 4900, 0, api.ErrNone)
	moment(t, z, 4999, 0, api.ErrNone)
	moments(t, z, 5000, 0)
	// As far as shifts go: from -86399 to 86399.
	z = once(-wide, [3]int64{400000, -wide, wide})
	c := int64(400000 + wide)
	moments(t, z, c-wide-1, c-1)
	moments(t, z, c-wide)
	moment(t, z, c-wide, c, api.OK)
	moments(t, z, c+wide-1)
	moment(t, z, c+wide-1, c+2*wide-1, api.OK)
	moments(t, z, c+wide, c)
	z = once(wide, [3]int64{400000, wide, -wide})
	c = 400000 - wide
	moments(t, z, c-wide-1, c-2*wide-1)
	moments(t, z, c-wide, c-2*wide, c)
	moments(t, z, c+wide-1, c-1, c+2*wide-1)
	moments(t, z, c+wide, c+2*wide)
}

// someOnset is an onset rule that may be, about a time.
func someOnset(t testing.TB, g *rand.Rand, near int64, size int64) Onset {
	o := Onset{Start: min(last, max(0, near+g.Int63n(size)-size/2)), From: someShift(g, size), To: someShift(g, size)}
	if g.Intn(2) == 0 {
		o.Repeats = true
		o.Rule = recur.Rule{Freq: recur.Yearly, Interval: 1, Until: -1, Months: []int{1 + g.Intn(12)}, Week: []recur.Weekday{{Day: g.Intn(7), Order: 1 + g.Intn(4)}}}
		if g.Intn(2) == 0 {
			o.Rule.Week[0].Order *= -1
		}
		if g.Intn(3) == 0 {
			o.Rule.Until = min(last, max(0, o.Start+g.Int63n(6*365*86400)-200*86400))
		}
	}
	return o
}

func someShift(g *rand.Rand, size int64) int64 {
	switch g.Intn(4) {
	case 0:
		return 3600 * (g.Int63n(5) - 2)
	case 1:
		return g.Int63n(2*wide+1) - wide
	}
	n := min(size, wide)
	return g.Int63n(2*n+1) - n
}

// someZone is a zone that may be, and a time about which its onsets are.
func someZone(t testing.TB, g *rand.Rand) (Zone, int64) {
	sizes := []int64{20, 1000, 100000, 400 * 86400, 4000 * 86400}
	size := sizes[g.Intn(len(sizes))]
	near := g.Int63n(last + 1)
	switch g.Intn(4) {
	case 0:
		near = g.Int63n(3 * 365 * 86400)
	case 1:
		near = last - g.Int63n(3*365*86400)
	case 2:
		near = []int64{0, last}[g.Intn(2)]
	}
	z := Zone{Name: "Z" + strconv.Itoa(g.Intn(100)), Base: someShift(g, size)}
	for range 1 + g.Intn(8)/(1+g.Intn(4)) {
		z.Onsets = append(z.Onsets, someOnset(t, g, near, size))
	}
	return z, near
}

// someMoment is a time about a zone's onsets.
func someMoment(g *rand.Rand, s slow, near int64) int64 {
	if g.Intn(8) == 0 {
		return g.Int63n(last + 1)
	}
	l := s.moments[g.Intn(len(s.moments))]
	c := l[g.Intn(min(len(l), 12))]
	if g.Intn(4) == 0 {
		c = l[len(l)-1-g.Intn(min(len(l), 3))]
	}
	size := []int64{2, 50, 8000, 200000, 900 * 86400}[g.Intn(5)]
	return min(last, max(0, c+g.Int63n(2*size+1)-size))
}

func TestAsSlowly(t *testing.T) { // P22.1, P22.2, P22.5
	g := rand.New(rand.NewSource(1))
	counts := [5]int{}
	for range 400 {
		z, near := someZone(t, g)
		s := slowly(z)
		if !Right(z) {
			t.Fatalf("Right(%v): false", z)
		}
		for range 250 {
			n := someMoment(g, s, near)
			shift(t, z, n, s.shift(n))
			local, e := Local(z, n)
			if e == api.OK {
				// Each moment is among those of its local time.
				if l, e := Moments(z, local); !slices.Contains(l, n) || e != api.OK {
					t.Fatalf("Moments(%v, %d): %v %v without %d", z, local, l, e, n)
				}
			}
			local = min(last, max(0, n+someShift(g, 100000)))
			l := s.local(local)
			moments(t, z, local, l...)
			for _, m := range l {
				if got, e := Local(z, m); got != local || e != api.OK {
					t.Fatalf("Local(%v, %d): %d %v, not %d", z, m, got, e, local)
				}
			}
			want, code := s.moment(local)
			moment(t, z, local, want, code)
			counts[min(len(l), 3)]++
			if len(l) == 0 && code == api.OK {
				counts[4]++
			}
			if t.Failed() {
				t.Fatalf("of %+v", z)
			}
		}
	}
	if slices.Min(counts[:]) < 50 {
		t.Errorf("just so many with none, one, two, more, and in gaps: %v", counts)
	}
}

func TestAllMoments(t *testing.T) { // P22.2, P22.5: each second is asked
	g := rand.New(rand.NewSource(2))
	for range 60 {
		base := g.Int63n(100000)
		z := Zone{Name: "Z", Base: g.Int63n(81) - 40}
		for range 1 + g.Intn(5) {
			z.Onsets = append(z.Onsets, Onset{Start: max(0, base+g.Int63n(200)-100), From: g.Int63n(81) - 40, To: g.Int63n(81) - 40})
		}
		all := map[int64][]int64{}
		for n := max(0, base-400); n < base+400; n++ {
			if local, e := Local(z, n); e == api.OK {
				all[local] = append(all[local], n)
			}
		}
		for local := max(0, base-300); local < base+300; local++ {
			moments(t, z, local, all[local]...)
			if t.Failed() {
				t.Fatalf("of %+v", z)
			}
		}
	}
}

func TestBetweenOnsets(t *testing.T) { // P22.6
	g := rand.New(rand.NewSource(3))
	pairs := 0
	for range 300 {
		z, near := someZone(t, g)
		s := slowly(z)
		for range 100 {
			a := someMoment(g, s, near)
			b := min(last, a+g.Int63n([]int64{10, 5000, 90 * 86400}[g.Intn(3)]))
			if len(s.near(a+1, b)) > 0 {
				continue
			}
			x, e := Local(z, a)
			y, f := Local(z, b)
			if e == api.OK && f == api.OK {
				pairs++
				if y-x != b-a {
					t.Fatalf("Local(%v): of %d %d, of %d %d", z, a, x, b, y)
				}
			}
		}
	}
	if pairs < 5000 {
		t.Errorf("just %d pairs", pairs)
	}
}

func TestZonesWithoutChange(t *testing.T) { // P22.7
	g := rand.New(rand.NewSource(4))
	for range 1000 {
		n := someShift(g, 100000)
		z := once(n, [3]int64{g.Int63n(last + 1), n, n}, [3]int64{0, n, n}, [3]int64{last, n, n})
		for range 10 {
			shift(t, z, g.Int63n(last+1), n)
		}
		shift(t, z, 0, n)
		shift(t, z, last, n)
	}
}

func TestAsTheLibrary(t *testing.T) { // P22.1, P22.2: zones as they are kept today
	for _, c := range []struct {
		name, from string
		base       int64
		rules      [2][4]string
	}{
		{"Europe/Berlin", "19960101T000000", 3600, [2][4]string{{"19960331T020000", "+0100", "+0200", "BYMONTH=3;BYDAY=-1SU"}, {"19961027T030000", "+0200", "+0100", "BYMONTH=10;BYDAY=-1SU"}}},
		{"America/New_York", "20070101T000000", -18000, [2][4]string{{"20070311T020000", "-0500", "-0400", "BYMONTH=3;BYDAY=2SU"}, {"20071104T020000", "-0400", "-0500", "BYMONTH=11;BYDAY=1SU"}}},
		{"Australia/Lord_Howe", "20080601T000000", 37800, [2][4]string{{"20081005T020000", "+1030", "+1100", "BYMONTH=10;BYDAY=1SU"}, {"20090405T020000", "+1100", "+1030", "BYMONTH=4;BYDAY=1SU"}}},
	} {
		where, err := time.LoadLocation(c.name)
		if err != nil {
			t.Fatal(err)
		}
		z := Zone{Name: c.name, Base: c.base}
		for _, l := range c.rules {
			from, _ := ReadOffset(l[1])
			to, _ := ReadOffset(l[2])
			z.Onsets = append(z.Onsets, Onset{at(t, l[0]), from, to, true, rule(t, "FREQ=YEARLY;"+l[3])})
		}
		g := rand.New(rand.NewSource(5))
		for range 20000 {
			n := at(t, c.from) + 86400 + g.Int63n(60*365*86400)
			_, want := time.Unix(n, 0).In(where).Zone()
			shift(t, z, n, int64(want))
			if t.Failed() {
				t.Fatalf("%s at %d", c.name, n)
			}
		}
	}
}

func TestFarYears(t *testing.T) { // P22.1: up to the end of time
	z := europe(t)
	for year := 1971; year <= 9999; year++ {
		for i, month := range []time.Month{3, 10} {
			d := time.Date(year, month, 31, 1, 0, 0, 0, time.UTC)
			for d.Weekday() != time.Sunday {
				d = d.AddDate(0, 0, -1)
			}
			ahead, behind := int64(3600*(1+i)), int64(3600*(2-i))
			if a, _ := Shift(z, d.Unix()-1); a != ahead {
				t.Fatalf("%v: %d ahead", d, a)
			}
			if b, _ := Shift(z, d.Unix()); b != behind {
				t.Fatalf("%v: %d behind", d, b)
			}
		}
	}
}

func TestOffset(t *testing.T) { // P22.3, P22.4
	for n, want := range map[int64]string{0: "+0000", 3600: "+0100", -3600: "-0100", 60: "+0001", -60: "-0001", 1: "+000001", -1: "-000001", 59: "+000059", 19800: "+0530", -12600: "-0330", 45296: "+123456", wide: "+235959", -wide: "-235959", 86340: "+2359"} {
		if s, e := Offset(n); s != want || e != api.OK {
			t.Errorf("Offset(%d): %q %v, not %q", n, s, e, want)
		}
	}
	for n := int64(-wide); n <= wide; n++ {
		s, e := Offset(n)
		if got, f := ReadOffset(s); e != api.OK || f != api.OK || got != n {
			t.Fatalf("Offset(%d): %q %v, read as %d %v", n, s, e, got, f)
		}
		if n%60 == 0 {
			if got, f := ReadOffset(s + "00"); f != api.OK || got != n {
				t.Fatalf("ReadOffset(%q): %d %v", s+"00", got, f)
			}
		}
	}
	for _, n := range []int64{-wide - 1, wide + 1, 172800, math.MinInt64, math.MaxInt64} {
		if s, e := Offset(n); s != "" || e != api.ErrWhen {
			t.Errorf("Offset(%d): %q %v", n, s, e)
		}
	}
}

// offsetPattern is a shift as it may be written.
var offsetPattern = regexp.MustCompile(`\A[+-]([01][0-9]|2[0-3])[0-5][0-9]([0-5][0-9])?\z`)

func TestReadOffset(t *testing.T) { // P22.3
	asks := func(s string) {
		t.Helper()
		n, e := ReadOffset(s)
		if !offsetPattern.MatchString(s) || strings.Trim(s, "0") == "-" {
			if n != 0 || e != api.ErrForm {
				t.Errorf("ReadOffset(%q): %d %v", s, n, e)
			}
			return
		}
		h, _ := strconv.Atoi(s[1:3])
		m, _ := strconv.Atoi(s[3:5])
		sec, _ := strconv.Atoi((s + "00")[5:7])
		want := int64(3600*h + 60*m + sec)
		if s[0] == '-' {
			want = -want
		}
		if n != want || e != api.OK {
			t.Errorf("ReadOffset(%q): %d %v, not %d", s, n, e, want)
		}
	}
	for _, s := range []string{"", "+", "0", "+0", "+00", "+000", "0000", "00000", "000000", "+0000", "-0000", "+000000", "-000000", "+00000", "+0000000", "+000000000", "-000001", "-000100", "+2400", "-2400", "+0060", "+000060", "+0160", "+9999", "+235960", "+00:00", "+0 00", " +000", "+000 ", "++000", "+-100", "Z", "UTC", "+0000Z", "+0a00", "+00a0", "+/000", "+0:00", "~0100", ",0100", "\u22120100", "+\xff\xff\xff\xff", "+\x00\x00\x00\x00", "+00000\x00", strings.Repeat("0", 1<<20)} {
		asks(s)
	}
	for c := range 256 {
		for _, s := range []string{"+0000", "-0130", "+123456", "-000000"} {
			for i := range len(s) {
				asks(s[:i] + string([]byte{byte(c)}) + s[i+1:])
			}
		}
	}
	g := rand.New(rand.NewSource(6))
	for range 200000 {
		b := []byte("+")
		if g.Intn(2) == 0 {
			b[0] = '-'
		}
		for range 3 + g.Intn(5) {
			b = append(b, "0123456789012345678901234567890123456789 a+"[g.Intn(43)])
		}
		asks(string(b))
	}
}

// comp is a component, with its lines' Names and Values in turn.
func comp(name string, l ...string) api.Comp {
	c := api.Comp{Name: name}
	for i := 0; i < len(l); i += 2 {
		c.Lines = append(c.Lines, api.Line{Name: l[i], Value: l[i+1]})
	}
	return c
}

// calendar is the calendar of the document's example.
func calendar() api.Comp {
	c := comp("VTIMEZONE", "TZID", "E", "X-BASE", "+0100")
	c.Comps = []api.Comp{
		comp("DAYLIGHT", "DTSTART", "19700329T020000", "TZOFFSETFROM", "+0100", "TZOFFSETTO", "+0200", "RRULE", "FREQ=YEARLY;BYMONTH=3;BYDAY=-1SU"),
		comp("STANDARD", "DTSTART", "19701025T030000", "TZOFFSETFROM", "+0200", "TZOFFSETTO", "+0100", "RRULE", "FREQ=YEARLY;BYMONTH=10;BYDAY=-1SU"),
	}
	return c
}

// sameComp tells whether components are alike, with lists that are nil or empty, too.
func sameComp(a, b api.Comp) bool {
	lines := func(a, b api.Line) bool {
		return a.Name == b.Name && a.Value == b.Value && slices.Equal(a.Params, b.Params)
	}
	return a.Name == b.Name && slices.EqualFunc(a.Lines, b.Lines, lines) && slices.EqualFunc(a.Comps, b.Comps, sameComp)
}

// reads asks which zone a calendar is of.
func reads(t testing.TB, c api.Comp, want Zone) {
	t.Helper()
	if z, e := Read(c); !same(z, want) || e != api.OK {
		t.Errorf("Read(%v): %v %v, not %v", c, z, e, want)
	}
}

// noRead asks that a component is no zone's calendar.
func noRead(t testing.TB, c api.Comp) {
	t.Helper()
	if z, e := Read(c); !reflect.DeepEqual(z, Zone{}) || e != api.ErrForm {
		t.Errorf("Read(%v): %v %v", c, z, e)
	}
}

func TestWrite(t *testing.T) { // P22.3
	c, e := Write(europe(t))
	if !sameComp(c, calendar()) || e != api.OK {
		t.Errorf("Write: %v %v", c, e)
	}
	z := once(-1, [3]int64{0, -60, -61}, [3]int64{last, wide, wide}, [3]int64{1709164800, -wide, wide})
	want := comp("VTIMEZONE", "TZID", "Z", "X-BASE", "-000001")
	want.Comps = []api.Comp{
		comp("STANDARD", "DTSTART", "19700101T000000", "TZOFFSETFROM", "-0001", "TZOFFSETTO", "-000101"),
		comp("STANDARD", "DTSTART", "99991231T235959", "TZOFFSETFROM", "+235959", "TZOFFSETTO", "+235959"),
		comp("DAYLIGHT", "DTSTART", "20240229T000000", "TZOFFSETFROM", "-235959", "TZOFFSETTO", "+235959"),
	}
	if c, e := Write(z); !sameComp(c, want) || e != api.OK {
		t.Errorf("Write: %v %v, not %v", c, e, want)
	}
	reads(t, want, z)
}

func TestThereAndBack(t *testing.T) { // P22.4
	g := rand.New(rand.NewSource(7))
	for range 20000 {
		z, _ := someZone(t, g)
		c, e := Write(z)
		if e != api.OK {
			t.Fatalf("Write(%v): %v", z, e)
		}
		reads(t, c, z)
		// As bytes, and back.
		b, e := tree.Write(c)
		again, f := tree.Read(b)
		if e != api.OK || f != api.OK || !sameComp(again, c) {
			t.Fatalf("Write(%v): %v, %v", z, e, f)
		}
		// In another order, with something between.
		mix := func(l []api.Line) []api.Line {
			l = append(slices.Clone(l), comp("", "X-A", "b", "TZURL", ":", "COMMENT", "x").Lines...)
			g.Shuffle(len(l), func(a, b int) { l[a], l[b] = l[b], l[a] })
			return l
		}
		c.Lines = mix(append(c.Lines, api.Line{Name: "DTSTART", Value: "x"}, api.Line{Name: "RRULE", Value: "x"}, api.Line{Name: "RRULE", Value: "x"}))
		for i := range c.Comps {
			c.Comps[i].Lines = mix(append(c.Comps[i].Lines, api.Line{Name: "TZID", Value: "x"}, api.Line{Name: "X-BASE", Value: "x"}))
			c.Comps[i].Comps = []api.Comp{comp("DAYLIGHT"), comp("X")}
		}
		c.Comps = slices.Insert(c.Comps, g.Intn(len(c.Comps)+1), comp("X-ONSET", "DTSTART", "x"), comp("VTIMEZONE"))
		reads(t, c, z)
		if t.Failed() {
			t.FailNow()
		}
	}
}

func TestBaseThatLacks(t *testing.T) { // P22.3
	without := func(z Zone, base int64) {
		t.Helper()
		c, _ := Write(z)
		c.Lines = c.Lines[:1]
		z.Base = base
		reads(t, c, z)
	}
	without(europe(t), 3600)
	z := europe(t)
	slices.Reverse(z.Onsets)
	without(z, 3600)
	without(once(9, [3]int64{500, 1, 2}, [3]int64{400, 3, 4}, [3]int64{600, 5, 6}), 3)
	// Of two Starts the first; From has no part in which is the least.
	without(once(9, [3]int64{500, 1, 2}, [3]int64{400, 3, 4}, [3]int64{400, 5, 6}), 3)
	without(once(9, [3]int64{400, 5, 6}, [3]int64{500, 1, 2}, [3]int64{400, 3, 4}), 5)
	without(once(9, [3]int64{400, -wide, 6}, [3]int64{401, wide, 2}), -wide)
	without(once(9, [3]int64{0, 7, 7}), 7)
}

func TestWrongCalendars(t *testing.T) { // P22.3
	noRead(t, api.Comp{})
	noRead(t, comp("VTIMEZONE"))
	noRead(t, comp("VTIMEZONE", "TZID", "E"))
	noRead(t, comp("VTIMEZONE", "TZID", "E", "X-BASE", "+0100"))
	for _, name := range []string{"", "vtimezone", "VTIMEZON", "VTIMEZONES", "VCALENDAR", "STANDARD"} {
		c := calendar()
		c.Name = name
		noRead(t, c)
	}
	// Each line is there twice, lacks, or says something else.
	type part struct {
		name  string
		lines func(c *api.Comp) *[]api.Line
	}
	own := func(c *api.Comp) *[]api.Line { return &c.Lines }
	day := func(c *api.Comp) *[]api.Line { return &c.Comps[0].Lines }
	std := func(c *api.Comp) *[]api.Line { return &c.Comps[1].Lines }
	parts := []part{{"TZID", own}, {"X-BASE", own}}
	for _, lines := range []func(c *api.Comp) *[]api.Line{day, std} {
		for _, name := range []string{"DTSTART", "TZOFFSETFROM", "TZOFFSETTO", "RRULE"} {
			parts = append(parts, part{name, lines})
		}
	}
	wrong := map[string][]string{
		"TZID":         {"", "a b", "a,b", "a;b", `a\b`, "é", "\t", strings.Repeat("a", 65)},
		"X-BASE":       {"", "0", "+01", "0100", "+2400", "-0000", "+01:00", "Z", "+0100 "},
		"DTSTART":      {"", "19700329", "19700329T020000Z", "19700329T02000", "19700329T0200000", "19691231T235959", "19700230T020000", "19700329T240000", "19700329t020000", "20000101T000060", " 19700329T020000"},
		"TZOFFSETFROM": {"", "0", "0100", "+2400", "-0000", "+0160", "Z"},
		"TZOFFSETTO":   {"", "0", "0100", "+2400", "-0000", "+0160", "Z"},
		"RRULE":        {"", "x", "FREQ=YEARLY", "FREQ=YEARLY;BYMONTH=3", "FREQ=YEARLY;BYDAY=-1SU", "FREQ=YEARLY;BYMONTH=3;BYDAY=SU", "FREQ=YEARLY;BYMONTH=3;BYDAY=5SU", "FREQ=MONTHLY;BYMONTH=3;BYDAY=-1SU", "FREQ=YEARLY;BYMONTH=3;BYDAY=-1SU;COUNT=9", "FREQ=YEARLY;BYMONTH=3;BYDAY=-1SU;INTERVAL=2", "FREQ=YEARLY;BYMONTH=3;BYDAY=-1SU;UNTIL=19960331T020000", "BYMONTH=3;BYDAY=-1SU", "FREQ=DAILY"},
	}
	for _, p := range parts {
		find := func(l []api.Line) int {
			return slices.IndexFunc(l, func(l api.Line) bool { return l.Name == p.name })
		}
		c := calendar()
		l := p.lines(&c)
		*l = append(*l, (*l)[find(*l)])
		noRead(t, c)
		c = calendar()
		l = p.lines(&c)
		*l = slices.Delete(*l, find(*l), find(*l)+1)
		if z, e := Read(c); p.name == "X-BASE" || p.name == "RRULE" {
			want := europe(t)
			if p.name == "RRULE" {
				i := slices.IndexFunc(c.Comps, func(c api.Comp) bool { return find(c.Lines) < 0 })
				want.Onsets[i].Repeats, want.Onsets[i].Rule = false, recur.Rule{}
			}
			if e != api.OK || !same(z, want) {
				t.Errorf("Read(%v): %v %v", c, z, e)
			}
		} else {
			noRead(t, c)
		}
		for _, value := range wrong[p.name] {
			c = calendar()
			l = p.lines(&c)
			(*l)[find(*l)].Value = value
			noRead(t, c)
		}
		// A Name with small letters is another one.
		c = calendar()
		l = p.lines(&c)
		(*l)[find(*l)].Name = strings.ToLower(p.name)
		if _, e := Read(c); (e == api.OK) != (p.name == "X-BASE" || p.name == "RRULE") {
			t.Errorf("Read(%v): %v", c, e)
		}
	}
	// Values as they may also be read.
	c := calendar()
	c.Lines[1].Value = "+010000"
	c.Comps[0].Lines[1].Value = "+010000"
	c.Comps[0].Lines[3].Value = "byday=-1su;bymonth=3;interval=1;freq=yearly"
	reads(t, c, europe(t))
	// A DAYLIGHT's To is above From, a STANDARD's is not.
	for i, name := range []string{"DAYLIGHT", "STANDARD"} {
		for _, to := range []string{"+0000", "+0100", "+010001", "+0200", "+0300"} {
			c := calendar()
			c.Comps[i].Lines[1].Value = "+0100"
			c.Comps[i].Lines[2].Value = to
			_, e := Read(c)
			if above := to > "+0100"; (e == api.OK) != (above == (name == "DAYLIGHT")) || e != api.OK && e != api.ErrForm {
				t.Errorf("%s to %s: %v", name, to, e)
			}
		}
		c := calendar()
		c.Comps[i].Name = []string{"STANDARD", "DAYLIGHT"}[i]
		noRead(t, c)
		c = calendar()
		c.Comps[i].Name = strings.ToLower(name)
		want := europe(t)
		want.Onsets = slices.Delete(want.Onsets, i, i+1)
		reads(t, c, want)
	}
	// From 1 to 8 onset rules.
	c = calendar()
	c.Comps = slices.Repeat(c.Comps, 4)
	z := europe(t)
	z.Onsets = slices.Repeat(z.Onsets, 4)
	reads(t, c, z)
	c.Comps = append(c.Comps, c.Comps[0])
	noRead(t, c)
	c.Comps = slices.Repeat(c.Comps, 1000)
	noRead(t, c)
	c = calendar()
	c.Comps = nil
	noRead(t, c)
}

func TestArgumentsStay(t *testing.T) { // rules 4 and 5
	z := europe(t)
	z.Onsets = append(z.Onsets, Onset{Start: 9})[:2]
	c, _ := Write(z)
	Shift(z, 5000)
	Local(z, 5000)
	l, _ := Moments(z, 9000)
	Moment(z, at(t, "19700329T023000"))
	if !same(z, europe(t)) || z.Onsets[:3][2].Start != 9 {
		t.Errorf("changed: %v", z)
	}
	clear(l)
	got, _ := Read(c)
	if !sameComp(c, calendar()) {
		t.Errorf("changed: %v", c)
	}
	// What is handed out is not kept.
	c.Comps[0].Lines[0].Value = "x"
	clear(got.Onsets[0].Rule.Months)
	clear(got.Onsets)
	reads(t, calendar(), europe(t))
	if again, e := Write(z); !sameComp(again, calendar()) || e != api.OK {
		t.Errorf("Write: %v %v", again, e)
	}
}

func TestNeverPanics(t *testing.T) { // P1
	g := rand.New(rand.NewSource(8))
	numbers := []int64{math.MinInt64, -last, -wide - 1, -wide, -1, 0, 1, 7, wide, wide + 1, 172800, last - wide, last - 1, last, last + 1, math.MaxInt64}
	pick := func() int64 { return numbers[g.Intn(len(numbers))] }
	for range 100000 {
		z, _ := someZone(t, g)
		o := &z.Onsets[g.Intn(len(z.Onsets))]
		for range g.Intn(3) {
			switch g.Intn(8) {
			case 0:
				o.Start = pick()
			case 1:
				o.From = pick()
			case 2:
				o.To = pick()
			case 3:
				z.Base = pick()
			case 4:
				o.Repeats = !o.Repeats
			case 5:
				o.Rule.Until = pick()
			case 6:
				o.Rule.Months = []int{int(pick())}
			case 7:
				o.Rule.Week = []recur.Weekday{{Day: int(pick()), Order: int(pick())}}
			}
		}
		n := pick()
		a, e := Shift(z, n)
		if (e == api.ErrForm) == Right(z) || e != api.OK && a != 0 {
			t.Fatalf("Shift(%v, %d): %d %v", z, n, a, e)
		}
		Local(z, n)
		Moments(z, n)
		Moment(z, n)
		c, e := Write(z)
		if got, f := Read(c); (e == api.OK) != (f == api.OK) || e == api.OK && !same(got, z) {
			t.Fatalf("Read(%v): %v %v", c, got, f)
		}
	}
}
