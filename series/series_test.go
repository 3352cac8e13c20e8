package series

import (
	"math"
	"math/rand"
	"slices"
	"sort"
	"testing"

	"posthorn/api"
	"posthorn/recur"
	"posthorn/zone"
)

const (
	day  = 86400
	last = 253402300799
	week = 7 * day
	// reach is how far behind Start a window may end.
	reach = 7305 * day
)

// rule reads a rule that can be read.
func rule(t testing.TB, s string) recur.Rule {
	t.Helper()
	r, e := recur.Read(s)
	if e != api.OK {
		t.Fatalf("rule %q: %v", s, e)
	}
	return r
}

// often is a series that repeats by a rule.
func often(t testing.TB, start, length int64, s string) Series {
	t.Helper()
	return Series{Start: start, Length: length, Repeats: true, Rule: rule(t, s)}
}

// times is n times, step apart.
func times(n int, from, step int64) []int64 {
	var out []int64
	for i := range n {
		out = append(out, from+int64(i)*step)
	}
	return out
}

// same tells whether series are alike, with lists that are nil or empty, too.
func same(a, b Series) bool {
	r, s := a.Rule, b.Rule
	return a.Start == b.Start && a.Length == b.Length && a.Repeats == b.Repeats &&
		r.Freq == s.Freq && r.Interval == s.Interval && r.Count == s.Count && r.Until == s.Until &&
		slices.Equal(r.Months, s.Months) && slices.Equal(r.Days, s.Days) && slices.Equal(r.Week, s.Week) &&
		slices.Equal(a.Left, b.Left) && slices.Equal(a.More, b.More) && slices.Equal(a.Changes, b.Changes)
}

// originals asks for the originals in a window.
func originals(t testing.TB, s Series, from, to int64, want ...int64) {
	t.Helper()
	if got, e := Originals(s, from, to); !slices.Equal(got, want) || e != api.OK {
		t.Errorf("Originals(%v, %d, %d): %v %v, not %v", s, from, to, got, e, want)
	}
}

func noOriginals(t testing.TB, s Series, from, to int64, code api.Errno) {
	t.Helper()
	if got, e := Originals(s, from, to); len(got) > 0 || e != code {
		t.Errorf("Originals(%v, %d, %d): %v %v, not %v", s, from, to, got, e, code)
	}
}

// instances asks for the instances in a window.
func instances(t testing.TB, s Series, from, to int64, want ...Instance) {
	t.Helper()
	if got, e := Instances(s, from, to); !slices.Equal(got, want) || e != api.OK {
		t.Errorf("Instances(%v, %d, %d): %v %v, not %v", s, from, to, got, e, want)
	}
}

func noInstances(t testing.TB, s Series, from, to int64, code api.Errno) {
	t.Helper()
	if got, e := Instances(s, from, to); len(got) > 0 || e != code {
		t.Errorf("Instances(%v, %d, %d): %v %v, not %v", s, from, to, got, e, code)
	}
}

// next asks for the first instance behind a time: none, if its End is below 0.
func next(t testing.TB, s Series, from int64, want Instance) {
	t.Helper()
	there := want.End >= 0
	if !there {
		want = Instance{}
	}
	if got, found, e := Next(s, from); got != want || found != there || e != api.OK {
		t.Errorf("Next(%v, %d): %v %v %v, not %v", s, from, got, found, e, want)
	}
}

// none is what next asks for where there is no instance.
var none = Instance{End: -1}

func noNext(t testing.TB, s Series, from int64, code api.Errno) {
	t.Helper()
	if got, found, e := Next(s, from); got != (Instance{}) || found || e != code {
		t.Errorf("Next(%v, %d): %v %v %v, not %v", s, from, got, found, e, code)
	}
}

// sets asks for a series with a change.
func sets(t testing.TB, s Series, c Change, want ...Change) Series {
	t.Helper()
	with := s
	with.Changes = want
	got, e := Set(s, c)
	if !same(got, with) || e != api.OK {
		t.Errorf("Set(%v, %v): %v %v, not %v", s, c, got, e, want)
	}
	return got
}

func noSet(t testing.TB, s Series, c Change, code api.Errno) {
	t.Helper()
	if got, e := Set(s, c); !same(got, Series{}) || e != code {
		t.Errorf("Set(%v, %v): %v %v, not %v", s, c, got, e, code)
	}
}

func TestExample(t *testing.T) { // P23.2
	s := often(t, 0, 60, "FREQ=DAILY")
	s.Left = []int64{day}
	instances(t, s, 0, 3*day, Instance{0, 0, 60, false}, Instance{2 * day, 2 * day, 2*day + 60, false})
}

func TestRight(t *testing.T) { // P23.1
	for name, s := range map[string]Series{
		"zero":                 {},
		"last Start":           {Start: last},
		"longest":              {Length: week},
		"rule":                 often(t, 5, 0, "FREQ=DAILY"),
		"most Left":            {Left: times(256, 0, 1)},
		"most More":            {More: times(256, last-255, 1)},
		"Left ahead of Start":  {Start: day, Left: []int64{0}, More: []int64{1}},
		"Left and More":        {Left: []int64{5}, More: []int64{5}},
		"no Original of it":    {Changes: []Change{{5, 6, 7, false}}},
		"change at the ends":   {Changes: []Change{{0, 0, 0, false}, {last, last, week, false}}},
		"change ahead":         {Start: 9, Changes: []Change{{9, 0, 1, false}}},
		"two of one Start":     {Changes: []Change{{5, 9, 7, false}, {6, 9, 7, false}}},
		"cancelled":            {Changes: []Change{{5, 0, 0, true}}},
		"empty lists":          {Rule: recur.Rule{Months: []int{}, Days: []int{}, Week: []recur.Weekday{}}, Left: []int64{}},
		"longest of a changed": {Changes: []Change{{5, 5, week, false}}},
	} {
		if !Right(s) {
			t.Errorf("%s: it may be", name)
		}
	}
	full := Series{Left: times(256, 3, 5), More: times(256, 4, 5)}
	for _, at := range times(256, 0, 7) {
		full.Changes = append(full.Changes, Change{Original: at, Start: 9})
	}
	if !Right(full) {
		t.Error("a full one may be")
	}
}

func TestWrongSeries(t *testing.T) { // P23.1
	full := Series{}
	for _, at := range times(257, 0, 7) {
		full.Changes = append(full.Changes, Change{Original: at, Start: 9})
	}
	daily := rule(t, "FREQ=DAILY")
	for name, s := range map[string]Series{
		"Start below":                 {Start: -1},
		"Start above":                 {Start: last + 1},
		"Length below":                {Length: -1},
		"Length above":                {Length: week + 1},
		"no rule":                     {Repeats: true},
		"wrong rule":                  {Repeats: true, Rule: recur.Rule{Freq: 5, Interval: 1, Until: -1}},
		"rule of none":                {Rule: daily},
		"Freq of none":                {Rule: recur.Rule{Freq: 1}},
		"Interval of none":            {Rule: recur.Rule{Interval: 1}},
		"Count of none":               {Rule: recur.Rule{Count: 1}},
		"Until of none":               {Rule: recur.Rule{Until: -1}},
		"Months of none":              {Rule: recur.Rule{Months: []int{1}}},
		"Days of none":                {Rule: recur.Rule{Days: []int{1}}},
		"Week of none":                {Rule: recur.Rule{Week: []recur.Weekday{{}}}},
		"Months and Days of none":     {Rule: recur.Rule{Months: []int{1}, Days: []int{1}}},
		"Months and Week of none":     {Rule: recur.Rule{Months: []int{1}, Week: []recur.Weekday{{}}}},
		"Days and Week of none":       {Rule: recur.Rule{Days: []int{1}, Week: []recur.Weekday{{}}}},
		"too many Left":               {Left: times(257, 0, 1)},
		"too many More":               {More: times(257, 0, 1)},
		"too many Changes":            full,
		"Left twice":                  {Left: []int64{1, 2, 2}},
		"Left falls":                  {Left: []int64{2, 1}},
		"Left below":                  {Left: []int64{-1}},
		"Left above":                  {Left: []int64{0, last + 1}},
		"More twice":                  {More: []int64{0, 0}},
		"More falls":                  {More: []int64{0, 2, 1}},
		"More below":                  {More: []int64{-1, 0}},
		"More above":                  {More: []int64{last + 1}},
		"Original twice":              {Changes: []Change{{5, 6, 7, false}, {5, 7, 7, false}}},
		"Originals fall":              {Changes: []Change{{5, 6, 7, false}, {4, 7, 7, false}}},
		"Original below":              {Changes: []Change{{-1, 6, 7, false}}},
		"Original above":              {Changes: []Change{{last + 1, 6, 7, false}}},
		"change's Start below":        {Changes: []Change{{5, -1, 7, false}}},
		"change's Start above":        {Changes: []Change{{5, last + 1, 7, false}}},
		"change's Length below":       {Changes: []Change{{5, 6, -1, false}}},
		"change's Length above":       {Changes: []Change{{5, 6, week + 1, false}}},
		"cancelled with a Start":      {Changes: []Change{{5, 6, 0, true}}},
		"cancelled with a Length":     {Changes: []Change{{5, 0, 7, true}}},
		"cancelled below":             {Changes: []Change{{-5, 0, 0, true}}},
		"the second is wrong":         {Changes: []Change{{5, 0, 0, true}, {6, -1, 0, false}}},
		"cancelled twice":             {Changes: []Change{{5, 0, 0, true}, {5, 0, 0, true}}},
		"cancelled with a Start of 0": {Changes: []Change{{5, 0, -1, true}}},
	} {
		if Right(s) {
			t.Errorf("%s: it may not be", name)
		}
		noOriginals(t, s, -1, 5, api.ErrForm)
		noInstances(t, s, last+9, 5, api.ErrForm)
		noNext(t, s, math.MaxInt64, api.ErrForm)
		noSet(t, s, Change{Original: -1}, api.ErrForm)
		noSet(t, s, Change{Original: math.MaxInt64}, api.ErrForm)
		noSet(t, s, Change{Original: s.Start}, api.ErrForm)
	}
}

func TestOriginals(t *testing.T) { // P23.1
	once := Series{Start: 100, Length: 60}
	originals(t, once, 100, 101, 100)
	originals(t, once, 0, 100)
	originals(t, once, 101, 200)
	originals(t, once, 100, 100)
	originals(t, once, 200, 0)
	originals(t, once, 0, 100+reach, 100)
	originals(t, Series{Start: last}, 0, last)
	originals(t, Series{Start: last - 1}, 0, last, last-1)
	daily := often(t, day, 0, "FREQ=DAILY;COUNT=3")
	originals(t, daily, 0, reach, day, 2*day, 3*day)
	originals(t, daily, day+1, 3*day, 2*day)
	originals(t, daily, 2*day, 3*day+1, 2*day, 3*day)
	// Start is one, also where the rule has not even that.
	ended := often(t, 10*day, 0, "FREQ=DAILY;UNTIL=19700102T000000Z")
	originals(t, ended, 0, reach, 10*day)
	// More may stand ahead of Start, beside the rule, and say what is said.
	more := daily
	more.More = []int64{5, day, 2 * day, 2*day + 9, 50 * day}
	originals(t, more, 0, reach, 5, day, 2*day, 2*day+9, 3*day, 50*day)
	originals(t, more, 6, 50*day, day, 2*day, 2*day+9, 3*day)
	// Left takes from all of them, and says nothing of other times.
	more.Left = []int64{4, 5, day, 2 * day, 60 * day}
	originals(t, more, 0, reach, 2*day+9, 3*day, 50*day)
	originals(t, Series{Start: 7, Left: []int64{7}}, 0, 10)
	// A count counts what is left out, too.
	daily.Left = []int64{2 * day}
	originals(t, daily, 0, reach, day, 3*day)
	// Changes say nothing of originals.
	daily.Changes = []Change{{Original: day, Start: 9}, {Original: 3 * day, Cancelled: true}, {Original: 4 * day, Start: 8}}
	originals(t, daily, 0, reach, day, 3*day)
}

func TestOriginalsErrors(t *testing.T) { // P23.1
	daily := often(t, 5*day, 0, "FREQ=DAILY")
	for _, wrong := range []int64{math.MinInt64, -1, last + 1, math.MaxInt64} {
		noOriginals(t, daily, wrong, 7*day, api.ErrWhen)
		noOriginals(t, daily, 6*day, wrong, api.ErrWhen)
		noOriginals(t, daily, wrong, last, api.ErrWhen)
		noOriginals(t, Series{}, wrong, wrong, api.ErrWhen)
	}
	// Of all series, if they repeat or not, and however long the window is.
	for _, s := range []Series{daily, {Start: 5 * day}, {Start: 5 * day, More: []int64{last - 5}}} {
		if got, e := Originals(s, reach, 5*day+reach); e != api.OK || s.Repeats != (len(got) == 5) {
			t.Errorf("Originals(%v): %v %v", s, got, e)
		}
		noOriginals(t, s, 0, 5*day+reach+1, api.ErrArg)
		noOriginals(t, s, 5*day+reach, 5*day+reach+1, api.ErrArg)
		noOriginals(t, s, last, 5*day+reach+1, api.ErrArg)
		noOriginals(t, s, last-9, last, api.ErrArg)
	}
}

func TestFullOriginals(t *testing.T) { // P23.1
	daily := often(t, 5*day, 0, "FREQ=DAILY")
	if l, e := Originals(daily, 0, 5*day+999*day); len(l) != 999 || e != api.OK {
		t.Errorf("Originals: %d %v", len(l), e)
	}
	noOriginals(t, daily, 0, 5*day+999*day+1, api.ErrFull)
	noOriginals(t, daily, 5*day, 5*day+1000*day, api.ErrFull)
	noOriginals(t, daily, 0, 5*day+reach, api.ErrFull)
	noOriginals(t, daily, 0, 5*day+reach+1, api.ErrArg)
	if l, e := Originals(daily, 5*day+1, 5*day+1000*day); len(l) != 999 || e != api.OK {
		t.Errorf("Originals: %d %v", len(l), e)
	}
	// The rule's times alone are counted, what is left out, too.
	daily.Left = times(256, 5*day, day)
	noOriginals(t, daily, 0, 5*day+1000*day, api.ErrFull)
	daily.Left = nil
	daily.More = times(256, 1, day)
	if l, e := Originals(daily, 0, 5*day+999*day); len(l) != 999+256 || e != api.OK {
		t.Errorf("Originals: %d %v", len(l), e)
	}
	ends := often(t, 0, 0, "FREQ=DAILY;COUNT=1000")
	noOriginals(t, ends, 0, reach, api.ErrFull)
	ends.Rule.Count = 999
	if l, e := Originals(ends, 0, reach); len(l) != 999 || e != api.OK {
		t.Errorf("Originals: %d %v", len(l), e)
	}
}

func TestInstances(t *testing.T) { // P23.2
	one := Series{Start: 40 * day, Length: 100}
	is := Instance{40 * day, 40 * day, 40*day + 100, false}
	instances(t, one, 40*day, 40*day+100, is)
	instances(t, one, 40*day+99, 40*day+100, is)
	instances(t, one, 40*day+100, 40*day+200)
	instances(t, one, 40*day-1, 40*day)
	instances(t, one, 40*day-1, 40*day+1, is)
	// An empty window has what goes on over it.
	instances(t, one, 40*day+50, 40*day+50, is)
	instances(t, one, 40*day+60, 40*day+50, is)
	instances(t, one, 40*day, 40*day)
	instances(t, one, 40*day+100, 40*day+1)
	// Without a Length it has no moment, but a start.
	none := Series{Start: 40 * day}
	point := Instance{40 * day, 40 * day, 40 * day, false}
	instances(t, none, 40*day, 40*day+1, point)
	instances(t, none, 40*day-9, 40*day+9, point)
	instances(t, none, 40*day-9, 40*day)
	instances(t, none, 40*day+1, 40*day+9)
	instances(t, none, 40*day, 40*day)
	// An instance's end may lie behind the end of time.
	end := Series{Start: last - 5, Length: week}
	instances(t, end, last-100, last, Instance{last - 5, last - 5, last - 5 + week, false})
	instances(t, end, last, last, Instance{last - 5, last - 5, last - 5 + week, false})
	instances(t, Series{Start: last, Length: 5}, last-9, last)
}

func TestChangedInstances(t *testing.T) { // P23.2, P23.6
	s := often(t, 100*day, 60, "FREQ=DAILY;COUNT=4")
	plain := func(n int64) Instance { return Instance{n * day, n * day, n*day + 60, false} }
	s.Changes = []Change{{100 * day, 102 * day, 30, false}, {101 * day, 0, 0, true}, {103 * day, 102 * day, 0, false}, {104 * day, 100 * day, 9, false}}
	first, fourth := Instance{100 * day, 102 * day, 102*day + 30, true}, Instance{103 * day, 102 * day, 102 * day, true}
	// By Start, and those of one Start by Original; what is no original is not changed.
	instances(t, s, 100*day, 104*day, first, plain(102), fourth)
	instances(t, s, 102*day+30, 104*day, plain(102))
	instances(t, s, 100*day, 102*day)
	// A change that says what was said is one.
	s.Changes = []Change{{102 * day, 102 * day, 60, false}}
	instances(t, s, 102*day, 103*day, Instance{102 * day, 102 * day, 102*day + 60, true})
	// What is left out is not there, changed or not.
	s.Left = []int64{102 * day}
	instances(t, s, 101*day, 104*day, plain(101), plain(103))
	// A change may be longer than the series, and go over its neighbours.
	s.Left, s.Changes = nil, []Change{{101 * day, 99 * day, week, false}}
	instances(t, s, 99*day, 100*day, Instance{101 * day, 99 * day, 106 * day, true})
	instances(t, s, 105*day, 106*day, Instance{101 * day, 99 * day, 106 * day, true})
	instances(t, s, 106*day, 107*day)
	// By Start, whatever the original.
	s.Changes = []Change{{100 * day, 103*day + 1, 1, false}, {103 * day, 99 * day, 1, false}}
	instances(t, s, 0, 200*day, Instance{103 * day, 99 * day, 99*day + 1, true}, plain(101), plain(102), Instance{100 * day, 103*day + 1, 103*day + 2, true})
}

func TestFarOriginals(t *testing.T) { // P23.2: they are looked for from 30 days ahead of the window to 30 days behind it
	moved := func(original, start int64) Series {
		return Series{Start: original, Changes: []Change{{original, start, 10, false}}}
	}
	at := int64(1000 * day)
	instances(t, moved(at-30*day, at), at, at+5, Instance{at - 30*day, at, at + 10, true})
	instances(t, moved(at-30*day-1, at), at, at+5)
	instances(t, moved(at+5+30*day-1, at), at, at+5, Instance{at + 5 + 30*day - 1, at, at + 10, true})
	instances(t, moved(at+5+30*day, at), at, at+5)
	// From the first time to the last one at most.
	instances(t, moved(0, 30*day-1), 30*day-1, 30*day+1, Instance{0, 30*day - 1, 30*day + 9, true})
	instances(t, moved(0, 30*day), 30*day, 30*day+1, Instance{0, 30 * day, 30*day + 10, true})
	instances(t, moved(0, 30*day+1), 30*day+1, 30*day+2)
	instances(t, moved(last-1, last-30*day+1), last-30*day+1, last-30*day+2, Instance{last - 1, last - 30*day + 1, last - 30*day + 11, true})
	instances(t, moved(last, last-9), last-9, last)
	instances(t, moved(last-1, last-9), last-9, last, Instance{last - 1, last - 9, last + 1, true})
}

func TestInstancesErrors(t *testing.T) { // P23.2: Originals' errors, for the wider window
	daily := often(t, 5*day, 60, "FREQ=DAILY")
	first := Instance{5 * day, 5 * day, 5*day + 60, false}
	// An end of the window is a time again, if it is near enough.
	instances(t, daily, -1, 6*day, first)
	instances(t, daily, math.MinInt64, 6*day, first)
	instances(t, daily, 0, -1)
	instances(t, daily, 0, -30*day)
	noInstances(t, daily, 0, -30*day-1, api.ErrWhen)
	noInstances(t, daily, 0, math.MinInt64, api.ErrWhen)
	noInstances(t, daily, math.MinInt64, math.MinInt64, api.ErrWhen)
	end := Series{Start: last - 5, Length: 50}
	instances(t, end, last+1, last+9, Instance{last - 5, last - 5, last + 45, false})
	instances(t, end, last+30*day, math.MaxInt64)
	noInstances(t, end, last+30*day+1, last, api.ErrWhen)
	noInstances(t, end, math.MaxInt64, math.MaxInt64, api.ErrWhen)
	noInstances(t, daily, math.MaxInt64, last, api.ErrWhen)
	// The wider window ends 7305 days behind Start at most.
	instances(t, daily, 5*day+reach-31*day, 5*day+reach-30*day, Instance{reach - 26*day, reach - 26*day, reach - 26*day + 60, false})
	noInstances(t, daily, 5*day+reach-31*day, 5*day+reach-30*day+1, api.ErrArg)
	noInstances(t, Series{}, 0, reach-30*day+1, api.ErrArg)
	noInstances(t, Series{}, 0, math.MaxInt64, api.ErrArg)
	instances(t, Series{}, 0, reach-30*day, Instance{})
	// And has less than 1000 times of the rule.
	from := int64(100 * day)
	if l, e := Instances(daily, from, from+939*day); len(l) != 939 || e != api.OK {
		t.Errorf("Instances: %d %v", len(l), e)
	}
	noInstances(t, daily, from, from+940*day, api.ErrFull)
	if l, e := Instances(daily, 0, 974*day); len(l) != 969 || e != api.OK {
		t.Errorf("Instances: %d %v", len(l), e)
	}
	noInstances(t, daily, 0, 974*day+1, api.ErrFull)
}

func TestNext(t *testing.T) { // P23.3
	s := often(t, 100*day, 60, "FREQ=DAILY;COUNT=3")
	plain := func(n int64) Instance { return Instance{n * day, n * day, n*day + 60, false} }
	next(t, s, 0, plain(100))
	next(t, s, 100*day, plain(100))
	next(t, s, 100*day+59, plain(100))
	next(t, s, 100*day+60, plain(101))
	next(t, s, 102*day, plain(102))
	next(t, s, 102*day+60, none)
	// By Start, not by Original.
	s.Changes = []Change{{100 * day, 101*day + 5, 60, false}, {102 * day, 101*day - 5, 2, false}}
	next(t, s, 0, Instance{102 * day, 101*day - 5, 101*day - 3, true})
	next(t, s, 101*day-3, plain(101))
	next(t, s, 101*day+60, Instance{100 * day, 101*day + 5, 101*day + 65, true})
	// 366 days are looked at, and the originals of 30 more.
	far := Series{Start: 1000 * day, Length: 5}
	next(t, far, 634*day, none)
	next(t, far, 634*day+1, Instance{1000 * day, 1000 * day, 1000*day + 5, false})
	far.Changes = []Change{{1000 * day, 970 * day, 1, false}}
	next(t, far, 604*day, none)
	next(t, far, 604*day+1, Instance{1000 * day, 970 * day, 970*day + 1, true})
	far.Changes[0].Start++
	next(t, far, 604*day+1, none)
	next(t, far, 604*day+2, Instance{1000 * day, 970*day + 1, 970*day + 2, true})
	// The last time at most.
	end := Series{Start: last - 9, Length: 5}
	next(t, end, last-20, Instance{last - 9, last - 9, last - 4, false})
	next(t, end, last-366*day, Instance{last - 9, last - 9, last - 4, false})
	next(t, end, last-4, none)
	next(t, Series{Start: last, Length: 5}, last-9, none)
	next(t, end, last, none)
	next(t, Series{Start: last - 5, Length: 50}, last+9, Instance{last - 5, last - 5, last + 45, false})
}

func TestNextErrors(t *testing.T) { // P23.3: Instances'
	s := Series{Start: 100 * day, Length: 60}
	noNext(t, s, math.MaxInt64, api.ErrWhen)
	noNext(t, s, last+30*day+1, api.ErrWhen)
	noNext(t, s, math.MinInt64, api.ErrWhen)
	noNext(t, s, -396*day-1, api.ErrWhen)
	next(t, s, -396*day, none)
	next(t, s, -266*day, none)
	next(t, s, -266*day+1, Instance{100 * day, 100 * day, 100*day + 60, false})
	noNext(t, s, 100*day+reach-396*day+1, api.ErrArg)
	next(t, s, 100*day+reach-396*day, none)
	noNext(t, s, last, api.ErrArg)
}

func TestSet(t *testing.T) { // P23.4
	s := often(t, 5*day, 60, "FREQ=DAILY")
	s.Left, s.More = []int64{6 * day}, []int64{7, 9*day + 5}
	five, seven, nine := Change{5 * day, 9, 9, false}, Change{7 * day, 0, 0, true}, Change{9 * day, last, week, false}
	// In their order, however they come.
	one := sets(t, s, seven, seven)
	two := sets(t, one, five, five, seven)
	three := sets(t, two, nine, five, seven, nine)
	// In the place of what was there, cancelled or not.
	other := Change{7 * day, 4, 4, false}
	three = sets(t, three, other, five, other, nine)
	three = sets(t, three, seven, five, seven, nine)
	three = sets(t, three, Change{Original: 5 * day, Cancelled: true}, Change{Original: 5 * day, Cancelled: true}, seven, nine)
	sets(t, three, five, five, seven, nine)
	// Of Start and of More, too, ahead of Start as well.
	sets(t, s, Change{7, 8, 9, false}, Change{7, 8, 9, false})
	sets(t, s, Change{9*day + 5, 8, 9, false}, Change{9*day + 5, 8, 9, false})
	// Changes of what is no original stay.
	s.Changes = []Change{{6 * day, 1, 1, false}}
	sets(t, s, five, five, s.Changes[0])
	if one.Changes[0] != seven || len(two.Changes) != 2 {
		t.Errorf("changed: %v %v", one, two)
	}
}

func TestSetErrors(t *testing.T) { // P23.4
	s := often(t, 5*day, 60, "FREQ=DAILY")
	s.Left, s.More = []int64{6 * day}, []int64{last}
	// What is left out is no original, nor what was never one.
	noSet(t, s, Change{Original: 6 * day}, api.ErrNone)
	noSet(t, s, Change{Original: 5*day + 1}, api.ErrNone)
	noSet(t, s, Change{Original: 4 * day}, api.ErrNone)
	noSet(t, s, Change{Original: 0, Start: -1}, api.ErrNone)
	s.Changes = []Change{{6 * day, 1, 1, false}}
	noSet(t, s, Change{Original: 6 * day, Cancelled: true}, api.ErrNone)
	s.Changes = nil
	// As Originals tells it of its second.
	for _, wrong := range []int64{math.MinInt64, -1, last, last + 1, math.MaxInt64} {
		noSet(t, s, Change{Original: wrong}, api.ErrWhen)
	}
	sets(t, s, Change{Original: 4*day + reach}, Change{Original: 4*day + reach})
	noSet(t, s, Change{Original: 5*day + reach}, api.ErrArg)
	noSet(t, s, Change{Original: 5*day + reach - 1}, api.ErrNone)
	noSet(t, s, Change{Original: last - 1, Start: -1}, api.ErrArg)
	// What comes must be one that may be.
	for _, c := range []Change{{5 * day, -1, 0, false}, {5 * day, last + 1, 0, false}, {5 * day, 0, -1, false}, {5 * day, 0, week + 1, false}, {5 * day, 1, 0, true}, {5 * day, 0, 1, true}} {
		noSet(t, s, c, api.ErrForm)
	}
	for _, at := range times(256, 10*day, day) {
		s.Changes = append(s.Changes, Change{Original: at, Start: 9})
	}
	noSet(t, s, Change{Original: 5 * day}, api.ErrForm)
	noSet(t, s, Change{Original: 300 * day}, api.ErrForm)
	got, e := Set(s, Change{Original: 100 * day, Cancelled: true})
	if e != api.OK || len(got.Changes) != 256 || got.Changes[90] != (Change{Original: 100 * day, Cancelled: true}) {
		t.Errorf("Set of a full one: %v %v", got, e)
	}
}

// slowOriginals is what Originals must tell of a window of a series that may be: day by day.
func slowOriginals(s Series, from, to int64) ([]int64, api.Errno) {
	switch {
	case from < 0 || from > last || to < 0 || to > last:
		return nil, api.ErrWhen
	case to > s.Start+reach:
		return nil, api.ErrArg
	}
	seen := map[int64]bool{s.Start: true}
	for _, t := range s.More {
		seen[t] = true
	}
	count, here := 0, 0
	for t := s.Start; s.Repeats && t < to; t += day {
		if s.Rule.Until != -1 && t > s.Rule.Until || s.Rule.Count > 0 && count == s.Rule.Count {
			break
		}
		if match, _ := recur.Match(s.Rule, s.Start/day, t/day); !match && t > s.Start {
			continue
		}
		count++
		seen[t] = true
		if t >= from {
			here++
		}
	}
	if here >= 1000 {
		return nil, api.ErrFull
	}
	for _, t := range s.Left {
		delete(seen, t)
	}
	var out []int64
	for t := range seen {
		if t >= from && t < to {
			out = append(out, t)
		}
	}
	slices.Sort(out)
	return out, api.OK
}

// slowInstances is what Instances must tell of a series that may be, by the originals of the wider window.
func slowInstances(s Series, from, to int64) ([]Instance, api.Errno) {
	l, e := slowOriginals(s, max(0, from-30*day), min(last, to+30*day))
	if e != api.OK {
		return nil, e
	}
	var out []Instance
	for _, t := range l {
		is := Instance{t, t, t + s.Length, false}
		there := true
		for _, c := range s.Changes {
			if c.Original == t {
				is, there = Instance{t, c.Start, c.Start + c.Length, true}, !c.Cancelled
			}
		}
		behind := is.End > from
		if is.Start == is.End {
			behind = is.Start >= from
		}
		if there && behind && is.Start < to {
			out = append(out, is)
		}
	}
	sort.Slice(out, func(a, b int) bool {
		if out[a].Start != out[b].Start {
			return out[a].Start < out[b].Start
		}
		return out[a].Original < out[b].Original
	})
	return out, api.OK
}

// someTimes is times near a time, among them some of its clock, that rise strictly.
func someTimes(g *rand.Rand, near int64) []int64 {
	var out []int64
	for range g.Intn(8) {
		t := near + int64(g.Intn(120)-20)*day
		if g.Intn(3) == 0 {
			t += int64(g.Intn(3)-1) * 3600
		}
		if t >= 0 && t <= last {
			out = append(out, t)
		}
	}
	slices.Sort(out)
	return slices.Compact(out)
}

// someSeries is a series that may be.
func someSeries(t testing.TB, g *rand.Rand) Series {
	starts := []int64{0, 5, 3 * day, 400 * day, 1000000007, last - 100*day, last}
	lengths := []int64{0, 0, 1, 3600, day, 3 * day, week}
	s := Series{Start: starts[g.Intn(len(starts))], Length: lengths[g.Intn(len(lengths))]}
	if g.Intn(5) > 0 {
		rules := []string{"FREQ=DAILY", "FREQ=DAILY;COUNT=7", "FREQ=DAILY;INTERVAL=3", "FREQ=WEEKLY;BYDAY=MO,TH,SU", "FREQ=MONTHLY;BYMONTHDAY=-1,1,13", "FREQ=MONTHLY;BYDAY=-1SU", "FREQ=YEARLY", "FREQ=DAILY;UNTIL=19700110T000000Z", "FREQ=WEEKLY;COUNT=4;INTERVAL=2"}
		s.Repeats, s.Rule = true, rule(t, rules[g.Intn(len(rules))])
	}
	s.Left, s.More = someTimes(g, s.Start), someTimes(g, s.Start)
	if g.Intn(3) == 0 {
		s.More = append(s.More[:0:0], s.Left...)
	}
	for _, at := range someTimes(g, s.Start) {
		c := Change{Original: at, Cancelled: g.Intn(3) == 0}
		if !c.Cancelled {
			c.Start = min(last, max(0, at+int64(g.Intn(140)-70)*day/2))
			c.Length = lengths[g.Intn(len(lengths))]
		}
		s.Changes = append(s.Changes, c)
	}
	return s
}

// someWindow is from a time to one behind it, mostly.
func someWindow(g *rand.Rand, s Series) (int64, int64) {
	from := s.Start + int64(g.Intn(100)-30)*day/2
	to := from + int64(g.Intn(60)-2)*day/2
	switch g.Intn(12) {
	case 0:
		from = s.Start
	case 1:
		to = s.Start + int64(g.Intn(1100))*day
	case 2:
		to = s.Start + reach + int64(g.Intn(5)-4)*day*10
	case 3:
		from, to = last-int64(g.Intn(90))*day, last
	}
	return from, to
}

func TestAsSlowly(t *testing.T) { // P23.1, P23.2, P23.3, P23.5
	g := rand.New(rand.NewSource(1))
	told := map[api.Errno]int{}
	for range 40000 {
		s := someSeries(t, g)
		if !Right(s) {
			t.Fatalf("Right(%v): false", s)
		}
		from, to := someWindow(g, s)
		l, e := Originals(s, from, to)
		if want, f := slowOriginals(s, from, to); !slices.Equal(l, want) || e != f {
			t.Fatalf("Originals(%v, %d, %d): %v %v, not %v %v", s, from, to, l, e, want, f)
		}
		told[e]++
		all, e := Instances(s, from, to)
		if want, f := slowInstances(s, from, to); !slices.Equal(all, want) || e != f {
			t.Fatalf("Instances(%v, %d, %d): %v %v, not %v %v", s, from, to, all, e, want, f)
		}
		seen := map[int64]bool{}
		for _, i := range all {
			if seen[i.Original] || slices.Contains(s.Left, i.Original) || slices.Contains(s.Changes, Change{Original: i.Original, Cancelled: true}) {
				t.Fatalf("Instances(%v, %d, %d): %v", s, from, to, all)
			}
			seen[i.Original] = true
		}
		first, found, e := Next(s, from)
		want, f := slowInstances(s, from, min(last, from+366*day))
		if e != f || found != (len(want) > 0) || found && first != want[0] || !found && first != (Instance{}) {
			t.Fatalf("Next(%v, %d): %v %v %v, not %v %v", s, from, first, found, e, want, f)
		}
	}
	if len(told) != 4 {
		t.Errorf("told: %v", told)
	}
}

func TestChangesOfOne(t *testing.T) { // P23.4, P23.6
	g := rand.New(rand.NewSource(2))
	for range 10000 {
		s := someSeries(t, g)
		from, to := s.Start-min(s.Start, 40*day), min(last, s.Start+60*day)
		l, e := Originals(s, from, to)
		if e != api.OK || len(l) == 0 {
			continue
		}
		c := Change{Original: l[g.Intn(len(l))], Cancelled: g.Intn(3) == 0}
		if !c.Cancelled {
			c.Start, c.Length = from+g.Int63n(to-from), g.Int63n(week+1)
		}
		u, e := Set(s, c)
		if e != api.OK || !Right(u) {
			t.Fatalf("Set(%v, %v): %v", s, c, e)
		}
		if i, found := slices.BinarySearchFunc(u.Changes, c, func(a, b Change) int { return int(a.Original - b.Original) }); !found || u.Changes[i] != c {
			t.Fatalf("Set(%v, %v): %v", s, c, u)
		}
		if again, _ := Originals(u, from, to); !slices.Equal(again, l) {
			t.Fatalf("Originals(%v): %v, not %v", u, again, l)
		}
		own := func(i Instance) bool { return i.Original == c.Original }
		before, _ := Instances(s, from, to)
		behind, _ := Instances(u, from, to)
		if slices.ContainsFunc(behind, own) != (!c.Cancelled && (c.Length > 0 || c.Start >= from)) {
			t.Fatalf("Set(%v, %v): %v", s, c, behind)
		}
		if !slices.Equal(slices.DeleteFunc(before, own), slices.DeleteFunc(behind, own)) {
			t.Fatalf("Set(%v, %v): %v, not %v", s, c, behind, before)
		}
	}
}

func TestWindowsAround(t *testing.T) { // P23.7
	g := rand.New(rand.NewSource(3))
	for range 20000 {
		s := someSeries(t, g)
		from, to := someWindow(g, s)
		in, e := Instances(s, from, to)
		more, f := Instances(s, from-g.Int63n(50*day), to+g.Int63n(50*day))
		if e != api.OK || f != api.OK {
			continue
		}
		for _, i := range in {
			if !slices.Contains(more, i) {
				t.Fatalf("Instances(%v, %d, %d): %v, but not in %v", s, from, to, i, more)
			}
		}
	}
}

// TestKeepsItsClock: what repeats by a clock on a wall is at that clock on each of its days, whatever the zone does.
func TestKeepsItsClock(t *testing.T) { // P5
	z := zone.Zone{Name: "E", Base: 3600, Onsets: []zone.Onset{
		{Start: 87*day + 2*3600, From: 3600, To: 7200, Repeats: true, Rule: rule(t, "FREQ=YEARLY;BYMONTH=3;BYDAY=-1SU")},
		{Start: 297*day + 3*3600, From: 7200, To: 3600, Repeats: true, Rule: rule(t, "FREQ=YEARLY;BYMONTH=10;BYDAY=-1SU")},
	}}
	if !zone.Right(z) {
		t.Fatal("the zone may be")
	}
	for _, clock := range []int64{0, 9 * 3600, 2*3600 + 1800, 23*3600 + 59} {
		s := often(t, 10*day+clock, 3600, "FREQ=DAILY")
		l, e := Instances(s, 0, 900*day)
		if len(l) != 890 || e != api.OK {
			t.Fatalf("Instances: %d %v", len(l), e)
		}
		shifts, gaps := map[int64]int{}, 0
		for n, i := range l {
			if i.Start != int64(10+n)*day+clock || i.End != i.Start+3600 {
				t.Fatalf("the %d.: %v", n, i)
			}
			moment, e := zone.Moment(z, i.Start)
			local, f := zone.Local(z, moment)
			shifts[local-moment]++
			if e != api.OK || f != api.OK {
				t.Fatalf("%v: %v %v", i, e, f)
			}
			if all, _ := zone.Moments(z, i.Start); len(all) == 0 {
				gaps++
			} else if local != i.Start {
				t.Fatalf("%v: at %d", i, local)
			}
		}
		if len(shifts) != 2 || gaps > 0 != (clock == 2*3600+1800) {
			t.Errorf("%d: shifts %v, %d gaps", clock, shifts, gaps)
		}
	}
}

func TestArgumentsStay(t *testing.T) { // rules 4 and 5
	left, more := []int64{day, 3 * day, -7, -7}, []int64{5, 6, -7, -7}
	changes := []Change{{0, 1, 1, false}, {2 * day, 0, 0, true}, {-7, -7, -7, true}, {-7, -7, -7, true}}
	r := recur.Rule{Freq: recur.Yearly, Interval: 1, Until: -1, Months: []int{1, 99}[:1], Days: []int{1, 3, 5, 99}[:3], Week: []recur.Weekday{{Day: 0}, {Day: 3}, {Day: 99}}[:2]}
	s := Series{Length: 9, Repeats: true, Rule: r, Left: left[:2], More: more[:2], Changes: changes[:2]}
	if !Right(s) {
		t.Fatal("Right: false")
	}
	l, _ := Originals(s, 0, 9*day)
	all, _ := Instances(s, 0, 9*day)
	Next(s, 0)
	u, e := Set(s, Change{Original: 5, Start: 9})
	again, f := Set(s, Change{Original: 6, Start: 8})
	if e != api.OK || f != api.OK || len(l) != 4 || len(all) != 4 {
		t.Fatalf("%v %v %v %v", l, all, e, f)
	}
	stays := func() {
		t.Helper()
		if !slices.Equal(left, []int64{day, 3 * day, -7, -7}) || !slices.Equal(more, []int64{5, 6, -7, -7}) || changes[0] != (Change{0, 1, 1, false}) ||
			changes[1] != (Change{2 * day, 0, 0, true}) || changes[2].Original != -7 || changes[3].Original != -7 {
			t.Fatalf("changed: %v %v %v", left, more, changes)
		}
		if !slices.Equal(r.Months[:2], []int{1, 99}) || !slices.Equal(r.Days[:4], []int{1, 3, 5, 99}) || r.Week[1].Day != 3 || r.Week[:3][2].Day != 99 {
			t.Fatalf("changed: %v", r)
		}
	}
	stays()
	// What is handed out is new memory, and nothing behind it is handed out.
	clear(u.Left)
	clear(u.More)
	clear(u.Changes)
	clear(u.Rule.Months)
	clear(u.Rule.Days)
	clear(u.Rule.Week)
	clear(l)
	clear(all)
	stays()
	if !slices.Equal(again.Left, left[:2]) || !slices.Equal(again.Changes, []Change{{0, 1, 1, false}, {6, 8, 0, false}, {2 * day, 0, 0, true}}) {
		t.Errorf("changed: %v", again)
	}
	for _, c := range again.Changes[:cap(again.Changes)] {
		if c.Original == -7 {
			t.Errorf("handed out: %v", again.Changes[:cap(again.Changes)])
		}
	}
}

func TestNeverPanics(t *testing.T) { // P1
	g := rand.New(rand.NewSource(4))
	numbers := []int64{math.MinInt64, math.MinInt64 + 366*day, -last, -396 * day, -30 * day, -1, 0, 1, 60, day, week, week + 1, 30 * day, 366 * day, reach, last - 30*day, last - 1, last, last + 1, last + 30*day, math.MaxInt64 - 30*day, math.MaxInt64 - 1, math.MaxInt64}
	pick := func() int64 { return numbers[g.Intn(len(numbers))] }
	for range 20000 {
		s := someSeries(t, g)
		for range g.Intn(4) {
			switch g.Intn(8) {
			case 0:
				s.Start = pick()
			case 1:
				s.Length = pick()
			case 2:
				s.Repeats = !s.Repeats
			case 3:
				s.Rule.Freq = int(pick())
			case 4:
				s.Rule.Until = pick()
			case 5:
				s.Left = []int64{pick(), pick()}
			case 6:
				s.More = []int64{pick(), pick()}
			case 7:
				s.Changes = []Change{{pick(), pick(), pick(), g.Intn(2) == 0}}
			}
		}
		right := Right(s)
		l, e := Originals(s, pick(), pick())
		if (e == api.ErrForm) == right || e != api.OK && len(l) > 0 {
			t.Fatalf("Originals(%v): %v %v", s, l, e)
		}
		all, e := Instances(s, pick(), pick())
		if (e == api.ErrForm) == right || e != api.OK && len(all) > 0 {
			t.Fatalf("Instances(%v): %v %v", s, all, e)
		}
		i, found, e := Next(s, pick())
		if (e == api.ErrForm) == right || e != api.OK && found || !found && i != (Instance{}) {
			t.Fatalf("Next(%v): %v %v %v", s, i, found, e)
		}
		u, e := Set(s, Change{pick(), pick(), pick(), g.Intn(2) == 0})
		if e == api.OK && !Right(u) || !right && e != api.ErrForm || e != api.OK && !same(u, Series{}) {
			t.Fatalf("Set(%v): %v %v", s, u, e)
		}
	}
}
