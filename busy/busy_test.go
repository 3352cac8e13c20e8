package busy

import (
	"math"
	"math/rand"
	"slices"
	"strings"
	"testing"
	"time"

	"posthorn/api"
	"posthorn/recur"
	"posthorn/series"
	"posthorn/tree"
)

const (
	day  = 86400
	last = 253402300799
)

// row is n spans of Busy with a second between any two.
func row(n int) []Span {
	var out []Span
	for i := range n {
		out = append(out, Span{int64(2 * i), int64(2*i + 1), Busy})
	}
	return out
}

// spreads asks for spans spread out, and that they are a row.
func spreads(t testing.TB, l []Span, want ...Span) {
	t.Helper()
	got, e := Spread(l)
	if !slices.Equal(got, want) || e != api.OK {
		t.Errorf("Spread(%v): %v %v, not %v", l, got, e, want)
	}
	if !Right(got) {
		t.Errorf("Spread(%v): %v, no row", l, got)
	}
}

func noSpread(t testing.TB, l []Span, code api.Errno) {
	t.Helper()
	if got, e := Spread(l); len(got) > 0 || e != code {
		t.Errorf("Spread(%v): %v %v, not %v", l, got, e, code)
	}
}

func clips(t testing.TB, l []Span, from, to int64, want ...Span) {
	t.Helper()
	if got, e := Clip(l, from, to); !slices.Equal(got, want) || e != api.OK {
		t.Errorf("Clip(%v, %d, %d): %v %v, not %v", l, from, to, got, e, want)
	}
}

func frees(t testing.TB, l []Span, from, to, least int64, want ...Span) {
	t.Helper()
	if got, e := Free(l, from, to, least); !slices.Equal(got, want) || e != api.OK {
		t.Errorf("Free(%v, %d, %d, %d): %v %v, not %v", l, from, to, least, got, e, want)
	}
}

func clashes(t testing.TB, l []Span, from, to int64, want bool) {
	t.Helper()
	if got, e := Clash(l, from, to); got != want || e != api.OK {
		t.Errorf("Clash(%v, %d, %d): %v %v", l, from, to, got, e)
	}
}

// noneBetween asks for the error of all that ask what lies between.
func noneBetween(t testing.TB, l []Span, from, to int64, code api.Errno) {
	t.Helper()
	if got, e := Clip(l, from, to); len(got) > 0 || e != code {
		t.Errorf("Clip(%v, %d, %d): %v %v, not %v", l, from, to, got, e, code)
	}
	for _, least := range []int64{1, 0, -1, 50} {
		if got, e := Free(l, from, to, least); len(got) > 0 || e != code {
			t.Errorf("Free(%v, %d, %d, %d): %v %v, not %v", l, from, to, least, got, e, code)
		}
	}
	if got, e := Clash(l, from, to); got || e != code {
		t.Errorf("Clash(%v, %d, %d): %v %v, not %v", l, from, to, got, e, code)
	}
}

func TestExample(t *testing.T) { // P24.1
	spreads(t, []Span{{10, 20, Busy}, {15, 30, Tentative}}, Span{10, 20, Busy}, Span{20, 30, Tentative})
	spreads(t, []Span{{15, 30, Tentative}, {10, 20, Busy}}, Span{10, 20, Busy}, Span{20, 30, Tentative})
}

func TestRight(t *testing.T) { // P24.1
	for name, l := range map[string][]Span{
		"none":          nil,
		"empty":         {},
		"all time":      {{0, last, Tentative}},
		"a second":      {{last - 1, last, Away}},
		"apart":         {{0, 1, Busy}, {2, 3, Busy}},
		"another Kind":  {{0, 1, Busy}, {1, 3, Tentative}, {3, 4, Away}},
		"greatest":      row(1024),
		"alike further": {{0, 1, Busy}, {1, 2, Away}, {2, 3, Busy}},
	} {
		if !Right(l) {
			t.Errorf("%s: %v is a row", name, l)
		}
	}
	for name, l := range map[string][]Span{
		"ahead of time":       {{-1, 1, Busy}},
		"behind time":         {{0, last + 1, Busy}},
		"no moment":           {{5, 5, Busy}},
		"falls":               {{6, 5, Busy}},
		"Kind 0":              {{5, 6, 0}},
		"Kind 4":              {{5, 6, 4}},
		"Kind -1":             {{5, 6, -1}},
		"the second is none":  {{5, 6, Busy}, {7, 7, Busy}},
		"one in another":      {{5, 9, Busy}, {6, 7, Away}},
		"one over another":    {{5, 9, Busy}, {8, 10, Away}},
		"no order":            {{5, 9, Busy}, {1, 2, Away}},
		"one Kind":            {{5, 9, Busy}, {9, 10, Busy}},
		"one Kind at the end": {{5, 9, Busy}, {9, 10, Away}, {10, 11, Away}},
		"twice":               {{5, 9, Busy}, {5, 9, Busy}},
		"too many":            row(1025),
	} {
		if Right(l) {
			t.Errorf("%s: %v is no row", name, l)
		}
		noneBetween(t, l, 0, 9, api.ErrForm)
		noneBetween(t, l, 9, 0, api.ErrForm)
		noWrite(t, "a@b", 0, last, l)
	}
}

func TestSpread(t *testing.T) { // P24.1
	spreads(t, nil)
	spreads(t, []Span{{0, last, Away}}, Span{0, last, Away})
	// Side by side, over each other, in each other, twice.
	spreads(t, []Span{{5, 7, Busy}, {7, 9, Busy}}, Span{5, 9, Busy})
	spreads(t, []Span{{5, 7, Busy}, {8, 9, Busy}}, Span{5, 7, Busy}, Span{8, 9, Busy})
	spreads(t, []Span{{5, 7, Busy}, {7, 9, Away}}, Span{5, 7, Busy}, Span{7, 9, Away})
	spreads(t, []Span{{5, 8, Busy}, {7, 9, Busy}, {5, 8, Busy}}, Span{5, 9, Busy})
	spreads(t, []Span{{5, 9, Tentative}, {6, 7, Away}}, Span{5, 6, Tentative}, Span{6, 7, Away}, Span{7, 9, Tentative})
	spreads(t, []Span{{5, 9, Away}, {6, 7, Tentative}, {4, 6, Busy}}, Span{4, 5, Busy}, Span{5, 9, Away})
	spreads(t, []Span{{5, 9, Tentative}, {6, 7, Tentative}, {6, 8, Tentative}}, Span{5, 9, Tentative})
	// A smaller Kind's end and beginning within a greater one are not to be seen.
	spreads(t, []Span{{1, 9, Away}, {0, 3, Busy}, {3, 5, Busy}, {5, 10, Busy}}, Span{0, 1, Busy}, Span{1, 9, Away}, Span{9, 10, Busy})
	// All three at one moment.
	spreads(t, []Span{{0, 3, Away}, {0, 6, Busy}, {0, 9, Tentative}}, Span{0, 3, Away}, Span{3, 6, Busy}, Span{6, 9, Tentative})
	spreads(t, []Span{{6, 9, Away}, {3, 9, Busy}, {0, 9, Tentative}}, Span{0, 3, Tentative}, Span{3, 6, Busy}, Span{6, 9, Away})
}

func TestSpreadErrors(t *testing.T) { // P24.1
	many := slices.Repeat([]Span{{5, 7, Busy}}, 4096)
	spreads(t, many, Span{5, 7, Busy})
	noSpread(t, append(slices.Clone(many), Span{5, 7, Busy}), api.ErrLong)
	noSpread(t, append(slices.Clone(many), Span{}), api.ErrLong)
	noSpread(t, append(slices.Clone(many[1:]), Span{}), api.ErrForm)
	for _, s := range []Span{{}, {-1, 1, Busy}, {0, last + 1, Busy}, {5, 5, Busy}, {6, 5, Busy}, {5, 6, 0}, {5, 6, 4}, {5, 6, -1}, {last, last + 1, Busy}, {math.MinInt64, math.MaxInt64, Away}, {5, 6, math.MaxInt}, {5, 6, math.MinInt}} {
		noSpread(t, []Span{s}, api.ErrForm)
		noSpread(t, []Span{{0, 9, Away}, s}, api.ErrForm)
		noSpread(t, append(row(1025), s), api.ErrForm)
	}
	spreads(t, row(1024), row(1024)...)
	noSpread(t, row(1025), api.ErrFull)
	noSpread(t, row(4096), api.ErrFull)
	noSpread(t, row(4097), api.ErrLong)
	// What is spread out counts, not what was there.
	spreads(t, append(row(1025), Span{0, 3, Busy}), append([]Span{{0, 3, Busy}}, row(1025)[2:]...)...)
	noSpread(t, append(row(513), Span{0, 1026, Tentative}), api.ErrFull)
}

func TestClip(t *testing.T) { // P24.1
	l := []Span{{10, 20, Busy}, {20, 30, Tentative}, {40, 50, Away}}
	clips(t, l, 0, last, l...)
	clips(t, l, 10, 50, l...)
	clips(t, l, 11, 49, Span{11, 20, Busy}, Span{20, 30, Tentative}, Span{40, 49, Away})
	clips(t, l, 12, 13, Span{12, 13, Busy})
	clips(t, l, 20, 40, Span{20, 30, Tentative})
	clips(t, l, 19, 41, Span{19, 20, Busy}, Span{20, 30, Tentative}, Span{40, 41, Away})
	clips(t, l, 30, 40)
	clips(t, l, 0, 10)
	clips(t, l, 50, 51)
	clips(t, nil, 0, 1)
	clips(t, row(1024), 0, last, row(1024)...)
}

func TestNoSpanBetween(t *testing.T) { // P24.1, P24.2
	l := []Span{{10, 20, Busy}}
	for _, w := range [][2]int64{{5, 5}, {6, 5}, {-1, 5}, {5, last + 1}, {-1, -1}, {last, last}, {math.MinInt64, math.MaxInt64}, {math.MaxInt64, math.MinInt64}, {math.MinInt64, 5}} {
		noneBetween(t, l, w[0], w[1], api.ErrArg)
		noneBetween(t, nil, w[0], w[1], api.ErrArg)
	}
}

func TestFree(t *testing.T) { // P24.2
	l := []Span{{10, 20, Busy}, {20, 30, Tentative}, {40, 50, Away}, {50, 55, Busy}}
	frees(t, l, 0, 60, 1, Span{0, 10, 0}, Span{20, 40, 0}, Span{55, 60, 0})
	frees(t, l, 0, 60, 5, Span{0, 10, 0}, Span{20, 40, 0}, Span{55, 60, 0})
	frees(t, l, 0, 60, 6, Span{0, 10, 0}, Span{20, 40, 0})
	frees(t, l, 0, 60, 10, Span{0, 10, 0}, Span{20, 40, 0})
	frees(t, l, 0, 60, 11, Span{20, 40, 0})
	frees(t, l, 0, 60, 20, Span{20, 40, 0})
	frees(t, l, 0, 60, 21)
	frees(t, l, 0, 60, math.MaxInt64)
	frees(t, l, 12, 45, 1, Span{20, 40, 0})
	frees(t, l, 10, 55, 1, Span{20, 40, 0})
	frees(t, l, 25, 35, 1, Span{25, 35, 0})
	frees(t, l, 25, 35, 11)
	frees(t, l, 12, 20, 1)
	frees(t, l, 12, 21, 1, Span{20, 21, 0})
	frees(t, l, 9, 21, 1, Span{9, 10, 0}, Span{20, 21, 0})
	frees(t, nil, 0, last, last, Span{0, last, 0})
	frees(t, []Span{{0, last, Tentative}}, 0, last, last, Span{0, last, 0})
	frees(t, []Span{{0, last, Away}}, 0, last, 1)
	if got, e := Free(row(1024), 0, 4096, 1); len(got) != 1024 || e != api.OK {
		t.Errorf("Free: %d %v", len(got), e)
	}
}

func TestFreeErrors(t *testing.T) { // P24.2
	for _, least := range []int64{0, -1, math.MinInt64} {
		if got, e := Free(nil, 0, 9, least); len(got) > 0 || e != api.ErrArg {
			t.Errorf("Free of %d: %v %v", least, got, e)
		}
		if got, e := Free([]Span{{0, 9, Away}}, 0, 9, least); len(got) > 0 || e != api.ErrArg {
			t.Errorf("Free of %d: %v %v", least, got, e)
		}
	}
}

func TestClash(t *testing.T) { // P24.2
	l := []Span{{10, 20, Busy}, {20, 30, Tentative}, {40, 50, Away}}
	clashes(t, l, 0, 60, true)
	clashes(t, l, 0, 10, false)
	clashes(t, l, 0, 11, true)
	clashes(t, l, 19, 20, true)
	clashes(t, l, 20, 40, false)
	clashes(t, l, 20, 41, true)
	clashes(t, l, 49, 51, true)
	clashes(t, l, 50, 51, false)
	clashes(t, nil, 0, last, false)
	clashes(t, []Span{{0, last, Tentative}}, 0, last, false)
}

// someSpans is spans among the first 60 seconds.
func someSpans(g *rand.Rand) []Span {
	var out []Span
	for range g.Intn(8) {
		from := g.Int63n(50)
		out = append(out, Span{from, from + 1 + g.Int63n(10), 1 + g.Intn(3)})
	}
	return out
}

// slowKind is the greatest Kind of the spans that have a moment.
func slowKind(l []Span, moment int64) int {
	kind := 0
	for _, s := range l {
		if s.From <= moment && moment < s.To {
			kind = max(kind, s.Kind)
		}
	}
	return kind
}

// slowSpans is the spans between, of the Kinds that kind tells of each moment, but 0.
func slowSpans(from, to int64, kind func(moment int64) int) []Span {
	var out []Span
	for moment := from; moment < to; moment++ {
		k, n := kind(moment), len(out)-1
		switch {
		case k == 0:
		case n >= 0 && out[n].To == moment && out[n].Kind == k:
			out[n].To++
		default:
			out = append(out, Span{moment, moment + 1, k})
		}
	}
	return out
}

func TestAsSlowly(t *testing.T) { // P24.1, P24.2, P24.5, P24.6
	g := rand.New(rand.NewSource(1))
	for range 50000 {
		l := someSpans(g)
		out, e := Spread(l)
		want := slowSpans(0, 60, func(m int64) int { return slowKind(l, m) })
		if !slices.Equal(out, want) || e != api.OK || !Right(out) {
			t.Fatalf("Spread(%v): %v %v, not %v", l, out, e, want)
		}
		if slices.Equal(l, want) != Right(l) {
			t.Fatalf("Right(%v): %v", l, Right(l))
		}
		again, _ := Spread(out)
		g.Shuffle(len(l), func(a, b int) { l[a], l[b] = l[b], l[a] })
		if other, _ := Spread(l); !slices.Equal(other, out) || !slices.Equal(again, out) {
			t.Fatalf("Spread(%v): %v, %v, not %v", l, other, again, out)
		}
		from := g.Int63n(60)
		to := from + 1 + g.Int63n(20)
		clipped, e := Clip(out, from, to)
		if want := slowSpans(from, to, func(m int64) int { return slowKind(l, m) }); !slices.Equal(clipped, want) || e != api.OK || !Right(clipped) {
			t.Fatalf("Clip(%v, %d, %d): %v %v, not %v", out, from, to, clipped, e, want)
		}
		clash := false
		for m := from; m < to; m++ {
			clash = clash || slowKind(l, m) >= Busy
		}
		clashes(t, out, from, to, clash)
	}
}

func TestFreeAsSlowly(t *testing.T) { // P24.2, P24.7, P5
	g := rand.New(rand.NewSource(2))
	for range 50000 {
		l, _ := Spread(someSpans(g))
		from := g.Int63n(40)
		to, least := from+1+g.Int63n(40), 1+g.Int63n(12)
		var want []Span
		for _, s := range slowSpans(from, to, func(m int64) int {
			if slowKind(l, m) >= Busy {
				return 0
			}
			return 1
		}) {
			if s.To-s.From >= least {
				want = append(want, Span{From: s.From, To: s.To})
			}
		}
		frees(t, l, from, to, least, want...)
		// What is free clashes with nothing; what is between two does, or is too short.
		at := from
		for _, s := range append(want, Span{From: to, To: to}) {
			if s.From < s.To {
				clashes(t, l, s.From, s.To, false)
			}
			if clash, _ := Clash(l, at, s.From); at < s.From && !clash && s.From-at >= least {
				t.Fatalf("Free(%v, %d, %d, %d): not %d to %d", l, from, to, least, at, s.From)
			}
			at = s.To
		}
	}
}

// often is a series of a rule.
func often(t testing.TB, start, length int64, s string) series.Series {
	t.Helper()
	r, e := recur.Read(s)
	if e != api.OK {
		t.Fatalf("rule %q: %v", s, e)
	}
	return series.Series{Start: start, Length: length, Repeats: true, Rule: r}
}

// once is a series of one time.
func once(start, length int64) series.Series { return series.Series{Start: start, Length: length} }

func of(t testing.TB, l []series.Series, kinds []int, from, to int64, want ...Span) {
	t.Helper()
	if got, e := Of(l, kinds, from, to); !slices.Equal(got, want) || e != api.OK {
		t.Errorf("Of(%v, %v, %d, %d): %v %v, not %v", l, kinds, from, to, got, e, want)
	}
}

func noOf(t testing.TB, l []series.Series, kinds []int, from, to int64, code api.Errno) {
	t.Helper()
	if got, e := Of(l, kinds, from, to); len(got) > 0 || e != code {
		t.Errorf("Of(%v, %v, %d, %d): %v %v, not %v", l, kinds, from, to, got, e, code)
	}
}

func TestOf(t *testing.T) { // P24.3
	of(t, nil, nil, 0, 1)
	daily, trip := often(t, day, 3600, "FREQ=DAILY"), once(2*day+1800, day)
	l, kinds := []series.Series{daily, trip}, []int{Tentative, Away}
	of(t, l, kinds, 0, 4*day,
		Span{day, day + 3600, Tentative},
		Span{2 * day, 2*day + 1800, Tentative}, Span{2*day + 1800, 3*day + 1800, Away}, Span{3*day + 1800, 3*day + 3600, Tentative})
	// The greatest Kind, whichever series comes first.
	of(t, []series.Series{trip, daily}, []int{Away, Tentative}, 3*day, 3*day+3600, Span{3 * day, 3*day + 1800, Away}, Span{3*day + 1800, 3*day + 3600, Tentative})
	of(t, l, []int{Away, Busy}, 3*day, 3*day+5000, Span{3 * day, 3*day + 3600, Away})
	of(t, l, []int{Busy, Tentative}, 3*day, 3*day+5000, Span{3 * day, 3*day + 3600, Busy})
	// Clipped at both ends.
	of(t, l, kinds, day+5, day+6, Span{day + 5, day + 6, Tentative})
	of(t, l, kinds, day+3600, 2*day)
	// What has no length has no moment.
	of(t, []series.Series{once(5, 0), once(7, 1)}, []int{Away, Busy}, 0, 9, Span{7, 8, Busy})
	// What is cancelled is not there, what is changed is elsewhere.
	daily.Changes = []series.Change{{Original: 2 * day, Cancelled: true}, {Original: 3 * day, Start: 9, Length: 5}}
	of(t, []series.Series{daily}, []int{Busy}, 0, 4*day, Span{9, 14, Busy}, Span{day, day + 3600, Busy})
	// One series may have two at a time.
	of(t, []series.Series{{Start: 10, Length: 10, More: []int64{15, 25}}}, []int{Busy}, 0, 50, Span{10, 35, Busy})
	same := slices.Repeat([]series.Series{once(5, 9)}, 64)
	of(t, same, slices.Repeat([]int{Away}, 64), 0, 99, Span{5, 14, Away})
}

func TestOfErrors(t *testing.T) { // P24.3
	one, wrong := once(5, 9), once(-1, 9)
	for _, w := range [][2]int64{{5, 5}, {6, 5}, {-1, 5}, {5, last + 1}, {math.MinInt64, math.MaxInt64}, {math.MaxInt64, math.MinInt64}} {
		noOf(t, []series.Series{one}, []int{Busy}, w[0], w[1], api.ErrArg)
		noOf(t, nil, nil, w[0], w[1], api.ErrArg)
		noOf(t, []series.Series{wrong}, []int{Busy}, w[0], w[1], api.ErrArg)
	}
	noOf(t, []series.Series{one}, nil, 0, 9, api.ErrArg)
	noOf(t, nil, []int{Busy}, 0, 9, api.ErrArg)
	noOf(t, []series.Series{wrong, one}, []int{Busy}, 0, 9, api.ErrArg)
	noOf(t, []series.Series{one}, []int{Busy, Busy}, 0, 9, api.ErrArg)
	for _, kind := range []int{0, 4, -1, math.MinInt, math.MaxInt} {
		noOf(t, []series.Series{wrong, one}, []int{Busy, kind}, 0, 9, api.ErrArg)
	}
	noOf(t, slices.Repeat([]series.Series{one}, 65), slices.Repeat([]int{Away}, 65), 0, 99, api.ErrArg)
	// The first one's error.
	daily := often(t, 0, 9, "FREQ=DAILY")
	three := []int{Busy, Busy, Busy}
	noOf(t, []series.Series{one, wrong, daily}, three, 0, 1000*day, api.ErrForm)
	noOf(t, []series.Series{one, daily, wrong}, three, 0, 1000*day, api.ErrFull)
	noOf(t, []series.Series{one, daily, wrong}, three, 0, 7275*day, api.ErrFull)
	noOf(t, []series.Series{once(0, 9), daily, wrong}, three, 0, 7275*day+1, api.ErrArg)
	noOf(t, []series.Series{wrong, daily, once(0, 9)}, three, 0, 7275*day+1, api.ErrForm)
	// Instances' errors go ahead of Spread's.
	end := once(last-5, 9)
	noOf(t, []series.Series{end, wrong}, []int{Busy, Busy}, last-9, last, api.ErrForm)
	noOf(t, []series.Series{end, once(0, 9)}, []int{Busy, Busy}, last-9, last, api.ErrArg)
}

func TestOfSpreadErrors(t *testing.T) { // P24.3: Spread's errors, of the instances that are not clipped
	// What ends behind the end of time is no span.
	of(t, []series.Series{once(last-5, 5)}, []int{Busy}, last-9, last, Span{last - 5, last, Busy})
	noOf(t, []series.Series{once(last-5, 6)}, []int{Busy}, last-9, last, api.ErrForm)
	of(t, []series.Series{once(last-5, 6)}, []int{Busy}, last-9, last-5)
	// More than 4096 instances, of more than one series.
	l := slices.Repeat([]series.Series{often(t, 0, 9, "FREQ=DAILY;COUNT=512")}, 8)
	kinds := slices.Repeat([]int{Busy}, 9)
	if got, e := Of(l, kinds[:8], 0, 600*day); len(got) != 512 || e != api.OK {
		t.Errorf("Of: %d %v", len(got), e)
	}
	noOf(t, append(l, once(0, 9)), kinds, 0, 600*day, api.ErrLong)
	if got, e := Of(append(l, once(0, 0)), kinds, 0, 600*day); len(got) != 512 || e != api.OK {
		t.Errorf("Of: %d %v", len(got), e)
	}
	noOf(t, append(l, once(last-5, 9)), kinds, last-9, last, api.ErrArg)
	// More than 1024 spans.
	l = []series.Series{often(t, 50, 9, "FREQ=DAILY;COUNT=512"), often(t, 100, 9, "FREQ=DAILY;COUNT=511"), once(0, 20), once(5, 20)}
	kinds = []int{Busy, Busy, Tentative, Busy}
	if got, e := Of(l[:3], kinds[:3], 10, 600*day); len(got) != 1024 || e != api.OK || got[0] != (Span{10, 20, Tentative}) {
		t.Errorf("Of: %d %v", len(got), e)
	}
	// Clipped they would be no more than that.
	noOf(t, l, kinds, 10, 600*day, api.ErrFull)
	if got, e := Of(l[:4], []int{Busy, Busy, Busy, Busy}, 10, 600*day); len(got) != 1024 || e != api.OK || got[0] != (Span{10, 25, Busy}) {
		t.Errorf("Of: %d %v", len(got), e)
	}
}

func TestOfAsSlowly(t *testing.T) { // P24.3, P24.6
	g := rand.New(rand.NewSource(3))
	for range 20000 {
		var l []series.Series
		var kinds []int
		for range g.Intn(4) {
			s := once(g.Int63n(40), g.Int63n(12))
			for n := s.Start; g.Intn(3) > 0; {
				n += 1 + g.Int63n(9)
				s.More = append(s.More, n)
				switch g.Intn(5) {
				case 0:
					s.Changes = append(s.Changes, series.Change{Original: n, Cancelled: true})
				case 1:
					s.Changes = append(s.Changes, series.Change{Original: n, Start: g.Int63n(50), Length: g.Int63n(9)})
				}
			}
			l, kinds = append(l, s), append(kinds, 1+g.Intn(3))
		}
		from := g.Int63n(40)
		to := from + 1 + g.Int63n(30)
		var all []Span
		for i, s := range l {
			instances, _ := series.Instances(s, 0, 10000)
			for _, is := range instances {
				all = append(all, Span{is.Start, is.End, kinds[i]})
			}
		}
		of(t, l, kinds, from, to, slowSpans(from, to, func(m int64) int { return slowKind(all, m) })...)
	}
}

// TestFreeOfSeries: what is free for an hour clashes with no instance of any series.
func TestFreeOfSeries(t *testing.T) { // P5, P24.7
	l := []series.Series{often(t, 9*3600, 7200, "FREQ=WEEKLY;BYDAY=MO,WE,FR"), often(t, 10*3600+1800, 5400, "FREQ=DAILY;INTERVAL=2"), often(t, 0, 3*day, "FREQ=MONTHLY;BYMONTHDAY=13")}
	spans, e := Of(l, []int{Busy, Tentative, Away}, 0, 100*day)
	if e != api.OK {
		t.Fatal(e)
	}
	free, e := Free(spans, 0, 100*day, 3600)
	if e != api.OK || len(free) < 40 {
		t.Fatalf("Free: %v %v", free, e)
	}
	for _, f := range free {
		clashes(t, spans, f.From, f.To, false)
		for _, s := range []series.Series{l[0], l[2]} {
			if in, e := series.Instances(s, f.From, f.To); len(in) > 0 || e != api.OK {
				t.Errorf("%v: %v %v", f, in, e)
			}
		}
	}
}

// calendar is a calendar of such lines, each a name, perhaps FBTYPE's Value behind a ;, and a Value behind a blank.
func calendar(l ...string) api.Comp {
	c := api.Comp{Name: "VFREEBUSY"}
	for _, s := range l {
		name, value, _ := strings.Cut(s, " ")
		name, kind, has := strings.Cut(name, ";")
		line := api.Line{Name: name, Value: value}
		if has {
			line.Params = []api.Param{{Name: "FBTYPE", Value: kind}}
		}
		c.Lines = append(c.Lines, line)
	}
	return c
}

// stamp is how a time is written, by the library.
func stamp(n int64) string { return time.Unix(n, 0).UTC().Format("20060102T150405Z") }

// at is a span's Value.
func at(from, to int64) string { return stamp(from) + "/" + stamp(to) }

// head is the lines that a calendar begins with.
func head(person string, from, to int64) []string {
	return []string{"DTSTART " + stamp(from), "DTEND " + stamp(to), "ATTENDEE mailto:" + person}
}

func sameLine(a, b api.Line) bool {
	return a.Name == b.Name && a.Value == b.Value && slices.Equal(a.Params, b.Params)
}

func sameComp(a, b api.Comp) bool {
	return a.Name == b.Name && slices.EqualFunc(a.Lines, b.Lines, sameLine) && slices.EqualFunc(a.Comps, b.Comps, sameComp)
}

// writes asks for a calendar, and reads it again.
func writes(t testing.TB, person string, from, to int64, l []Span, want api.Comp) {
	t.Helper()
	c, e := Write(person, from, to, l)
	if !sameComp(c, want) || e != api.OK {
		t.Errorf("Write(%q, %d, %d, %v): %v %v, not %v", person, from, to, l, c, e, want)
	}
	reads(t, c, person, from, to, l...)
}

func noWrite(t testing.TB, person string, from, to int64, l []Span) {
	t.Helper()
	if c, e := Write(person, from, to, l); !sameComp(c, api.Comp{}) || e != api.ErrForm {
		t.Errorf("Write(%q, %d, %d, %v): %v %v", person, from, to, l, c, e)
	}
}

func reads(t testing.TB, c api.Comp, person string, from, to int64, want ...Span) {
	t.Helper()
	who, a, b, l, e := Read(c)
	if who != person || a != from || b != to || !slices.Equal(l, want) || e != api.OK {
		t.Errorf("Read(%v): %q %d %d %v %v, not %q %d %d %v", c, who, a, b, l, e, person, from, to, want)
	}
}

func noRead(t testing.TB, c api.Comp) {
	t.Helper()
	if who, a, b, l, e := Read(c); who != "" || a != 0 || b != 0 || len(l) > 0 || e != api.ErrForm {
		t.Errorf("Read(%v): %q %d %d %v %v", c, who, a, b, l, e)
	}
}

func TestWrite(t *testing.T) { // P24.4
	writes(t, "a@b.org", 0, 1, nil, calendar(head("a@b.org", 0, 1)...))
	l := []Span{{10, 20, Busy}, {20, 30, Tentative}, {40, 50, Away}}
	spans := []string{"FREEBUSY;BUSY " + at(10, 20), "FREEBUSY;BUSY-TENTATIVE " + at(20, 30), "FREEBUSY;BUSY-UNAVAILABLE " + at(40, 50)}
	for _, w := range [][2]int64{{0, 60}, {10, 50}, {0, last}, {10, 51}, {9, 50}} {
		writes(t, "a@b.org", w[0], w[1], l, calendar(append(head("a@b.org", w[0], w[1]), spans...)...))
	}
	writes(t, "a@b.org", 0, last, []Span{{0, last, Away}}, calendar(append(head("a@b.org", 0, last), "FREEBUSY;BUSY-UNAVAILABLE 19700101T000000Z/99991231T235959Z")...))
	if c, e := Write("a@b.org", 0, 2048, row(1024)); len(c.Lines) != 1027 || e != api.OK {
		t.Errorf("Write: %d %v", len(c.Lines), e)
	}
}

func TestNoWrite(t *testing.T) { // P24.4
	l := []Span{{10, 20, Busy}, {20, 30, Tentative}}
	for _, person := range []string{"", "a", "A@b.org", "a@B.org", "mailto:a@b.org", "x <a@b.org>", "<a@b.org>", "a@b.org ", " a@b.org", "a@b..org", "a@b\r\n", "a b@c", "a@b,c@d", strings.Repeat("a", 300) + "@b"} {
		noWrite(t, person, 0, 60, l)
	}
	for _, w := range [][2]int64{{5, 5}, {60, 0}, {-1, 60}, {0, last + 1}, {math.MinInt64, math.MaxInt64}} {
		noWrite(t, "a@b.org", w[0], w[1], l)
		noWrite(t, "a@b.org", w[0], w[1], nil)
	}
	for _, w := range [][2]int64{{11, 30}, {10, 29}, {10, 20}, {20, 30}, {0, 5}, {40, 60}, {12, 15}} {
		noWrite(t, "a@b.org", w[0], w[1], l)
	}
}

func TestRead(t *testing.T) { // P24.4
	spans := []Span{{10, 20, Busy}, {20, 30, Tentative}, {40, 50, Away}}
	lines := append(head("a@b.org", 5, 60), "FREEBUSY;BUSY "+at(10, 20), "FREEBUSY;BUSY-TENTATIVE "+at(20, 30), "FREEBUSY;BUSY-UNAVAILABLE "+at(40, 50))
	reads(t, calendar(lines...), "a@b.org", 5, 60, spans...)
	// In any order, but that of the spans, with other lines and components beside.
	g := rand.New(rand.NewSource(4))
	for range 500 {
		place := g.Perm(len(lines) + 2)
		all := append(slices.Clone(lines), "UID x", "DTSTAMP "+at(1, 2))
		own := []int{slices.Index(place, 3), slices.Index(place, 4), slices.Index(place, 5)}
		slices.Sort(own)
		mixed := make([]string, len(all))
		for i, p := range place {
			if p < 3 || p > 5 {
				mixed[i] = all[p]
			}
		}
		for i, p := range own {
			mixed[p] = lines[3+i]
		}
		c := calendar(mixed...)
		c.Comps = []api.Comp{calendar(lines...), {Name: "VALARM"}}
		reads(t, c, "a@b.org", 5, 60, spans...)
	}
	// The person as Person reads it.
	for _, value := range []string{"MAILTO:A@B.org", "mailto:a@b.org", "Mailto:A@b.ORG"} {
		reads(t, calendar("ATTENDEE "+value, "DTSTART "+stamp(0), "DTEND "+stamp(9)), "a@b.org", 0, 9)
	}
}

func TestReadKinds(t *testing.T) { // P24.4
	for value, kind := range map[string]int{
		"BUSY": Busy, "busy": Busy, "BUSY-TENTATIVE": Tentative, "busy-tentative": Tentative, "BUSY-UNAVAILABLE": Away, "busy-unavailable": Away,
		"FREE": Busy, "free": Busy, "": Busy, "X-AWAY": Busy, "BUSY-": Busy, "BUSY-TENTATIV": Busy, "BUSY-UNAVAILABLE ": Busy, "\xff": Busy, "TENTATIVE": Busy,
		// These have no letters that are small ones of A to Z.
		"bu\u017fy-tentative": Busy, "BUSY-TENTAT\u0131VE": Busy,
	} {
		c := calendar(append(head("a@b", 0, 9), "FREEBUSY "+at(2, 3))...)
		c.Lines[3].Params = []api.Param{{Name: "FBTYPE", Value: value}}
		reads(t, c, "a@b", 0, 9, Span{2, 3, kind})
	}
	c := calendar(append(head("a@b", 0, 9), "FREEBUSY "+at(2, 3))...)
	reads(t, c, "a@b", 0, 9, Span{2, 3, Busy})
	c.Lines[3].Params = []api.Param{{Name: "X", Value: "BUSY-TENTATIVE"}, {Name: "FBTYPE", Value: "BUSY-UNAVAILABLE"}}
	reads(t, c, "a@b", 0, 9, Span{2, 3, Away})
	c.Lines[3].Params = []api.Param{{Name: "fbtype", Value: "BUSY-TENTATIVE"}, {Name: "FBTYPES", Value: "BUSY-UNAVAILABLE"}}
	reads(t, c, "a@b", 0, 9, Span{2, 3, Busy})
	// Side by side they must be of other Kinds.
	reads(t, calendar(append(head("a@b", 0, 9), "FREEBUSY;FREE "+at(2, 3), "FREEBUSY;BUSY-TENTATIVE "+at(3, 4))...), "a@b", 0, 9, Span{2, 3, Busy}, Span{3, 4, Tentative})
	noRead(t, calendar(append(head("a@b", 0, 9), "FREEBUSY;FREE "+at(2, 3), "FREEBUSY "+at(3, 4))...))
}

func TestWrongCalendars(t *testing.T) { // P24.4
	lines := append(head("a@b.org", 5, 60), "FREEBUSY;BUSY "+at(10, 20), "FREEBUSY;BUSY-TENTATIVE "+at(20, 30))
	noRead(t, api.Comp{})
	noRead(t, calendar())
	// Each line that must be there once is there once.
	for i := range 3 {
		noRead(t, calendar(slices.Delete(slices.Clone(lines), i, i+1)...))
		noRead(t, calendar(append(slices.Clone(lines), lines[i])...))
		noRead(t, calendar(append(slices.Clone(lines), strings.Fields(lines[i])[0]+" x")...))
	}
	for _, name := range []string{"", "VEVENT", "vfreebusy", "VFREEBUSY ", "VCALENDAR"} {
		c := calendar(lines...)
		c.Name = name
		noRead(t, c)
		noRead(t, api.Comp{Name: name, Comps: []api.Comp{calendar(lines...)}})
	}
	change := func(i int, line string) {
		t.Helper()
		l := slices.Clone(lines)
		l[i] = line
		noRead(t, calendar(l...))
	}
	for i, name := range []string{"DTSTART", "DTEND"} {
		for _, value := range []string{"", "x", "19700101T000005", "19700101T000005z", "19700101", "19690101T000005Z", "19700101T000005Z ", "19700230T000005Z", "5", "PT5S"} {
			change(i, name+" "+value)
		}
		change(i, strings.ToLower(name)+" "+stamp(5))
	}
	change(0, "DTSTART "+stamp(60))
	change(0, "DTSTART "+stamp(61))
	change(1, "DTEND "+stamp(5))
	// All of a span is within.
	change(0, "DTSTART "+stamp(11))
	change(1, "DTEND "+stamp(29))
	for _, value := range []string{"", "a@b.org", "mailto:", "mailto:x", "mailto: a@b.org", "mailto:x <a@b.org>", "http:a@b.org", "mailto;a@b.org"} {
		change(2, "ATTENDEE "+value)
	}
	change(2, "attendee mailto:a@b.org")
	for _, value := range []string{
		"", "/", stamp(10), stamp(10) + "/", "/" + stamp(20), stamp(10) + stamp(20), stamp(10) + "//" + stamp(20), stamp(10) + "/PT10S", stamp(10) + " /" + stamp(20),
		at(10, 20) + "/", at(10, 20) + "," + at(20, 30), at(10, 20) + " ", at(10, 10), at(20, 10), at(10, 21), at(30, 40), at(1, 4), at(61, 62), at(5, 61), stamp(10) + "-" + stamp(20), strings.ToLower(at(10, 20)), "x/y",
	} {
		change(3, "FREEBUSY;BUSY "+value)
	}
	// What can't be read is not the first time.
	for _, value := range []string{"/" + stamp(20), "x/" + stamp(20), stamp(5)[:15] + "/" + stamp(20)} {
		noRead(t, calendar(append(head("a@b.org", 0, 60), "FREEBUSY "+value)...))
	}
	change(3, "FREEBUSY;BUSY-TENTATIVE "+at(10, 20))
	change(4, "FREEBUSY;BUSY "+at(20, 30))
	change(4, "FREEBUSY;BUSY "+at(10, 20))
	change(4, "FREEBUSY;AWAY "+at(20, 30))
	noRead(t, calendar(append(slices.Clone(lines), "FREEBUSY "+at(6, 7))...))
	noRead(t, calendar(append(slices.Clone(lines), "FREEBUSY x")...))
	// A line more than a row may have.
	full := head("a@b", 0, 5000)
	for _, s := range row(1025) {
		full = append(full, "FREEBUSY "+at(s.From, s.To))
	}
	noRead(t, calendar(full...))
	reads(t, calendar(full[:len(full)-1]...), "a@b", 0, 5000, row(1024)...)
}

func TestThereAndBack(t *testing.T) { // P24.8, P2
	g := rand.New(rand.NewSource(5))
	for range 5000 {
		base := g.Int63n(last - 100)
		l, e := Spread(someSpans(g))
		for i := range l {
			l[i].From += base
			l[i].To += base
		}
		from, to := base-g.Int63n(min(base, 5)+1), base+60+g.Int63n(5)
		c, f := Write("a.b+c@x.y", from, to, l)
		if e != api.OK || f != api.OK {
			t.Fatalf("Write(%d, %d, %v): %v", from, to, l, f)
		}
		reads(t, c, "a.b+c@x.y", from, to, l...)
		b, e := tree.Write(c)
		again, f := tree.Read(b)
		if e != api.OK || f != api.OK {
			t.Fatalf("as bytes: %v %v", e, f)
		}
		reads(t, again, "a.b+c@x.y", from, to, l...)
	}
	c, _ := Write("a@b", 0, 2048, row(1024))
	b, e := tree.Write(c)
	again, f := tree.Read(b)
	if e != api.OK || f != api.OK {
		t.Fatalf("as bytes: %v %v", e, f)
	}
	reads(t, again, "a@b", 0, 2048, row(1024)...)
}

func TestArgumentsStay(t *testing.T) { // rules 4 and 5
	whole := []Span{{10, 20, Busy}, {20, 30, Away}, {5, 99, Tentative}, {5, 5, 5}}
	kept := slices.Clone(whole)
	l := whole[:2]
	out, _ := Spread(l)
	mixed, _ := Spread(whole[:3])
	clipped, _ := Clip(l, 0, 50)
	free, _ := Free(l, 0, 50, 1)
	Clash(l, 0, 50)
	c, _ := Write("a@b", 0, 50, l)
	_, _, _, read, _ := Read(c)
	s := []series.Series{once(10, 5), once(30, 5), once(12, 20)}
	kinds := []int{Busy, Away, Tentative}
	made, _ := Of(s[:2], kinds[:2], 0, 50)
	if len(out) != 2 || len(mixed) != 4 || len(clipped) != 2 || len(free) != 2 || len(read) != 2 || len(made) != 2 {
		t.Fatalf("%v %v %v %v %v %v", out, mixed, clipped, free, read, made)
	}
	for _, got := range [][]Span{out, mixed, clipped, free, read, made} {
		clear(got)
	}
	if !slices.Equal(whole, kept) || s[2].Start != 12 || kinds[2] != Tentative {
		t.Errorf("changed: %v", whole)
	}
	// What is handed out is not kept, nor what is handed in.
	before, _ := Write("a@b", 0, 50, l)
	c.Lines[3].Params[0].Value = "x"
	clear(c.Lines)
	if again, _ := Write("a@b", 0, 50, l); !sameComp(again, before) {
		t.Errorf("Write: %v, not %v", again, before)
	}
	_, _, _, read, _ = Read(before)
	clear(read)
	reads(t, before, "a@b", 0, 50, l...)
	// Lists without elements may be nil or empty.
	writes(t, "a@b", 0, 50, []Span{}, calendar(head("a@b", 0, 50)...))
	of(t, []series.Series{}, []int{}, 0, 1)
	of(t, nil, []int{}, 0, 1)
}

func TestNeverPanics(t *testing.T) { // P1
	g := rand.New(rand.NewSource(6))
	numbers := []int64{math.MinInt64, -last, -1, 0, 1, 2, 3, 4, 50, day, last - 1, last, last + 1, math.MaxInt64 - 1, math.MaxInt64}
	pick := func() int64 { return numbers[g.Intn(len(numbers))] }
	for range 100000 {
		l := someSpans(g)
		for range g.Intn(3) {
			l = append(l, Span{pick(), pick(), int(pick())})
		}
		right := Right(l)
		if out, e := Spread(l); e == api.OK && !Right(out) || right && e != api.OK || e != api.OK && len(out) > 0 {
			t.Fatalf("Spread(%v): %v %v", l, out, e)
		}
		from, to := pick(), pick()
		if out, e := Clip(l, from, to); (e == api.ErrForm) == right || e != api.OK && len(out) > 0 {
			t.Fatalf("Clip(%v, %d, %d): %v %v", l, from, to, out, e)
		}
		if out, e := Free(l, from, to, pick()); (e == api.ErrForm) == right || e != api.OK && len(out) > 0 {
			t.Fatalf("Free(%v, %d, %d): %v %v", l, from, to, out, e)
		}
		if clash, e := Clash(l, from, to); (e == api.ErrForm) == right || e != api.OK && clash {
			t.Fatalf("Clash(%v, %d, %d): %v %v", l, from, to, clash, e)
		}
		if c, e := Write("a@b", from, to, l); e == api.OK {
			reads(t, c, "a@b", from, to, l...)
		} else if !sameComp(c, api.Comp{}) {
			t.Fatalf("Write(%d, %d, %v): %v %v", from, to, l, c, e)
		}
		s := once(pick(), pick())
		s.More = []int64{pick(), pick()}
		if out, e := Of([]series.Series{s, once(3, 9)}, []int{Busy, int(pick())}, from, to); e != api.OK && len(out) > 0 {
			t.Fatalf("Of(%v, %d, %d): %v %v", s, from, to, out, e)
		}
	}
	// Hand-made lines with anything in them, and a component that stands in itself.
	texts := []string{"", "VFREEBUSY", "DTSTART", "DTEND", "ATTENDEE", "FREEBUSY", "FBTYPE", "mailto:a@b", stamp(5), stamp(9), at(5, 9), "/", "\x00", "\xff", strings.Repeat("/", 5000)}
	text := func() string { return texts[g.Intn(len(texts))] }
	for range 50000 {
		c := api.Comp{Name: "VFREEBUSY", Comps: make([]api.Comp, 1)}
		c.Comps[0] = c
		for range g.Intn(7) {
			c.Lines = append(c.Lines, api.Line{Name: text(), Value: text(), Params: []api.Param{{Name: text(), Value: text()}}})
		}
		if who, a, b, l, e := Read(c); e == api.OK {
			c, e := Write(who, a, b, l)
			if e != api.OK {
				t.Fatalf("Write(%q, %d, %d, %v): %v", who, a, b, l, e)
			}
			reads(t, c, who, a, b, l...)
		}
	}
}
