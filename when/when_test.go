package when

import (
	"math"
	"math/big"
	"math/rand"
	"regexp"
	"strconv"
	"strings"
	"testing"
	"time"

	"posthorn/api"
)

const (
	last   = 253402300799
	most   = int64(1) << 40
	layout = "20060102T150405Z"
)

// allTexts calls see with each text of at most n pieces of those given.
func allTexts(from []string, n int, see func(s string)) {
	var grow func(s string, n int)
	grow = func(s string, n int) {
		see(s)
		for i := 0; i < len(from) && n > 0; i++ {
			grow(s+from[i], n-1)
		}
	}
	grow("", n)
}

// someText is a text of n pieces of those given.
func someText(r *rand.Rand, from []string, n int) string {
	var s strings.Builder
	for range n {
		s.WriteString(from[r.Intn(len(from))])
	}
	return s.String()
}

func TestRight(t *testing.T) { // P12.1
	for n, want := range map[int64]bool{0: true, 1: true, last: true, last - 1: true, -1: false, last + 1: false, math.MinInt64: false, math.MaxInt64: false, -last: false, 1 << 37: true, 1 << 38: false} {
		if Right(n) != want {
			t.Errorf("Right(%d): not %v", n, want)
		}
	}
}

// TestEveryDay goes through all days by a calendar of its own, and by the library's.
func TestEveryDay(t *testing.T) { // P12.1, P12.4, P12.5
	long := []int{31, 28, 31, 30, 31, 30, 31, 31, 30, 31, 30, 31}
	days := int64(0)
	for y := 1970; y <= 9999; y++ {
		for m := 1; m <= 12; m++ {
			n := long[m-1]
			if m == 2 && (y%400 == 0 || y%4 == 0 && y%100 != 0) {
				n++
			}
			for d := 1; d <= n; d++ {
				if got, e := Days(y, m, d); got != days || e != api.OK {
					t.Fatalf("Days(%d, %d, %d): %d %v, not %d", y, m, d, got, e, days)
				}
				if a, b, c, e := Civil(days); a != y || b != m || c != d || e != api.OK {
					t.Fatalf("Civil(%d): %d %d %d %v, not %d %d %d", days, a, b, c, e, y, m, d)
				}
				days++
			}
			for _, d := range []int{-1, 0, n + 1, 32, -n, 100, math.MinInt, math.MaxInt} {
				if got, e := Days(y, m, d); got != 0 || e != api.ErrWhen {
					t.Fatalf("Days(%d, %d, %d): %d %v", y, m, d, got, e)
				}
			}
		}
		if at := time.Unix(days*86400, 0).UTC(); at.Year() != y+1 || at.YearDay() != 1 {
			t.Fatalf("%d days lie ahead of %v", days, at)
		}
	}
	if days != 2932897 {
		t.Errorf("there are %d days", days)
	}
}

func TestDaysEdges(t *testing.T) { // P12.1
	for _, c := range []struct {
		y, m, d int
		want    int64
	}{
		{1970, 1, 1, 0}, {1970, 1, 2, 1}, {1970, 12, 31, 364}, {1971, 1, 1, 365}, {1972, 2, 29, 789}, {1972, 3, 1, 790},
		{2000, 2, 29, 11016}, {2000, 3, 1, 11017}, {2023, 2, 28, 19416}, {2023, 3, 1, 19417}, {2024, 2, 29, 19782},
		{2100, 2, 28, 47540}, {2100, 3, 1, 47541}, {2400, 2, 29, 157113}, {9999, 12, 31, 2932896},
	} {
		if got, e := Days(c.y, c.m, c.d); got != c.want || e != api.OK {
			t.Errorf("Days(%d, %d, %d): %d %v", c.y, c.m, c.d, got, e)
		}
		if y, m, d, e := Civil(c.want); y != c.y || m != c.m || d != c.d || e != api.OK {
			t.Errorf("Civil(%d): %d %d %d %v", c.want, y, m, d, e)
		}
	}
	for _, c := range [][3]int{
		{1969, 12, 31}, {10000, 1, 1}, {0, 1, 1}, {-1970, 1, 1}, {70, 1, 1}, {2023, 2, 29}, {2100, 2, 29}, {2200, 2, 29}, {2024, 2, 30}, {2000, 2, 30},
		{2024, 0, 1}, {2024, 13, 1}, {2024, -1, 1}, {2024, 4, 31}, {2024, 6, 31}, {2024, 9, 31}, {2024, 11, 31}, {2024, 1, 32}, {2024, 12, 32}, {2024, 1, 0}, {2024, 1, -1},
		{math.MinInt, 1, 1}, {math.MaxInt, 1, 1}, {2024, math.MinInt, 1}, {2024, math.MaxInt, 1}, {2024, 1, math.MinInt}, {2024, 1, math.MaxInt}, {math.MaxInt, math.MaxInt, math.MaxInt}, {math.MinInt, math.MinInt, math.MinInt}, {0, 0, 0},
		{2024, 1, 1 + 1<<32}, {2024, 1 + 1<<32, 1}, {2024 + 1<<32, 1, 1},
	} {
		if got, e := Days(c[0], c[1], c[2]); got != 0 || e != api.ErrWhen {
			t.Errorf("Days(%d): %d %v", c, got, e)
		}
	}
	for _, n := range []int64{-1, -2, -365, 2932897, 2932898, 1 << 32, 1 << 40, math.MinInt64, math.MaxInt64} {
		if y, m, d, e := Civil(n); y != 0 || m != 0 || d != 0 || e != api.ErrWhen {
			t.Errorf("Civil(%d): %d %d %d %v", n, y, m, d, e)
		}
	}
}

// checkTime holds Print and Parse of a time against the library.
func checkTime(t *testing.T, n int64) {
	t.Helper()
	want := time.Unix(n, 0).UTC().Format(layout)
	if s, e := Print(n); s != want || e != api.OK {
		t.Fatalf("Print(%d): %q %v, not %q", n, s, e, want)
	}
	if back, e := Parse(want); back != n || e != api.OK {
		t.Fatalf("Parse(%q): %d %v, not %d", want, back, e, n)
	}
}

func TestTimes(t *testing.T) { // P12.2, P12.4
	for n := range int64(86400) {
		checkTime(t, n)
		checkTime(t, 19782*86400+n)
		checkTime(t, last-n)
	}
	for days := int64(0); days <= 2932896; days += 7 {
		checkTime(t, days*86400)
		checkTime(t, days*86400+86399)
	}
	r := rand.New(rand.NewSource(1))
	for range 100000 {
		checkTime(t, r.Int63n(last+1))
	}
	for n, want := range map[int64]string{0: "19700101T000000Z", 1709164800: "20240229T000000Z", last: "99991231T235959Z", 1: "19700101T000001Z", 86399: "19700101T235959Z", 86400: "19700102T000000Z", 951782400: "20000229T000000Z", 1234567890: "20090213T233130Z"} {
		if s, e := Print(n); s != want || e != api.OK {
			t.Errorf("Print(%d): %q %v", n, s, e)
		}
		if back, e := Parse(want); back != n || e != api.OK {
			t.Errorf("Parse(%q): %d %v", want, back, e)
		}
	}
	for _, n := range []int64{-1, last + 1, -86400, math.MinInt64, math.MaxInt64, -last} {
		if s, e := Print(n); s != "" || e != api.ErrWhen {
			t.Errorf("Print(%d): %q %v", n, s, e)
		}
	}
}

func TestOrderOfTexts(t *testing.T) { // P12.5
	r := rand.New(rand.NewSource(2))
	for range 100000 {
		a := r.Int63n(last + 1)
		b := r.Int63n(last + 1)
		if r.Intn(2) == 0 {
			b = min(last, a+r.Int63n(100000))
		}
		s, _ := Print(a)
		u, _ := Print(b)
		if (a < b) != (s < u) || (a == b) != (s == u) {
			t.Fatalf("%d and %d are written %q and %q", a, b, s, u)
		}
	}
	before := ""
	for n := range int64(100000) {
		s, _ := Print(n + 951782400 - 50000)
		if s <= before {
			t.Fatalf("%q stands behind %q", s, before)
		}
		before = s
	}
}

var timePattern = regexp.MustCompile(`\A(\d{4})(\d{2})(\d{2})T(\d{2})(\d{2})(\d{2})Z\z`)

// slowParse is what Parse must answer, by the pattern and the library.
func slowParse(s string) (int64, api.Errno) {
	m := timePattern.FindStringSubmatch(s)
	if m == nil {
		return 0, api.ErrWhen
	}
	var n [6]int
	for i := range n {
		n[i], _ = strconv.Atoi(m[i+1])
	}
	at := time.Date(n[0], time.Month(n[1]), n[2], n[3], n[4], n[5], 0, time.UTC)
	// What is no day or no clock is another one in the library.
	if at.Format(layout) != s || at.Unix() < 0 {
		return 0, api.ErrWhen
	}
	return at.Unix(), api.OK
}

func checkParse(t *testing.T, s string) {
	t.Helper()
	want, code := slowParse(s)
	if n, e := Parse(s); n != want || e != code {
		t.Fatalf("Parse(%q): %d %v, not %d %v", s, n, e, want, code)
	}
}

func TestParseEveryNumber(t *testing.T) { // P12.2
	two := func(n int) string { return strconv.Itoa(n + 100)[1:] }
	for n := range 100 {
		for _, day := range []string{"2024", "2023", "1970", "1969", "9999", "0000", "2000", "2100"} {
			for m := range 14 {
				checkParse(t, day+two(m)+two(n)+"T000000Z")
			}
			checkParse(t, day+two(n)+"01T000000Z")
			checkParse(t, day+"0228T"+two(n)+"0000Z")
			checkParse(t, day+"0228T23"+two(n)+"00Z")
			checkParse(t, day+"0228T2359"+two(n)+"Z")
		}
	}
	for n := range 10000 {
		checkParse(t, strconv.Itoa(n + 10000)[1:]+"0229T120000Z")
		checkParse(t, strconv.Itoa(n + 10000)[1:]+"1231T235959Z")
	}
}

func TestParseWrong(t *testing.T) { // P12.2
	for _, s := range []string{
		"", "Z", "T", "20240229T000000", "20240229T000000z", "20240229t000000Z", "20240229 000000Z", "20240229T000000Z ", " 20240229T000000Z",
		"20240229T000000ZZ", "20240229T0000000Z", "20240229T00000Z", "20240229T000000+", "2024-02-29T00:00:00Z", "20240229", "20240229Z", "20240229T240000Z",
		"20240229T006000Z", "20240229T000060Z", "20240229T235960Z", "19700101T000060Z", "20161231T235960Z", "19691231T235959Z", "99991232T000000Z", "99991231T240000Z",
		"20230229T000000Z", "21000229T000000Z", "20240230T000000Z", "20240001T000000Z", "20241301T000000Z", "20240100T000000Z",
		"+2024229T000000Z", "-0240229T000000Z", "2024+229T000000Z", "20240229T+00000Z", "20240229T-10000Z", "2024 229T000000Z", "20240229T0000 0Z", "20240229T00000_Z",
		"20240229T000000\x00", "\x0020240229T00000Z", "२०२४T000000Z", "20240229T00000é", "20240229T000000Z\x00", "20240229T000000Z\n", "2024022９T000Z", "0x240229T000000Z", "20240229T0.0000Z", "202402290T00000Z", "2024022T0000000Z",
	} {
		if n, e := Parse(s); n != 0 || e != api.ErrWhen {
			t.Errorf("Parse(%q): %d %v", s, n, e)
		}
	}
	r := rand.New(rand.NewSource(3))
	for _, s := range []string{"20240229T235959Z", "19700101T000000Z", "99991231T235959Z", "20091130T101112Z"} {
		for at := range len(s) {
			for c := range 256 {
				checkParse(t, s[:at]+string([]byte{byte(c)})+s[at+1:])
				checkParse(t, s[:at]+string([]byte{byte(c)})+s[at:])
			}
			checkParse(t, s[:at])
			checkParse(t, s[at:])
			checkParse(t, s[:at]+s[at+1:])
			checkParse(t, s[at:]+s[:at])
		}
		for range 20000 {
			b := []byte(s)
			for range 1 + r.Intn(4) {
				b[r.Intn(len(b))] = "0123456789TZ"[r.Intn(12)]
			}
			checkParse(t, string(b))
		}
	}
	if n, e := Parse(strings.Repeat("20240229T000000Z", 100000)); n != 0 || e != api.ErrWhen {
		t.Errorf("Parse of a long text: %d %v", n, e)
	}
}

// slowSpan is how a length is written, word by word as the document says it.
func slowSpan(n int64) string {
	s, size := "P", n
	if n < 0 {
		s, size = "-P", -n
	}
	if size != 0 && size%604800 == 0 {
		return s + strconv.FormatInt(size/604800, 10) + "W"
	}
	if size >= 86400 {
		s += strconv.FormatInt(size/86400, 10) + "D"
	}
	left := size % 86400
	if left == 0 && size != 0 {
		return s
	}
	h, m, c := strconv.FormatInt(left/3600, 10), strconv.FormatInt(left/60%60, 10), strconv.FormatInt(left%60, 10)
	switch has := [3]bool{h != "0", m != "0", c != "0"}; has {
	case [3]bool{true, false, false}:
		return s + "T" + h + "H"
	case [3]bool{true, true, false}:
		return s + "T" + h + "H" + m + "M"
	case [3]bool{true, true, true}, [3]bool{true, false, true}:
		return s + "T" + h + "H" + m + "M" + c + "S"
	case [3]bool{false, true, false}:
		return s + "T" + m + "M"
	case [3]bool{false, true, true}:
		return s + "T" + m + "M" + c + "S"
	}
	return s + "T" + c + "S"
}

// checkLength holds Span of a length against the slow writing, and reads it.
func checkLength(t *testing.T, n int64) {
	t.Helper()
	want := slowSpan(n)
	if s, e := Span(n); s != want || e != api.OK {
		t.Fatalf("Span(%d): %q %v, not %q", n, s, e, want)
	}
	if back, e := ParseSpan(want); back != n || e != api.OK {
		t.Fatalf("ParseSpan(%q): %d %v, not %d", want, back, e, n)
	}
}

func TestSpans(t *testing.T) { // P12.3, P12.4
	for n, want := range map[int64]string{
		0: "PT0S", 1: "PT1S", -1: "-PT1S", 59: "PT59S", 60: "PT1M", 61: "PT1M1S", 3599: "PT59M59S", 3600: "PT1H", 3601: "PT1H0M1S", 3660: "PT1H1M", 3661: "PT1H1M1S", -3601: "-PT1H0M1S",
		86399: "PT23H59M59S", 86400: "P1D", 86401: "P1DT1S", 86460: "P1DT1M", 90000: "P1DT1H", 90001: "P1DT1H0M1S", -93600: "-P1DT2H", 172800: "P2D",
		604799: "P6DT23H59M59S", 604800: "P1W", 604801: "P7DT1S", 691200: "P8D", 1209600: "P2W", -604800: "-P1W", 6048000: "P10W",
		most: "P12725829DT36M16S", -most: "-P12725829DT36M16S", most - 1: "P12725829DT36M15S", 604800 * 1817975: "P1817975W", 86400 * 12725829: "P12725829D",
	} {
		if s, e := Span(n); s != want || e != api.OK {
			t.Errorf("Span(%d): %q %v", n, s, e)
		}
		checkLength(t, n)
	}
	for n := range int64(100000) {
		checkLength(t, n)
		checkLength(t, -n)
		checkLength(t, most-n)
		checkLength(t, n-most)
		checkLength(t, 604800*7-50000+n)
	}
	r := rand.New(rand.NewSource(4))
	for range 100000 {
		n := r.Int63n(2*most+1) - most
		checkLength(t, n)
		for _, unit := range []int64{60, 3600, 86400, 604800} {
			checkLength(t, n/unit*unit)
			checkLength(t, n/unit*unit/2)
		}
	}
	for _, n := range []int64{most + 1, -most - 1, 1 << 41, -1 << 41, math.MaxInt64, math.MinInt64, math.MinInt64 + 1, 604800 * 1817976} {
		if s, e := Span(n); s != "" || e != api.ErrWhen {
			t.Errorf("Span(%d): %q %v", n, s, e)
		}
	}
}

// The document's words as a pattern: W, or D, or D and a time, or a time.
var (
	number      = `\d{1,10}`
	clockForm   = `T(?:` + strings.Join([]string{number + `H`, number + `M`, number + `S`, number + `H` + number + `M`, number + `M` + number + `S`, number + `H` + number + `M` + number + `S`}, "|") + `)`
	spanPattern = regexp.MustCompile(`\A[+-]?P(?:` + number + `W|` + number + `D|` + number + `D` + clockForm + `|` + clockForm + `)\z`)
	countForm   = regexp.MustCompile(`(\d+)([WDHMS])`)
)

// slowLength is what ParseSpan must answer, by the pattern, in numbers of any size.
func slowLength(s string) (int64, api.Errno) {
	if !spanPattern.MatchString(s) {
		return 0, api.ErrWhen
	}
	sizes := map[string]int64{"W": 604800, "D": 86400, "H": 3600, "M": 60, "S": 1}
	sum := new(big.Int)
	for _, m := range countForm.FindAllStringSubmatch(s, -1) {
		n, _ := new(big.Int).SetString(m[1], 10)
		sum.Add(sum, n.Mul(n, big.NewInt(sizes[m[2]])))
	}
	if strings.HasPrefix(s, "-") {
		sum.Neg(sum)
	}
	if sum.CmpAbs(big.NewInt(most)) > 0 {
		return 0, api.ErrWhen
	}
	return sum.Int64(), api.OK
}

// checkSpan holds ParseSpan of a text against the pattern, and writes what is read, and reads it again.
func checkSpan(t *testing.T, s string) {
	t.Helper()
	want, code := slowLength(s)
	n, e := ParseSpan(s)
	if n != want || e != code {
		t.Fatalf("ParseSpan(%q): %d %v, not %d %v", s, n, e, want, code)
	}
	if e == api.OK { // P12.6
		checkLength(t, n)
	}
}

func TestParseSpanExamples(t *testing.T) { // P12.3
	for s, want := range map[string]int64{
		"PT0S": 0, "-PT0S": 0, "+PT0S": 0, "P0W": 0, "-P0D": 0, "P0DT0H0M0S": 0, "PT0H": 0, "PT0M": 0, "P0000000000W": 0,
		"P1W": 604800, "+P1W": 604800, "-P1W": -604800, "P1D": 86400, "P7D": 604800, "P01D": 86400, "P0000000001D": 86400, "P1DT1S": 86401, "P1DT0S": 86400,
		"PT1H": 3600, "PT1M": 60, "PT1S": 1, "PT1H1M": 3660, "PT1M1S": 61, "PT1H1M1S": 3661, "PT1H0M1S": 3601, "PT90M": 5400, "PT100000S": 100000, "P1DT25H": 176400,
		"-P1DT2H": -93600, "PT9999999999S": 9999999999, "PT0H0M9999999999S": 9999999999, "P12725829DT36M16S": most, "-P12725829DT36M16S": -most, "+P12725829DT36M16S": most, "P1817975W": 604800 * 1817975, "P12725829D": 86400 * 12725829,
	} {
		if n, e := ParseSpan(s); n != want || e != api.OK {
			t.Errorf("ParseSpan(%q): %d %v", s, n, e)
		}
		checkSpan(t, s)
	}
	for _, s := range []string{
		"", "P", "-P", "+P", "-", "+", "T", "1D", "PT", "-PT", "P1DT", "P1", "PT1", "P1DT1", "PD", "PW", "PTH", "PTS", "P1DTS", "P1H", "P1M", "P1S", "P1Y", "PT1D", "PT1W",
		"PT1H1S", "P1DT1H1S", "PT1M1H", "PT1S1M", "PT1S1H", "PT1H1H", "PT1S1S", "PT1H1M1S1S", "PT1H1M1M", "P1W1D", "P1D1W", "P1WT1H", "P1D1D", "P1D1H", "P1W1W", "PT1HT1M", "PTT1H", "P1DTT1H", "PP1D", "P1DP",
		"p1d", "P1d", "P1w", "Pt1h", "PT1h", "PT1m", "PT1s", "--P1D", "++P1D", "+-P1D", "-+P1D", "P-1D", "P+1D", "PT-1S", "PT+1S", "P1D-", "P1DT-1H", " P1D", "P1D ", "P 1D", "P1 D", "P1.5D", "P1,5D", "P1D\n", "P1D\x00", "P0x1D", "P1_0D", "P１D", "P1é",
		"P00000000001D", "P00000000000W", "PT00000000001S", "PT1H00000000001M", "PT10000000000S", "P1DT00000000000S",
		"P12725829DT36M17S", "-P12725829DT36M17S", "+P12725829DT36M17S", "P12725830D", "P1817976W", "-P1817976W", "P9999999999W", "-P9999999999W", "P9999999999D", "PT9999999999H", "P9999999999DT9999999999H9999999999M9999999999S", "PT9999999999H9999999999M",
		"P12725829DT1H", "P12725828DT24H36M17S",
	} {
		if n, e := ParseSpan(s); n != 0 || e != api.ErrWhen {
			t.Errorf("ParseSpan(%q): %d %v", s, n, e)
		}
		checkSpan(t, s)
	}
}

func TestParseSpanAllShort(t *testing.T) { // P12.3, P12.6
	allTexts([]string{"+", "-", "P", "T", "W", "D", "H", "M", "S", "0", "7"}, 5, func(s string) { checkSpan(t, s) })
	allTexts([]string{"P", "T", "1W", "2D", "3H", "0M", "5S", "60", "D"}, 5, func(s string) {
		checkSpan(t, s)
		checkSpan(t, "P"+s)
		checkSpan(t, "-PT"+s)
	})
}

func TestParseSpanSome(t *testing.T) { // P12.3, P12.6
	r := rand.New(rand.NewSource(5))
	part := func(unit string, most int64) string {
		if r.Intn(3) == 0 {
			return ""
		}
		s := strconv.FormatInt(r.Int63n(most), 10)
		return strings.Repeat("0", r.Intn(3)*r.Intn(2)) + s + unit
	}
	for range 100000 {
		s := []string{"", "+", "-"}[r.Intn(3)] + "P" + part("D", 13000000)
		if r.Intn(2) == 0 {
			s += "T" + part("H", []int64{30, 1000000000}[r.Intn(2)]) + part("M", []int64{70, 100000000000}[r.Intn(2)]) + part("S", 100)
		}
		checkSpan(t, s)
		checkSpan(t, []string{"", "+", "-"}[r.Intn(3)]+"P"+part("W", 1820000))
		at := r.Intn(len(s))
		checkSpan(t, s[:at]+someText(r, []string{"P", "T", "0", "H", "M", "S", "D", "W", "-", "\x00"}, r.Intn(2))+s[min(len(s), at+r.Intn(2)):])
	}
	for _, s := range []string{"P1W", "-P1DT2H3M4S", "+PT5M", "PT1H2M"} {
		for at := range len(s) {
			for c := range 256 {
				checkSpan(t, s[:at]+string([]byte{byte(c)})+s[at+1:])
				checkSpan(t, s[:at]+string([]byte{byte(c)})+s[at:])
				checkSpan(t, s+string([]byte{byte(c)}))
			}
		}
	}
}

func TestParseSpanLimits(t *testing.T) { // P12.3
	for _, sign := range []string{"", "+", "-"} {
		for _, front := range []string{"P", "P0D"} {
			for _, days := range []int64{0, 1, 12725828, 12725829} {
				left := most - days*86400
				for _, by := range []int64{-2, -1, 0, 1, 2} {
					s := sign + front + "T0H" + strconv.FormatInt((left+by)/60, 10) + "M" + strconv.FormatInt((left+by)%60, 10) + "S"
					if days > 0 {
						s = sign + "P" + strconv.FormatInt(days, 10) + "D" + s[strings.Index(s, "T"):]
					}
					checkSpan(t, s)
				}
			}
		}
	}
	for digits := range 14 {
		for _, unit := range []string{"W", "D", "DT1S", "DT0H"} {
			checkSpan(t, "P"+strings.Repeat("0", digits)+unit)
			checkSpan(t, "P"+strings.Repeat("0", digits)+"1"+unit)
			checkSpan(t, "P"+strings.Repeat("9", digits)+unit)
		}
		for _, unit := range []string{"H", "M", "S", "H1M", "M1S", "H1M1S", "H1S"} {
			checkSpan(t, "PT"+strings.Repeat("0", digits)+"1"+unit)
			checkSpan(t, "-PT"+strings.Repeat("9", digits)+unit)
			checkSpan(t, "+P1DT1H"+strings.Repeat("9", digits)+unit)
		}
	}
}

func TestLongTextsEnd(t *testing.T) { // P1
	for _, piece := range []string{"0", "9", "P", "T", "-", "+", "1H", "1M1S", "P1D", "1W", "\x00", "é"} {
		for _, front := range []string{"", "P", "PT", "P1", "P1DT", "-PT1H", "2024"} {
			s := front + strings.Repeat(piece, 1<<20)
			if n, e := ParseSpan(s); n != 0 || e != api.ErrWhen {
				t.Errorf("ParseSpan of %q and many %q: %d %v", front, piece, n, e)
			}
			if n, e := Parse(s); n != 0 || e != api.ErrWhen {
				t.Errorf("Parse of %q and many %q: %d %v", front, piece, n, e)
			}
		}
	}
}
