package sheet

import (
	"bytes"
	"math/rand"
	"reflect"
	"regexp"
	"slices"
	"strconv"
	"strings"
	"testing"
	"unicode/utf8"

	"posthorn/api"
)

// allTexts calls see with each text of at most n pieces of those given.
func allTexts(from []string, n int, see func(s string)) {
	var grow func(s string, n int)
	grow = func(s string, n int) {
		see(s)
		for i := 0; i < len(from) && n > 0; i++ {
			grow(s+from[i], n-1)
		}
	}
	grow("", n)
}

// someText is a text of n pieces of those given.
func someText(r *rand.Rand, from []string, n int) string {
	var s strings.Builder
	for range n {
		s.WriteString(from[r.Intn(len(from))])
	}
	return s.String()
}

// some is so many times A.
func some(n int) string { return strings.Repeat("A", n) }

// of is a line, with its parameters' Names and Values in turn.
func of(name, value string, l ...string) api.Line {
	out := api.Line{Name: name, Value: value}
	for at := 0; at < len(l); at += 2 {
		out.Params = append(out.Params, api.Param{Name: l[at], Value: l[at+1]})
	}
	return out
}

// many is so many parameters, of their Names and Values in turn.
func many(n int) []string {
	var l []string
	for i := range n {
		l = append(l, "N"+strconv.Itoa(i), strconv.Itoa(i))
	}
	return l
}

// same tells whether lines are alike, with lists that are nil or empty, too.
func same(a, b api.Line) bool {
	return a.Name == b.Name && a.Value == b.Value && slices.Equal(a.Params, b.Params)
}

// none tells whether nothing is answered but the error.
func none(l api.Line, e api.Errno) bool {
	return reflect.DeepEqual(l, api.Line{}) && e == api.ErrSheet
}

// The document's words as patterns.
var (
	namePattern  = regexp.MustCompile(`\A[A-Z0-9-]{1,64}\z`)
	linePattern  = regexp.MustCompile(`(?s)\A([A-Za-z0-9-]+)((?:;[A-Za-z0-9-]+=(?:"[^"]*"|[^";:,]*))*):(.*)\z`)
	paramPattern = regexp.MustCompile(`(?s)\A;([A-Za-z0-9-]+)=(?:"([^"]*)"|([^";:,]*))`)
	wrongByte    = regexp.MustCompile(`[\x00-\x08\x0a-\x1f\x7f]`)
	fold         = regexp.MustCompile(`\r\n[ \t]`)
)

func slowText(s string, most int) bool {
	return len(s) <= most && utf8.ValidString(s) && !wrongByte.MatchString(s)
}

// slowRight is what Right must answer, by the patterns.
func slowRight(l api.Line) bool {
	for i, p := range l.Params {
		for _, q := range l.Params[:i] {
			if p.Name == q.Name {
				return false
			}
		}
		if !namePattern.MatchString(p.Name) || !slowText(p.Value, 256) || strings.Contains(p.Value, `"`) {
			return false
		}
	}
	return namePattern.MatchString(l.Name) && slowText(l.Value, 4096) && len(l.Params) <= 16
}

// slowOne is how a line that may be is written, not folded.
func slowOne(l api.Line) string {
	s := l.Name
	for _, p := range l.Params {
		s += ";" + p.Name + "="
		if strings.ContainsAny(p.Value, ";:,") {
			s += `"` + p.Value + `"`
		} else {
			s += p.Value
		}
	}
	return s + ":" + l.Value
}

// slowFold folds a written line, word by word as the document says it.
func slowFold(s string) string {
	out := ""
	for len(s) > 75 {
		at := 75
		for !utf8.ValidString(s[:at]) {
			at--
		}
		out += s[:at] + "\r\n"
		s = " " + s[at:]
	}
	return out + s + "\r\n"
}

// slowLine is what One must answer, by the patterns.
func slowLine(s string) (api.Line, api.Errno) {
	m := linePattern.FindStringSubmatch(s)
	if m == nil {
		return api.Line{}, api.ErrSheet
	}
	l := api.Line{Name: strings.ToUpper(m[1]), Value: m[3]}
	for left := m[2]; left != ""; {
		p := paramPattern.FindStringSubmatch(left)
		left = left[len(p[0]):]
		l.Params = append(l.Params, api.Param{Name: strings.ToUpper(p[1]), Value: p[2] + p[3]})
	}
	if !slowRight(l) {
		return api.Line{}, api.ErrSheet
	}
	return l, api.OK
}

// slowRead is what Read must answer of bytes that are not too long: first all is unfolded, then parted.
func slowRead(b string) ([]api.Line, api.Fault) {
	s := fold.ReplaceAllString(b, "")
	for at := 0; at < len(s); {
		c, n := utf8.DecodeRuneInString(s[at:])
		if c == utf8.RuneError && n == 1 {
			return nil, api.Fault{At: at, Code: api.ErrUtf}
		}
		at += n
	}
	var out []api.Line
	pieces := strings.Split(s, "\r\n")
	at := 0
	for _, piece := range pieces[:len(pieces)-1] {
		l, e := slowLine(piece)
		if e != api.OK {
			return nil, api.Fault{At: at, Code: api.ErrSheet}
		}
		if len(out) == 4096 {
			return nil, api.Fault{At: at, Code: api.ErrLong}
		}
		out = append(out, l)
		at += len(piece) + 2
	}
	if pieces[len(pieces)-1] != "" {
		return nil, api.Fault{At: at, Code: api.ErrSheet}
	}
	return out, api.Fault{}
}

// checkText holds One of a text against the patterns, and writes what is read, and reads it again.
func checkText(t *testing.T, s string) {
	t.Helper()
	want, code := slowLine(s)
	l, e := One(s)
	if e != code || !same(l, want) || e != api.OK && !none(l, e) {
		t.Fatalf("One(%q): %q %v, not %q %v", s, l, e, want, code)
	}
	if e == api.OK {
		checkLine(t, l)
	}
}

// checkLine holds Right and Write of a line against the patterns, and reads what is written.
func checkLine(t *testing.T, l api.Line) {
	t.Helper()
	right := slowRight(l)
	if Right(l) != right {
		t.Fatalf("Right(%q): %v", l, !right)
	}
	b, e := Write([]api.Line{l})
	if !right {
		if len(b) != 0 || e != api.ErrSheet {
			t.Fatalf("Write(%q): %q %v", l, b, e)
		}
		return
	}
	if want := slowFold(slowOne(l)); string(b) != want || e != api.OK {
		t.Fatalf("Write(%q): %q %v, not %q", l, b, e, want)
	}
	if back, e := One(slowOne(l)); e != api.OK || !same(back, l) {
		t.Fatalf("One(%q): %q %v, not %q", slowOne(l), back, e, l)
	}
	if back, f := Read(b); f != (api.Fault{}) || len(back) != 1 || !same(back[0], l) { // P10.4
		t.Fatalf("Read(%q): %q %v, not %q", b, back, f, l)
	}
	for line := range strings.SplitSeq(string(b), "\r\n") { // P10.5
		if len(line) > 75 || !utf8.ValidString(line) {
			t.Fatalf("Write(%q): the line %q", l, line)
		}
	}
}

// checkBytes holds Read of bytes against the slow reading.
func checkBytes(t *testing.T, b string) {
	t.Helper()
	want, fault := slowRead(b)
	l, f := Read([]byte(b))
	if f != fault || !slices.EqualFunc(l, want, same) || f != (api.Fault{}) && len(l) != 0 {
		t.Fatalf("Read(%q): %q %v, not %q %v", b, l, f, want, fault)
	}
}

func TestRightEveryByte(t *testing.T) { // P10.1
	for c := range 256 {
		b := string([]byte{byte(c)})
		name := c >= 'A' && c <= 'Z' || c >= '0' && c <= '9' || c == '-'
		text := c >= 32 && c < 127 || c == 9
		for _, s := range []string{b, "A" + b, b + "A", "A" + b + "A"} {
			if Right(of(s, "")) != name || Right(of("A", "", s, "")) != name {
				t.Errorf("Right of the Name %q: not %v", s, name)
			}
			if Right(of("A", s)) != text {
				t.Errorf("Right of the Value %q: not %v", s, text)
			}
			if Right(of("A", "", "B", s)) != (text && c != '"') {
				t.Errorf("Right of the parameter's Value %q: not %v", s, text)
			}
			checkLine(t, of("A", s, "B", s))
			checkLine(t, of("A", s, "B", "x"))
			checkLine(t, of("A", "x", "B", s))
		}
	}
}

func TestRightLimits(t *testing.T) { // P10.1
	for _, c := range []struct {
		l    api.Line
		want bool
	}{
		{api.Line{}, false},
		{of("A", ""), true},
		{of("", "a"), false},
		{of("A", "", "", "a"), false},
		{of("A", "", "B", ""), true},
		{of("a", ""), false},
		{of("Aa", ""), false},
		{of("A", "", "b", ""), false},
		{of("A", "", "Bb", ""), false},
		{of("-", "", "-", ""), true},
		{of("0", "", "0", ""), true},
		{of("Ä", ""), false},
		{of("A B", ""), false},
		{of("A_B", ""), false},
		{of("X-A", "é€😀\t\u0085", "X-B", "é€😀\t\u0085"), true},
		{of(some(64), some(4096), some(64), some(256)), true},
		{of(some(65), ""), false},
		{of("A", some(4097)), false},
		{of("A", "", some(65), ""), false},
		{of("A", "", "B", some(257)), false},
		{of("A", strings.Repeat("é", 2048), "B", strings.Repeat("é", 128)), true},
		{of("A", strings.Repeat("é", 2048)+"x"), false},
		{of("A", "", "B", strings.Repeat("é", 128)+"x"), false},
		{of("A", "", "B", strings.Repeat(":", 256)), true},
		{of("A", "", many(16)...), true},
		{of("A", "", many(17)...), false},
		{of("A", "", many(1000)...), false},
		{of("A", "", "B", "1", "B", "2"), false},
		{of("A", "", "B", "1", "B", "1"), false},
		{of("A", "", "B", "1", "C", "1", "D", "1", "B", "2"), false},
		{of("A", "", "B", "1", "C", "1"), true},
		{of("A", "", "A", "1"), true},
		{of("A", "", append(many(15), "N0", "x")...), false},
		{of("A", `"`), true},
		{of("A", "", "B", `"`), false},
		{of("A", ";:,\\"), true},
		{of("A", "\r\n b"), false},
		{of("A", "\xc3"), false},
		{of("A", "\xed\xa0\x80"), false},
		{of("A", "\xc0\x80"), false},
		{of("A", "", "B", "\x80"), false},
		{of("A", "", "B", "\xf4\x90\x80\x80"), false},
		{api.Line{Name: "A", Params: []api.Param{}}, true},
	} {
		if Right(c.l) != c.want {
			t.Errorf("Right(%.80q): %v", c.l, !c.want)
		}
		checkLine(t, c.l)
	}
}

func TestWriteExamples(t *testing.T) { // P10.1
	for _, c := range []struct {
		l    []api.Line
		want string
	}{
		{nil, ""},
		{[]api.Line{}, ""},
		{[]api.Line{of("A", "")}, "A:\r\n"},
		{[]api.Line{of("A", "b"), of("C", "d: \"e\"; f, g ")}, "A:b\r\nC:d: \"e\"; f, g \r\n"},
		{[]api.Line{of("ATTENDEE", "mailto:x", "CN", "a, b")}, "ATTENDEE;CN=\"a, b\":mailto:x\r\n"},
		{[]api.Line{of("A", "", "B", "", "C", "x", "D", "a;b", "E", "a:b", "F", "a,b", "G", " a=b\\ ")}, "A;B=;C=x;D=\"a;b\";E=\"a:b\";F=\"a,b\";G= a=b\\ :\r\n"},
		{[]api.Line{of("A", "", "Z", "1", "Y", "2", "X", "3")}, "A;Z=1;Y=2;X=3:\r\n"},
		{[]api.Line{of("A", some(73))}, "A:" + some(73) + "\r\n"},
		{[]api.Line{of("A", some(74))}, "A:" + some(73) + "\r\n A\r\n"},
		{[]api.Line{of("A", some(73+74))}, "A:" + some(73) + "\r\n " + some(74) + "\r\n"},
		{[]api.Line{of("A", some(73+75))}, "A:" + some(73) + "\r\n " + some(74) + "\r\n A\r\n"},
		{[]api.Line{of("A", some(72)+"é")}, "A:" + some(72) + "\r\n é\r\n"},
		{[]api.Line{of("A", some(71)+"é")}, "A:" + some(71) + "é\r\n"},
		{[]api.Line{of("A", some(71)+"€x")}, "A:" + some(71) + "\r\n €x\r\n"},
		{[]api.Line{of("A", some(70)+"😀")}, "A:" + some(70) + "\r\n 😀\r\n"},
		{[]api.Line{of("A", some(73)+"  x")}, "A:" + some(73) + "\r\n   x\r\n"},
		{[]api.Line{of("A", some(72)+" \tx")}, "A:" + some(72) + " \r\n \tx\r\n"},
		{[]api.Line{of(some(64), "x", some(64), "y")}, some(64) + ";" + some(10) + "\r\n " + some(54) + "=y:x\r\n"},
	} {
		if b, e := Write(c.l); string(b) != c.want || e != api.OK {
			t.Errorf("Write(%q): %q %v, not %q", c.l, b, e, c.want)
		}
	}
}

func TestWriteHowMany(t *testing.T) { // P10.1
	for n, want := range map[int]api.Errno{4095: api.OK, 4096: api.OK, 4097: api.ErrLong, 10000: api.ErrLong} {
		b, e := Write(slices.Repeat([]api.Line{of("A", "b")}, n))
		if e != want || e == api.OK && string(b) != strings.Repeat("A:b\r\n", n) || e != api.OK && len(b) != 0 {
			t.Errorf("Write of %d: %d %v", n, len(b), e)
		}
	}
	// Too many is told ahead of one that may not be.
	if b, e := Write(make([]api.Line, 4097)); len(b) != 0 || e != api.ErrLong {
		t.Errorf("Write of too many that may not be: %q %v", b, e)
	}
	for at := range 3 {
		l := []api.Line{of("A", "1"), of("B", "2"), of("C", "3")}
		l[at].Value = "\n"
		if b, e := Write(l); len(b) != 0 || e != api.ErrSheet {
			t.Errorf("Write with a wrong one at %d: %q %v", at, b, e)
		}
	}
	if b, e := Write(make([]api.Line, 4096)); len(b) != 0 || e != api.ErrSheet {
		t.Errorf("Write of many that may not be: %q %v", b, e)
	}
}

func TestWriteFoldsEveryPlace(t *testing.T) { // P10.1, P10.4, P10.5
	for _, point := range []string{"a", "é", "€", "😀", " ", "\t", ";", "\u0300"} {
		for n := range 240 {
			checkLine(t, of("A", some(n)+point+"x"))
			checkLine(t, of("A", some(n)+strings.Repeat(point, 80)))
			checkLine(t, of("A", strings.Repeat(point, n)))
			checkLine(t, of("A", "x", "B", some(n)+point))
		}
	}
	longest := of(some(64), strings.Repeat("é", 2048))
	for i := range 16 {
		longest.Params = append(longest.Params, api.Param{Name: some(62) + strconv.Itoa(10+i), Value: strings.Repeat(",é", 85)})
	}
	checkLine(t, longest)
}

func TestOneExamples(t *testing.T) { // P10.2
	for s, want := range map[string]api.Line{
		`attendee;CN="a, b":mailto:x`: of("ATTENDEE", "mailto:x", "CN", "a, b"),
		"A:":                          of("A", ""),
		"a::":                         of("A", ":"),
		"a:b":                         of("A", "b"),
		"A: b ":                       of("A", " b "),
		"A:\tb;c=d:e,\"f\"":           of("A", "\tb;c=d:e,\"f\""),
		"a;b=:":                       of("A", "", "B", ""),
		`a;b="":`:                     of("A", "", "B", ""),
		`a;b="c":d`:                   of("A", "d", "B", "c"),
		`a;b=c;d="e;f:g,h";i=j:k`:     of("A", "k", "B", "c", "D", "e;f:g,h", "I", "j"),
		"a;b= c = d :":                of("A", "", "B", " c = d "),
		"a;b==:":                      of("A", "", "B", "="),
		`a;b=\n\:`:                    of("A", "", "B", `\n\`),
		"x-Y-0;z-1=é:€😀":              of("X-Y-0", "€😀", "Z-1", "é"),
		"a;a=1:2":                     of("A", "2", "A", "1"),
		"-;-=-:-":                     of("-", "-", "-", "-"),
		`a:"`:                         of("A", `"`),
		`a;b=c:"d`:                    of("A", `"d`, "B", "c"),
		strings.Repeat("a", 64) + ";" + strings.Repeat("b", 64) + "=" + some(256) + ":" + some(4096): of(some(64), some(4096), strings.Repeat("B", 64), some(256)),
	} {
		if l, e := One(s); e != api.OK || !same(l, want) {
			t.Errorf("One(%q): %q %v, not %q", s, l, e, want)
		}
		checkText(t, s)
	}
}

func TestOneWrong(t *testing.T) { // P10.2
	for _, s := range []string{
		"", ":", ":b", ";", "A", "A;", "A;:b", "A;=c:b", "A;B:b", "A;B", "A;B=", "A;B=c", "A;B=c;", "A;B=c;:", "A;;B=c:", "A;B=c;;D=e:", ";B=c:d", "A B:", " A:", "A :", "A; B=c:", "A ;B=c:", "A;B =c:", "A;B=c",
		`A;B=c,d:e`, `A;B="c","d":e`, `A;B="c:d`, `A;B="c`, `A;B="`, `A;B=":`, `A;B=c"d:e`, `A;B=c"d":e`, `A;B="c"d:e`, `A;B="c" :e`, `A;B= "c":e`, `A;B="c""d":e`, `A;B="\"":e`, `A;"B"=c:d`, `"A":b`,
		"A_B:c", "A.B:c", "Ä:b", "A;Ä=b:c", "A/B:c", "A=b:c", "A,b:c", "A;B=1;B=2:c", "A;b=1;B=1:c", "A;B=1;C=2;b=3:d",
		"A:\r\n", "A:b\r\n", "A:b\r\n c", "A:\n", "A:\r", "A:\x00", "A:\x1f", "A:\x7f", "A;B=\x01:", "A;B=\"\n\":", "A;B=\x7f:", "A:\xff", "A:\xc3", "A:\xed\xa0\x80", "A;B=\xff:", "A;B=\"\x80\":", "\xffA:b", "A\xff:b",
		some(65) + ":", "A;" + some(65) + "=b:c", "A;B=" + some(257) + ":", `A;B="` + some(257) + `":`, "A:" + some(4097), "A;B=" + strings.Repeat("é", 129) + ":", "A:" + strings.Repeat("é", 2048) + "x",
	} {
		if l, e := One(s); !none(l, e) {
			t.Errorf("One(%q): %q %v", s, l, e)
		}
		checkText(t, s)
	}
}

func TestOneHowMany(t *testing.T) { // P10.2
	for _, n := range []int{0, 1, 15, 16, 17, 18, 1000} {
		s := "a"
		for i := range n {
			s += ";n" + strconv.Itoa(i) + "=" + strconv.Itoa(i)
		}
		l, e := One(s + ":v")
		if n <= api.MaxParams && (e != api.OK || !same(l, of("A", "v", many(n)...))) {
			t.Errorf("One of %d: %q %v", n, l, e)
		}
		if n > api.MaxParams && !none(l, e) {
			t.Errorf("One of %d: %q %v", n, l, e)
		}
	}
}

func TestOneAllShort(t *testing.T) { // P10.2
	allTexts([]string{"a", "B", ";", "=", ":", `"`, ","}, 6, func(s string) { checkText(t, s) })
	allTexts([]string{"a", ";", "=", ":", `"`, ",", " ", "é"}, 5, func(s string) { checkText(t, "A;b="+s) })
	allTexts([]string{";b=", ";B=", ":", `"`, "c", ",", ";"}, 5, func(s string) { checkText(t, "x"+s) })
	allTexts([]string{";", ":", `"`, "c", "\t", "\n", "\xc3", "\xa9"}, 4, func(s string) {
		checkText(t, `x;y="`+s+`":z`)
		checkText(t, `x;y=`+s+`:z`)
		checkText(t, `x;y=z:`+s)
	})
}

func TestOneEveryByte(t *testing.T) { // P10.2
	for c := range 256 {
		b := string([]byte{byte(c)})
		for _, s := range []string{
			b + "a:b", "a" + b + ":b", "a" + b + "b", "a:" + b, "a:b" + b + "c", "a" + b + ";c=d:e", "a;" + b + "c=d:e", "a;c" + b + "=d:e", "a;c" + b + "d:e", "a;c=" + b + "d:e", "a;c=d" + b + ":e", "a;c=d" + b + "e",
			`a;c="` + b + `":d`, `a;c="d` + b + `e":f`, `a;c="d"` + b + `:e`, `a;c=` + b + `"d":e`, `a;c="d"` + b + "e",
		} {
			checkText(t, s)
		}
	}
}

func TestReadExamples(t *testing.T) { // P10.2
	for _, c := range []struct {
		b    string
		want []api.Line
	}{
		{"", nil},
		{"A:b\r\n", []api.Line{of("A", "b")}},
		{"a;b=c:\r\nD:e\r\na:\r\n", []api.Line{of("A", "", "B", "c"), of("D", "e"), of("A", "")}},
		{"A:\r\n b\r\n", []api.Line{of("A", "b")}},
		{"A:\r\n\tb\r\n", []api.Line{of("A", "b")}},
		{"A:b\r\n  c\r\n \t\td\r\n", []api.Line{of("A", "b c\t\td")}},
		{"A:b\r\n \r\n \r\n\tc\r\n", []api.Line{of("A", "bc")}},
		{"A\r\n :\r\n b\r\n c\r\nD\r\n\t;E\r\n =\"\r\n ,\":\r\n", []api.Line{of("A", "bc"), of("D", "", "E", ",")}},
		{"\r\n A:b\r\n", []api.Line{of("A", "b")}},
		{"A:b\r\n \r\n", []api.Line{of("A", "b")}},
		{"A:b\r\n\r\n \r\n\t", []api.Line{of("A", "b")}},
		// What is left may have a pair that was none: it parts lines.
		{"A:b\r\r\n \nC:d\r\n", []api.Line{of("A", "b"), of("C", "d")}},
		{"\r\n ", nil},
		{"A:b\r\n\r\n\t", []api.Line{of("A", "b")}},
		{"A:\xc3\r\n \xa9\r\n", []api.Line{of("A", "é")}},
		{"A:\xf0\r\n \x9f\r\n\t\x98\r\n \x80\r\n", []api.Line{of("A", "😀")}},
		{"A:b\r\n B:c\r\n", []api.Line{of("A", "bB:c")}},
	} {
		if l, f := Read([]byte(c.b)); f != (api.Fault{}) || !slices.EqualFunc(l, c.want, same) {
			t.Errorf("Read(%q): %q %v", c.b, l, f)
		}
		checkBytes(t, c.b)
	}
}

func TestReadFaults(t *testing.T) { // P10.2
	for _, c := range []struct {
		b    string
		at   int
		code api.Errno
	}{
		{"A", 0, api.ErrSheet},
		{"A:b", 0, api.ErrSheet},
		{"A:b\r", 0, api.ErrSheet},
		{"A:b\n", 0, api.ErrSheet},
		{"A:b\r\n ", 0, api.ErrSheet},
		{"A:b\r\n\t", 0, api.ErrSheet},
		{"A:b\r\nC:d\r\n ", 5, api.ErrSheet},
		{"A:b\r\nC:d", 5, api.ErrSheet},
		{"A:b\r\n\r", 5, api.ErrSheet},
		{"A:b\r\n\n", 5, api.ErrSheet},
		{"\r\n", 0, api.ErrSheet},
		{"\r\nA:b\r\n", 0, api.ErrSheet},
		{"A:b\r\n\r\n", 5, api.ErrSheet},
		{"A:b\r\n\r\nC:d\r\n", 5, api.ErrSheet},
		{"A:b\r\nC\r\nD:e\r\n", 5, api.ErrSheet},
		{"A:\r\n b\r\n\tc\r\nD\r\n", 6, api.ErrSheet},
		{" A:b\r\n", 0, api.ErrSheet},
		{"A:b\nC:d\r\n", 0, api.ErrSheet},
		{"A:b\r\r\nC:d\r\n", 0, api.ErrSheet},
		{"A:b\r\nC:\x00\r\n", 5, api.ErrSheet},
		{"A:b\r\nC:\x7f\r\n", 5, api.ErrSheet},
		{"A:b\r\n" + some(65) + ":\r\n", 5, api.ErrSheet},
		{"A:b\r\nA:" + some(4097) + "\r\n", 5, api.ErrSheet},
		{"A:b\r\r\n \n c:d\r\n", 5, api.ErrSheet}, // a pair that was none folds nothing
		{"A:b\r\r\n\t\n\r\n  ", 5, api.ErrSheet},
		{"\xff", 0, api.ErrUtf},
		{"A:\xff\r\n", 2, api.ErrUtf},
		{"A:\r\n \xff\r\n", 2, api.ErrUtf},
		{"A:\r\n \xff\xff\r\n", 2, api.ErrUtf},
		{"A:b\r\nC:é\r\n\t\xc3\r\n", 9, api.ErrUtf},
		{"A:\xc3\r\n\xa9", 2, api.ErrUtf},
		{"A:\xc3\r\n \r\n", 2, api.ErrUtf},
		{"A:é\xa9\r\n", 4, api.ErrUtf},
		{"A:\xed\xa0\x80\r\n", 2, api.ErrUtf},
		{"bad\r\n\r\nA:\xff", 9, api.ErrUtf}, // ahead of all lines that are none
	} {
		want := api.Fault{At: c.at, Code: c.code}
		if l, f := Read([]byte(c.b)); f != want || len(l) != 0 {
			t.Errorf("Read(%q): %q %v, not %v", c.b, l, f, want)
		}
		checkBytes(t, c.b)
	}
}

func TestReadHowMany(t *testing.T) { // P10.2
	most := strings.Repeat("A:\r\n b\r\n", 4096)
	if l, f := Read([]byte(most)); len(l) != 4096 || f != (api.Fault{}) || !same(l[4095], of("A", "b")) {
		t.Errorf("at the limit: %d %v", len(l), f)
	}
	for _, c := range []struct {
		behind string
		want   api.Errno
	}{
		{"C:d\r\n", api.ErrLong},
		{"C:d\r\nE:f\r\n", api.ErrLong},
		{"C:d\r\nE\r\n", api.ErrLong},
		{strings.Repeat("C:d\r\n", 4096), api.ErrLong},
		{"C\r\n", api.ErrSheet},
		{"C:d", api.ErrSheet},
		{"\r\n", api.ErrSheet},
	} {
		if l, f := Read([]byte(most + c.behind)); len(l) != 0 || f != (api.Fault{At: 4096 * 5, Code: c.want}) {
			t.Errorf("with %.20q: %d %v", c.behind, len(l), f)
		}
		checkBytes(t, most+c.behind)
	}
	if l, f := Read([]byte(most + "C:\xff\r\n")); len(l) != 0 || f != (api.Fault{At: 4096*5 + 2, Code: api.ErrUtf}) {
		t.Errorf("not valid: %d %v", len(l), f)
	}
	if l, f := Read([]byte("C\r\n" + most + "C:d\r\n")); len(l) != 0 || f != (api.Fault{At: 0, Code: api.ErrSheet}) {
		t.Errorf("none ahead of too many: %d %v", len(l), f)
	}
}

func TestReadHowLong(t *testing.T) { // P10.2
	line := "A:" + some(252) + "\r\n"
	most := strings.Repeat(line, 4096)
	if l, f := Read([]byte(most)); len(most) != 1048576 || len(l) != 4096 || f != (api.Fault{}) {
		t.Errorf("at the limit: %d %d %v", len(most), len(l), f)
	}
	for _, b := range []string{most + " ", " " + most, "\xff" + most, most + line, strings.Repeat("\xff", 1048577), strings.Repeat("\r\n ", 349526)} {
		if l, f := Read([]byte(b)); len(l) != 0 || f != (api.Fault{At: 0, Code: api.ErrLong}) {
			t.Errorf("one beyond it: %d %v", len(l), f)
		}
	}
	// It counts what is handed in, not what is left of it.
	if l, f := Read([]byte(strings.Repeat("\r\n ", 349525) + "\n")); len(l) != 0 || f != (api.Fault{At: 0, Code: api.ErrSheet}) {
		t.Errorf("much that is unfolded: %d %v", len(l), f)
	}
}

func TestReadAllShort(t *testing.T) { // P10.2
	allTexts([]string{"A:", "\r\n", " ", "\t", "b", "\r", "\n"}, 6, func(s string) { checkBytes(t, s) })
	allTexts([]string{"A:b", "\r\n", " ", "\r\n ", "é", "\xc3", "\xa9", "C"}, 5, func(s string) { checkBytes(t, s+"\r\n") })
	allTexts([]string{"\r", "\n", " ", "\t", "A:"}, 7, func(s string) { checkBytes(t, "B:"+s) })
}

func TestReadEveryByte(t *testing.T) { // P10.2
	for c := range 256 {
		b := string([]byte{byte(c)})
		for _, s := range []string{"A:b\r\n" + b, "A:b\r\n" + b + "c\r\n", "A:b\r" + b + " c\r\n", "A:b" + b + "\n c\r\n", b + "A:b\r\n", "A:b" + b + "\r\n", "A:b\r\n " + b + "\r\n", "A" + b + "b\r\n", b} {
			checkBytes(t, s)
		}
	}
}

// someLine is a line that may be.
func someLine(r *rand.Rand) api.Line {
	signs := strings.Split("ABCXYZ0189-", "")
	points := append(signs, strings.Split("abc ;:,=\\é€😀\t\u0085\u2028'", "")...)
	name := func() string { return someText(r, signs, 1+r.Intn(60)) }
	l := of(name(), someText(r, points, r.Intn(400)))
	if r.Intn(3) == 0 {
		l.Value += `"`
	}
	for i := range r.Intn(4) * r.Intn(6) {
		l.Params = append(l.Params, api.Param{Name: strconv.Itoa(i) + name(), Value: someText(r, points, r.Intn(60))})
	}
	return l
}

func TestThereAndBack(t *testing.T) { // P10.4, P10.5
	r := rand.New(rand.NewSource(1))
	for range 500 {
		var l []api.Line
		want := ""
		for range r.Intn(6) {
			one := someLine(r)
			if !Right(one) {
				t.Fatalf("%q may not be", one)
			}
			checkLine(t, one)
			l = append(l, one)
			want += slowFold(slowOne(one))
		}
		b, e := Write(l)
		if string(b) != want || e != api.OK {
			t.Fatalf("Write(%q): %q %v, not %q", l, b, e, want)
		}
		if back, f := Read(b); f != (api.Fault{}) || !slices.EqualFunc(back, l, same) {
			t.Fatalf("Read(%q): %q %v, not %q", b, back, f, l)
		}
	}
}

func TestReadHoweverFolded(t *testing.T) { // P10.2, P3
	r := rand.New(rand.NewSource(2))
	size := func(s string) string {
		if r.Intn(2) == 0 {
			return strings.ToLower(s)
		}
		return s
	}
	for range 1000 {
		l := someLine(r)
		s := size(l.Name)
		for _, p := range l.Params {
			s += ";" + size(p.Name) + "="
			if strings.ContainsAny(p.Value, ";:,") || r.Intn(2) == 0 {
				s += `"` + p.Value + `"`
			} else {
				s += p.Value
			}
		}
		s += ":" + l.Value
		if one, e := One(s); e != api.OK || !same(one, l) {
			t.Fatalf("One(%q): %q %v, not %q", s, one, e, l)
		}
		var b []byte
		for at := range len(s) {
			for r.Intn(10) == 0 {
				b = append(b, "\r\n"+[]string{" ", "\t"}[r.Intn(2)]...)
			}
			b = append(b, s[at])
		}
		b = append(b, "\r\n"...)
		if back, f := Read(b); f != (api.Fault{}) || len(back) != 1 || !same(back[0], l) {
			t.Fatalf("Read(%q): %q %v, not %q", b, back, f, l)
		}
		// Torn anywhere, it is something else, or nothing.
		at := r.Intn(len(b))
		checkBytes(t, string(b[:at])+someText(r, []string{"\r\n", " ", ":", "\n", "\xff", `"`}, r.Intn(2))+string(b[min(len(b), at+r.Intn(3)):]))
	}
}

func TestEscapeExamples(t *testing.T) { // P10.3
	for s, want := range map[string]string{
		"": "", "a;b": `a\;b`, "a": "a", `\`: `\\`, ";": `\;`, ",": `\,`, "\n": `\n`, "\r\n": "\r\\n", `\n`: `\\n`, `\;`: `\\\;`, "n": "n", ":\"": ":\"", "\t\x00\xff é": "\t\x00\xff é", "a\n\n, b;;\\": `a\n\n\, b\;\;\\`,
	} {
		if got := Escape(s); got != want {
			t.Errorf("Escape(%q): %q", s, got)
		}
		if back, e := Unescape(want); back != s || e != api.OK {
			t.Errorf("Unescape(%q): %q %v", want, back, e)
		}
	}
	for s, want := range map[string]string{`\N`: "\n", `a\Nb\nc`: "a\nb\nc", `\\N`: `\N`, `\\\N`: "\\\n", "\r": "\r", `N`: "N"} {
		if got, e := Unescape(s); got != want || e != api.OK {
			t.Errorf("Unescape(%q): %q %v", s, got, e)
		}
	}
	for _, s := range []string{`\`, `a\`, `\\\`, ";", ",", "\n", "a;b", "a,b", "a\nb", `\a`, `\r`, `\ `, `\:`, `\"`, "\\\n", "\\\x00", "\\é", `\\;`, `\\,`, `\n;`, `\;;`, "\\n\n", `\\\\\`, `\t`, `a\x,b`} {
		if got, e := Unescape(s); got != "" || e != api.ErrSheet {
			t.Errorf("Unescape(%q): %q %v", s, got, e)
		}
	}
}

func TestEscapeEveryByte(t *testing.T) { // P10.3
	for c := range 256 {
		b := string([]byte{byte(c)})
		want := "x" + b + "y"
		bare := true
		said, escaped := "", false
		switch c {
		case '\\':
			want, said, escaped, bare = `x\\y`, b, true, false
		case ';', ',':
			want, said, escaped, bare = `x\`+b+"y", b, true, false
		case '\n':
			want, bare = `x\ny`, false
		case 'n', 'N':
			said, escaped = "\n", true
		}
		if got := Escape("x" + b + "y"); got != want {
			t.Errorf("Escape of the byte %d: %q", c, got)
		}
		if got, e := Unescape("x" + b + "z"); bare != (e == api.OK) || bare && got != "x"+b+"z" || !bare && (got != "" || e != api.ErrSheet) {
			t.Errorf("Unescape of the byte %d: %q %v", c, got, e)
		}
		if got, e := Unescape(`x\` + b + "z"); escaped != (e == api.OK) || escaped && got != "x"+said+"z" || !escaped && (got != "" || e != api.ErrSheet) {
			t.Errorf("Unescape of the byte %d behind a \\: %q %v", c, got, e)
		}
	}
}

func TestEscapeAllShort(t *testing.T) { // P10.3, P10.6
	pieces := []string{`\`, ";", ",", "\n", "n", "N", "x", "\xc3"}
	right := regexp.MustCompile(`\A(?:[^\\;,\n]|\\[\\;,nN])*\z`)
	escape := regexp.MustCompile(`(?s)\\(.)`)
	allTexts(pieces, 6, func(s string) {
		escaped := Escape(s)
		if back, e := Unescape(escaped); back != s || e != api.OK {
			t.Fatalf("Unescape(%q): %q %v, not %q", escaped, back, e, s)
		}
		got, e := Unescape(s)
		if (e == api.OK) != right.MatchString(s) || e != api.OK && (got != "" || e != api.ErrSheet) {
			t.Fatalf("Unescape(%q): %q %v", s, got, e)
		}
		if e != api.OK {
			return
		}
		// In one way alone: what is read is written as it stood, but for \N.
		want := escape.ReplaceAllStringFunc(s, func(two string) string { return strings.Replace(two, "N", "n", 1) })
		if again := Escape(got); again != want {
			t.Fatalf("Escape(%q): %q, not %q", got, again, want)
		}
	})
}

func TestEscapedIsAValue(t *testing.T) { // P10.4, P10.6
	r := rand.New(rand.NewSource(3))
	for range 500 {
		s := someText(r, []string{"a", "\n", ";", ",", `\`, "é", " ", "n"}, r.Intn(300))
		b, e := Write([]api.Line{of("SUMMARY", Escape(s))})
		if e != api.OK {
			t.Fatalf("Write of %q: %v", s, e)
		}
		l, _ := Read(b)
		if len(l) != 1 {
			t.Fatalf("Read(%q): %q", b, l)
		}
		if back, e := Unescape(l[0].Value); back != s || e != api.OK {
			t.Fatalf("%q came back as %q %v", s, back, e)
		}
	}
}

func TestNothingIsChangedOrKept(t *testing.T) { // Rules 4 and 5
	all := of("A", "", "B", "1", "C", "2", "B", "3", "", "").Params
	l := []api.Line{{Name: "A", Params: all[:2], Value: "v"}, of("", "")}
	if b, e := Write(l[:1]); string(b) != "A;B=1;C=2:v\r\n" || e != api.OK || !Right(l[0]) {
		t.Errorf("Write: %q %v", b, e)
	}
	if !slices.Equal(all, of("A", "", "B", "1", "C", "2", "B", "3", "", "").Params) {
		t.Errorf("changed: %q", all)
	}
	room := []byte("A;B=c:d\r\n e\r\nF;G=h:i\r\n behind")
	was := bytes.Clone(room)
	got, f := Read(room[:len(room)-7])
	if !bytes.Equal(room, was) || len(got) != 2 || f != (api.Fault{}) {
		t.Fatalf("Read: %q %v, changed to %q", got, f, room)
	}
	for i := range room {
		room[i] = '!'
	}
	_ = append(got[0].Params, api.Param{Name: "!"})
	got[0].Params[0].Value = "!"
	if !same(got[0], of("A", "de", "B", "!")) || !same(got[1], of("F", "i", "G", "h")) {
		t.Errorf("what was read shares memory: %q", got)
	}
	one, _ := One("A;B=c:d")
	two, _ := One("A;B=c:d")
	one.Params[0].Value = "!"
	if two.Params[0].Value != "c" {
		t.Errorf("two answers share memory")
	}
}

func TestLongTextsEnd(t *testing.T) { // P1
	for _, piece := range []string{`"`, `\`, ";", " ", "A", ":", "=", ";A=b", `;A="`, "A:b\r\n", "\r\n ", "\r\n", "\x00", "\xff", "é", "\r", "\n"} {
		s := strings.Repeat(piece, (api.MaxText-10)/len(piece))
		for _, s := range []string{s, "A:" + s, "A;B=" + s, `A;B="` + s, `A;B="` + s + `":`, "A" + s + ":"} {
			if l, e := One(s); !none(l, e) {
				t.Errorf("One of many %q: %v", piece, e)
			}
			if l, f := Read([]byte(s)); f != (api.Fault{}) && len(l) != 0 {
				t.Errorf("Read of many %q: %d %v", piece, len(l), f)
			}
			if back, e := Unescape(Escape(s)); back != s || e != api.OK {
				t.Errorf("Unescape of many %q: %v", piece, e)
			}
		}
		for _, l := range []api.Line{of(s, ""), of("A", s), of("A", "", s, ""), of("A", "", "B", s)} {
			if Right(l) {
				t.Errorf("Right of many %q", piece)
			}
		}
	}
	if Right(of("A", "", many(100000)...)) {
		t.Errorf("Right of many parameters")
	}
	longest := of(some(64), some(4096))
	for i := range 16 {
		longest.Params = append(longest.Params, api.Param{Name: some(62) + strconv.Itoa(10+i), Value: some(256)})
	}
	if b, e := Write(slices.Repeat([]api.Line{longest}, 4096)); e != api.OK || len(b) < 4096*9000 {
		t.Errorf("Write of many long ones: %d %v", len(b), e)
	}
}
