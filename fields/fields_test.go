package fields

import (
	"bytes"
	"fmt"
	"math/rand"
	"net/mail"
	"reflect"
	"regexp"
	"strings"
	"testing"

	"posthorn/api"
)

// allTexts calls see with each text of at most n pieces of those given.
func allTexts(from []string, n int, see func(s string)) {
	var grow func(s string, n int)
	grow = func(s string, n int) {
		see(s)
		for i := 0; i < len(from) && n > 0; i++ {
			grow(s+from[i], n-1)
		}
	}
	grow("", n)
}

// someText is a text of n pieces of those given.
func someText(r *rand.Rand, from []string, n int) string {
	var s strings.Builder
	for range n {
		s.WriteString(from[r.Intn(len(from))])
	}
	return s.String()
}

// some is so many times a.
func some(n int) string { return strings.Repeat("a", n) }

// list is fields, of their names and values in turn.
func list(l ...string) []api.Field {
	var out []api.Field
	for at := 0; at < len(l); at += 2 {
		out = append(out, api.Field{Name: l[at], Value: l[at+1]})
	}
	return out
}

// one is a list of one field.
func one(name, value string) []api.Field { return []api.Field{{Name: name, Value: value}} }

// same tells whether lists are alike, nil and empty ones, too.
func same(a, b []api.Field) bool { return len(a) == 0 && len(b) == 0 || reflect.DeepEqual(a, b) }

func TestSameExamples(t *testing.T) { // P6.1
	for _, c := range []struct {
		a, b string
		want bool
	}{
		{"", "", true},
		{"a", "A", true},
		{"Content-Type", "cONTENT-tYPE", true},
		{"a", "", false},
		{"", "a", false},
		{"a", "ab", false},
		{"ab", "a", false},
		{"ab", "ac", false},
		{"a ", "a", false},
		{"s", "\u017f", false},
		{"K", "\u212a", false},
		{"\u017f", "ss", false},
		{"É", "é", false},
		{"É", "É", true},
		{"\xff", "\xfe", false},
		{"\xff", "\xff", true},
		{some(5000), strings.Repeat("A", 5000), true},
	} {
		if Same(c.a, c.b) != c.want {
			t.Errorf("Same(%q, %q): %v", c.a, c.b, !c.want)
		}
	}
}

func TestSameEveryTwoBytes(t *testing.T) { // P6.1
	for a := range 256 {
		for b := range 256 {
			want := a == b
			if a|32 == b|32 && a|32 >= 'a' && a|32 <= 'z' {
				want = true
			}
			if Same(string([]byte{'x', byte(a)}), string([]byte{'X', byte(b)})) != want {
				t.Errorf("Same of %d and %d: %v", a, b, !want)
			}
		}
	}
}

func TestGet(t *testing.T) { // P6.1
	l := list("To", "", "Cc", "x", "TO", "b", "to", "c", "cC", "y", "", "none", "a b", " ")
	for _, c := range []struct {
		name, value string
		n           int
	}{
		{"to", "", 3},
		{"CC", "x", 2},
		{"cc", "x", 2},
		{"", "none", 1},
		{"A B", " ", 1},
		{"Bcc", "", 0},
		{"c", "", 0},
		{"to:", "", 0},
	} {
		if v, n := Get(l, c.name); v != c.value || n != c.n {
			t.Errorf("Get(%q): %q %d", c.name, v, n)
		}
	}
	if v, n := Get(nil, "a"); v != "" || n != 0 {
		t.Errorf("Get of nothing: %q %d", v, n)
	}
	if v, n := Get(l[:2:2], "to"); v != "" || n != 1 {
		t.Errorf("Get of two: %q %d", v, n)
	}
}

func TestParseExamples(t *testing.T) { // P6.2
	for _, c := range []struct {
		in   string
		n    int
		want []api.Field
	}{
		{"\r\n", 2, nil},
		{"\r\n\r\n", 2, nil},
		{"\r\na: b\r\n\r\n", 2, nil},
		{"Subject: a\r\n b\r\n\r\n", 18, one("Subject", "a b")},
		{"a:b\r\n\r\nrest", 7, one("a", "b")},
		{"a:\r\n\r\n", 6, one("a", "")},
		{"a: \t \r\n\r\n", 9, one("a", "")},
		{"a: \r\n \r\n\t\r\n\r\n", 13, one("a", "")},
		{"a: \t b c\t \r\n\r\n", 14, one("a", "b c")},
		{"a:\r\n b\r\n\r\n", 10, one("a", "b")},
		{"a:\r\n\tb\r\n\r\n", 10, one("a", "b")},
		{"a: b\r\n\tc\r\n\r\n", 12, one("a", "b\tc")},
		{"a: b \r\n c\r\n\r\n", 13, one("a", "b  c")},
		{"a: b\r\n \r\n c \r\n\r\n", 16, one("a", "b  c")},
		{"a: b\r\n  c\r\n \t\r\n\r\n", 17, one("a", "b  c")},
		{"a::b: c\r\n\r\n", 11, one("a", ":b: c")},
		{"a:b:\r\n\r\n", 8, one("a", "b:")},
		{"!~: !~\r\n\r\n", 10, one("!~", "!~")},
		{"a: b\r\nA: c\r\na:\r\n\r\n\r\n", 18, list("a", "b", "A", "c", "a", "")},
		{"a: 1\r\n 2\r\nb: 3\r\n :4\r\n\r\n", 23, list("a", "1 2", "b", "3 :4")},
		{some(64) + ":b\r\n\r\n", 70, one(some(64), "b")},
		{"a:" + some(996) + "\r\n\r\n", 1002, one("a", some(996))},
		{"a:" + some(996) + "\r\n " + some(997) + "\r\n\r\n", 2002, one("a", some(996)+" "+some(997))},
	} {
		for _, behind := range []string{"", "\r", "b: c\r\n\r\n", "\xff\x00"} {
			l, n, f := Parse([]byte(c.in + behind))
			if !same(l, c.want) || n != c.n || f != (api.Fault{}) {
				t.Errorf("Parse(%q): %q %d %v", c.in, l, n, f)
			}
		}
	}
}

func TestParseFaults(t *testing.T) { // P6.2
	for _, c := range []struct {
		in   string
		want api.Fault
	}{
		{"", api.Fault{At: 0, Code: api.ErrShort}},
		{"\r", api.Fault{At: 0, Code: api.ErrShort}},
		{"\n", api.Fault{At: 0, Code: api.ErrShort}},
		{"a: b", api.Fault{At: 0, Code: api.ErrShort}},
		{"a: b\r\n", api.Fault{At: 6, Code: api.ErrShort}},
		{"a: b\r\n\r", api.Fault{At: 6, Code: api.ErrShort}},
		{"a: b\r\n\n", api.Fault{At: 6, Code: api.ErrShort}},
		{"a: b\r\nc", api.Fault{At: 6, Code: api.ErrShort}},
		{"a: b\r\n c", api.Fault{At: 6, Code: api.ErrShort}},
		{"a: b\n\n", api.Fault{At: 0, Code: api.ErrShort}},
		{" a: b\r\n\r\n", api.Fault{At: 0, Code: api.ErrField}},
		{"\t\r\n\r\n", api.Fault{At: 0, Code: api.ErrField}},
		{" ", api.Fault{At: 0, Code: api.ErrShort}},
		{"a\r\n\r\n", api.Fault{At: 0, Code: api.ErrField}},
		{":b\r\n\r\n", api.Fault{At: 0, Code: api.ErrField}},
		{":\r\n\r\n", api.Fault{At: 0, Code: api.ErrField}},
		{"a : b\r\n\r\n", api.Fault{At: 0, Code: api.ErrField}},
		{"a\t: b\r\n\r\n", api.Fault{At: 0, Code: api.ErrField}},
		{"a\x7f: b\r\n\r\n", api.Fault{At: 0, Code: api.ErrField}},
		{"é: b\r\n\r\n", api.Fault{At: 0, Code: api.ErrField}},
		{"a: é\r\n\r\n", api.Fault{At: 0, Code: api.ErrField}},
		{"a: b\nc: d\r\n\r\n", api.Fault{At: 0, Code: api.ErrField}},
		{"a: b\r\r\n\r\n", api.Fault{At: 0, Code: api.ErrField}},
		{"\n\r\n", api.Fault{At: 0, Code: api.ErrField}},
		{"\r\r\n", api.Fault{At: 0, Code: api.ErrField}},
		{"a: b\r\nc\r\n\r\n", api.Fault{At: 6, Code: api.ErrField}},
		{"a: b\r\n\n\r\n\r\n", api.Fault{At: 6, Code: api.ErrField}},
		{"a: b\r\nc: \x00\r\n d\r\n\r\n", api.Fault{At: 6, Code: api.ErrField}},
		{"a: b\r\nc: d\r\n \x00\r\n\r\n", api.Fault{At: 6, Code: api.ErrField}},
		{some(65) + ": b\r\n\r\n", api.Fault{At: 0, Code: api.ErrField}},
		{"a:" + some(997) + "\r\n\r\n", api.Fault{At: 0, Code: api.ErrLine}},
		{"a: b\r\n " + some(998) + "\r\n\r\n", api.Fault{At: 6, Code: api.ErrLine}},
	} {
		l, n, f := Parse([]byte(c.in))
		if l != nil || n != 0 || f != c.want {
			t.Errorf("Parse(%q): %q %d %v, not %v", c.in, l, n, f, c.want)
		}
	}
}

func TestParseFirstFaultOfAll(t *testing.T) { // P6.2
	bad := "a: \x01\r\n"
	for _, c := range []struct {
		name, in string
		want     api.Fault
	}{
		{"short ahead of line", some(2000), api.Fault{At: 0, Code: api.ErrShort}},
		{"no field ahead of short in the next one", "b\r\n", api.Fault{At: 0, Code: api.ErrField}},
		{"short ahead of no field ahead", " b", api.Fault{At: 0, Code: api.ErrShort}},
		{"line ahead of no field ahead", " " + some(998) + "\r\n", api.Fault{At: 0, Code: api.ErrLine}},
		{"line ahead of no colon", some(999) + "\r\n", api.Fault{At: 0, Code: api.ErrLine}},
		{"no value is told at the empty line", bad + "\r\n", api.Fault{At: 0, Code: api.ErrField}},
		{"no value is told at the next field", bad + "b: c\r\n", api.Fault{At: 0, Code: api.ErrField}},
		{"no value ahead of the next field's fault", bad + "b\r\n", api.Fault{At: 0, Code: api.ErrField}},
		{"no value ahead of the next field's no value", bad + "b:\x01\r\n\r\n", api.Fault{At: 0, Code: api.ErrField}},
		{"the next line is short ahead of no value", bad, api.Fault{At: 6, Code: api.ErrShort}},
		{"the next line, too, with a byte", bad + "b", api.Fault{At: 6, Code: api.ErrShort}},
		{"the next line is long ahead of no value", bad + some(999) + "\r\n", api.Fault{At: 6, Code: api.ErrLine}},
		{"a line that goes on is long ahead of no value", bad + " " + some(998) + "\r\n", api.Fault{At: 6, Code: api.ErrLine}},
		{"no value of the second field", "b: c\r\n" + bad + "\r\n", api.Fault{At: 6, Code: api.ErrField}},
		{"faults of the first line come first", "b\r\n" + bad + "\r\n", api.Fault{At: 0, Code: api.ErrField}},
	} {
		if l, n, f := Parse([]byte(c.in)); l != nil || n != 0 || f != c.want {
			t.Errorf("%s: %q %d %v, not %v", c.name, l, n, f, c.want)
		}
	}
}

// valued is a header's field with a Value of n bytes, in lines.
func valued(n int) string {
	s := "a: b"
	for n--; n > 0; n -= min(n, 900) {
		s += "\r\n " + some(min(n, 900)-1)
	}
	return s + "\r\n"
}

func TestParseLongValues(t *testing.T) { // P6.2
	l, n, f := Parse([]byte(valued(4096) + "\r\n"))
	if len(l) != 1 || len(l[0].Value) != 4096 || n != len(valued(4096))+2 || f != (api.Fault{}) {
		t.Errorf("a Value at the limit: %d %v", n, f)
	}
	// Blanks at a Value's end go, however many there are.
	l, _, f = Parse([]byte(valued(4096) + strings.Repeat(" \r\n\t\r\n", 5000) + "\r\n"))
	if len(l) != 1 || len(l[0].Value) != 4096 || f != (api.Fault{}) {
		t.Errorf("a Value at the limit, and blanks: %v", f)
	}
	for _, behind := range []string{"\r\n", "b: c\r\n\r\n", "b\r\n"} {
		l, n, f = Parse([]byte("b: c\r\n" + valued(4097) + behind))
		if l != nil || n != 0 || f != (api.Fault{At: 6, Code: api.ErrField}) {
			t.Errorf("a Value one beyond it: %q %d %v", l, n, f)
		}
	}
	l, n, f = Parse([]byte(valued(5000)))
	if l != nil || n != 0 || f != (api.Fault{At: len(valued(5000)), Code: api.ErrShort}) {
		t.Errorf("a Value that is not over: %q %d %v", l, n, f)
	}
}

func TestParseManyFields(t *testing.T) { // P6.2
	most := strings.Repeat("a: b\r\n", 128)
	l, n, f := Parse([]byte(most + "\r\n"))
	if len(l) != 128 || n != 128*6+2 || f != (api.Fault{}) {
		t.Errorf("at the limit: %d %d %v", len(l), n, f)
	}
	for _, c := range []struct {
		behind string
		want   api.Fault
	}{
		{"c: d\r\n\r\n", api.Fault{At: 768, Code: api.ErrField}},
		{"c: d\r\n e\r\n\r\n", api.Fault{At: 768, Code: api.ErrField}},
		{"c: d\r\nf: g\r\n\r\n", api.Fault{At: 768, Code: api.ErrField}},
		{"c: d\r\nf\r\n", api.Fault{At: 768, Code: api.ErrField}},
		{"c: d\r\n", api.Fault{At: 774, Code: api.ErrShort}},
		{"c: d\r\n e", api.Fault{At: 774, Code: api.ErrShort}},
		{"c: d\r\n " + some(998) + "\r\n\r\n", api.Fault{At: 774, Code: api.ErrLine}},
		{"c: d\r\n" + some(999) + "\r\n\r\n", api.Fault{At: 774, Code: api.ErrLine}},
		{"c\r\n\r\n", api.Fault{At: 768, Code: api.ErrField}},
		{" c\r\n\r\n", api.Fault{}},
	} {
		l, n, f = Parse([]byte(most + c.behind))
		if f != c.want || (f.Code != api.OK) != (l == nil) || (f.Code != api.OK) != (n == 0) {
			t.Errorf("with %q: %d %d %v, not %v", c.behind, len(l), n, f, c.want)
		}
	}
}

func TestParseEveryByte(t *testing.T) { // P6.2
	for c := range 256 {
		s := string([]byte{byte(c)})
		want := one("n"+s+"n", "v")
		if c == ':' {
			want = one("n", "n:v")
		}
		named := c > 32 && c <= 126
		if l, _, f := Parse([]byte("n" + s + "n:v\r\n\r\n")); (f.Code == api.OK) != named || named && !same(l, want) {
			t.Errorf("the byte %d in a Name: %q %v", c, l, f)
		}
		valued := c >= 32 && c <= 126 || c == 9
		if l, _, f := Parse([]byte("n:v" + s + "v\r\n\r\n")); (f.Code == api.OK) != valued || valued && !same(l, one("n", "v"+s+"v")) {
			t.Errorf("the byte %d in a Value: %q %v", c, l, f)
		}
	}
}

var (
	opening = regexp.MustCompile(`\A([!-9;-~]{1,64}):((?s).*)\z`)
	printed = regexp.MustCompile(`\A[\t -~]*\z`)
)

// slowParse reads a header whose lines and fields are few and short: first all lines, then what they say.
func slowParse(s string) ([]api.Field, int, api.Fault) {
	var out []api.Field
	var faults []api.Fault
	places := []int{}
	rows := strings.Split(s, "\r\n")
	at := 0
	check := func() {
		if n := len(out); n > 0 && len(faults) == 0 {
			out[n-1].Value = strings.Trim(out[n-1].Value, " \t")
			if !printed.MatchString(out[n-1].Value) {
				faults = append(faults, api.Fault{At: places[n-1], Code: api.ErrField})
			}
		}
	}
	for n, row := range rows {
		if n == len(rows)-1 {
			faults = append(faults, api.Fault{At: at, Code: api.ErrShort})
		} else if row == "" {
			if check(); len(faults) == 0 {
				return out, at + 2, api.Fault{}
			}
		} else if strings.Trim(row[:1], " \t") == "" {
			if len(out) == 0 {
				faults = append(faults, api.Fault{At: at, Code: api.ErrField})
			} else {
				out[len(out)-1].Value += row
			}
		} else {
			check()
			m := opening.FindStringSubmatch(row)
			if m == nil {
				faults = append(faults, api.Fault{At: at, Code: api.ErrField})
			} else {
				out, places = append(out, api.Field{Name: m[1], Value: m[2]}), append(places, at)
			}
		}
		if len(faults) > 0 {
			break
		}
		at += len(row) + 2
	}
	return nil, 0, faults[0]
}

func TestParseAllShortHeaders(t *testing.T) { // P6.2
	see := func(s string) {
		l, n, f := Parse([]byte(s))
		wl, wn, wf := slowParse(s)
		if !same(l, wl) || n != wn || f != wf {
			t.Fatalf("Parse(%q): %q %d %v, not %q %d %v", s, l, n, f, wl, wn, wf)
		}
	}
	allTexts([]string{"a", ":", " ", "\r\n", "\x01"}, 7, see)
	allTexts([]string{"a:", "b", " ", "\t", "\r\n", "\r\n ", "\r", "\n"}, 5, func(s string) {
		see(s)
		see(s + "\r\n\r\n")
	})
}

func TestWriteExamples(t *testing.T) { // P6.3
	for _, c := range []struct {
		in  []api.Field
		out string
	}{
		{nil, "\r\n"},
		{[]api.Field{}, "\r\n"},
		{one("a", "b"), "a: b\r\n\r\n"},
		{one("a", ""), "a:\r\n\r\n"},
		{one("a", ":"), "a: :\r\n\r\n"},
		{one("a", "b\tc  d"), "a: b\tc  d\r\n\r\n"},
		{list("a", "b", "A", "", "a", "c d"), "a: b\r\nA:\r\na: c d\r\n\r\n"},
		{one(some(64), "b c"), some(64) + ": b c\r\n\r\n"},
		{one(some(64), ""), some(64) + ":\r\n\r\n"},
		// A line of 76 bytes stays, one of 77 is folded.
		{one("a", "b "+some(71)), "a: b " + some(71) + "\r\n\r\n"},
		{one("a", "b "+some(72)), "a: b\r\n " + some(72) + "\r\n\r\n"},
		// The blank at the place 76 is the last one that a line is folded at, if there is one ahead of it.
		{one("a", "b "+some(71)+" c"), "a: b " + some(71) + "\r\n c\r\n\r\n"},
		{one("a", "b "+some(72)+" c"), "a: b\r\n " + some(72) + " c\r\n\r\n"},
		{one("a", some(73)+" c"), "a: " + some(73) + "\r\n c\r\n\r\n"},
		{one("a", some(74)+" c"), "a: " + some(74) + "\r\n c\r\n\r\n"},
		{one("a", some(500)+" c d"), "a: " + some(500) + "\r\n c d\r\n\r\n"},
		// The blank ahead of the Value is none to fold at, nor the one that a line begins with, nor a tab.
		{one("a", some(74)), "a: " + some(74) + "\r\n\r\n"},
		{one(some(64), some(20)), some(64) + ": " + some(20) + "\r\n\r\n"},
		{one(some(64), some(20)+" b"), some(64) + ": " + some(20) + "\r\n b\r\n\r\n"},
		{one("a", "b "+some(90)+" c"), "a: b\r\n " + some(90) + "\r\n c\r\n\r\n"},
		{one("a", "b\t"+some(90)+" c"), "a: b\t" + some(90) + "\r\n c\r\n\r\n"},
		{one("a", "b\t"+some(90)), "a: b\t" + some(90) + "\r\n\r\n"},
		{one("a", "b :"+some(90)), "a: b\r\n :" + some(90) + "\r\n\r\n"},
		// Of two blanks that stand together the last one begins the next line.
		{one("a", "b  "+some(90)), "a: b \r\n " + some(90) + "\r\n\r\n"},
		{one("a", some(90)+"  b"), "a: " + some(90) + "\r\n  b\r\n\r\n"},
		{one("a", some(90)+"  "+some(90)), "a: " + some(90) + "\r\n \r\n " + some(90) + "\r\n\r\n"},
		{one("a", "b"+strings.Repeat(" ", 100)+"c"), "a: b" + strings.Repeat(" ", 72) + "\r\n" + strings.Repeat(" ", 28) + "c\r\n\r\n"},
		{one("a", "b\t\t c \t "+some(70)), "a: b\t\t c \t\r\n " + some(70) + "\r\n\r\n"},
		// Lines at the limit.
		{one("a", some(995)), "a: " + some(995) + "\r\n\r\n"},
		{one("a", "b "+some(997)), "a: b\r\n " + some(997) + "\r\n\r\n"},
	} {
		if b, e := Write(c.in); string(b) != c.out || e != api.OK {
			t.Errorf("Write(%q): %q %v, not %q", c.in, b, e, c.out)
		}
	}
}

func TestWriteFaults(t *testing.T) { // P6.3
	many := make([]api.Field, 129)
	full := make([]api.Field, 128)
	for at := range full {
		full[at] = api.Field{Name: "a", Value: "b"}
	}
	for _, c := range []struct {
		name string
		in   []api.Field
		want api.Errno
	}{
		{"one field too many", append(full[:128:128], full[0]), api.ErrLong},
		{"too many that may not be", many, api.ErrLong},
		{"no name", one("", "b"), api.ErrField},
		{"a long name", one(some(65), "b"), api.ErrField},
		{"a blank in a name", one("a b", ""), api.ErrField},
		{"a colon in a name", one("a:", ""), api.ErrField},
		{"a blank ahead", one("a", " b"), api.ErrField},
		{"a tab ahead", one("a", "\tb"), api.ErrField},
		{"a blank behind", one("a", "b "), api.ErrField},
		{"a tab behind", one("a", "b\t"), api.ErrField},
		{"a blank alone", one("a", " "), api.ErrField},
		{"a pair", one("a", "b\r\n c"), api.ErrField},
		{"a long value", one("a", strings.Repeat("b ", 2048)+"b"), api.ErrField},
		{"the last field", append(full[:127:127], api.Field{Name: "a", Value: "\x7f"}), api.ErrField},
		{"a field ahead of a line", list("a", some(996), "", ""), api.ErrField},
		{"a long line", one("a", some(996)), api.ErrLine},
		{"a long line with a long name", one(some(64), some(933)), api.ErrLine},
		{"a long line behind", one("a", "b "+some(998)), api.ErrLine},
		{"a long line ahead", one("a", some(996)+" b"), api.ErrLine},
		{"a long line with tabs", one("a", some(500)+"\t"+some(500)), api.ErrLine},
		{"a long line of the last field", append(full[:127:127], api.Field{Name: "a", Value: some(4096)}), api.ErrLine},
	} {
		if b, e := Write(c.in); b != nil || e != c.want {
			t.Errorf("%s: %q %v, not %v", c.name, b, e, c.want)
		}
	}
	if b, e := Write(full); string(b) != strings.Repeat("a: b\r\n", 128)+"\r\n" || e != api.OK {
		t.Errorf("so many fields as may be: %q %v", b, e)
	}
	if b, e := Write(one("a", strings.Repeat("b ", 2047)+"bb")); len(b) < 4096 || e != api.OK {
		t.Errorf("a Value at the limit: %d bytes, %v", len(b), e)
	}
}

func TestWriteEveryByte(t *testing.T) { // P6.3
	for c := range 256 {
		s := string([]byte{byte(c)})
		if _, e := Write(one("n"+s+"n", "v")); (e == api.OK) != (c > 32 && c <= 126 && c != ':') {
			t.Errorf("the byte %d in a Name: %v", c, e)
		}
		if _, e := Write(one("n", "v"+s+"v")); (e == api.OK) != (c >= 32 && c <= 126 || c == 9) {
			t.Errorf("the byte %d in a Value: %v", c, e)
		}
		if _, e := Write(one("n", s)); (e == api.OK) != (c > 32 && c <= 126) {
			t.Errorf("the byte %d as a Value: %v", c, e)
		}
	}
}

// slowFold is a field's lines, with the places of all blanks of the line looked at one by one.
func slowFold(f api.Field) string {
	out, row, first := "", strings.TrimSuffix(f.Name+": "+f.Value, " "), len(f.Name)+2
	for len(row) > 76 {
		before, behind := -1, -1
		for at := first + 1; at < len(row); at++ {
			if row[at] == ' ' && at <= 76 {
				before = at
			}
			if row[at] == ' ' && at > 76 && behind < 0 {
				behind = at
			}
		}
		if before < 0 {
			before = behind
		}
		if before < 0 {
			break
		}
		out += row[:before] + "\r\n"
		row, first = row[before:], 0
	}
	return out + row + "\r\n"
}

// someFields are fields that may be.
func someFields(rnd *rand.Rand) []api.Field {
	from := []string{"a", "b", " ", " ", "\t", "  ", ":", some(10), some(25), some(74), some(76), some(77), "~"}
	var l []api.Field
	for range rnd.Intn(6) {
		name := someText(rnd, []string{"A", "b", "-", "!", "~", some(20)}, 1+rnd.Intn(4))
		value := strings.Trim(someText(rnd, from, rnd.Intn(60)), " \t")
		l = append(l, api.Field{Name: name[:min(len(name), 64)], Value: value})
	}
	return l
}

func TestHeadersThereAndBack(t *testing.T) { // P2, P6.3, P6.4, P6.6
	rnd := rand.New(rand.NewSource(6))
	for range 5000 {
		l := someFields(rnd)
		want := ""
		for _, f := range l {
			want += slowFold(f)
		}
		want += "\r\n"
		b, e := Write(l)
		if e == api.ErrLine {
			continue
		}
		if string(b) != want || e != api.OK {
			t.Fatalf("Write(%q): %q %v, not %q", l, b, e, want)
		}
		back, n, f := Parse(append(b, "rest"...))
		if !same(back, l) || n != len(b) || f != (api.Fault{}) {
			t.Fatalf("Parse(%q): %q %d %v", b, back, n, f)
		}
		for _, row := range strings.Split(string(b), "\r\n") {
			// What could be folded: blanks behind the one ahead of a Value, or behind the one that the line begins with.
			_, rest, first := strings.Cut(row, ": ")
			if !first || row[0] == ' ' {
				rest = row[min(1, len(row)):]
			}
			if len(row) > 76 && strings.Contains(rest, " ") {
				t.Fatalf("Write(%q): %q could be folded", l, row)
			}
		}
	}
}

func TestWrittenAsTheLibraryReads(t *testing.T) { // P6.3, P6.4
	rnd := rand.New(rand.NewSource(7))
	for range 2000 {
		value := strings.Join(strings.Fields(someText(rnd, []string{"a", " ", ":", some(30), some(80)}, rnd.Intn(50))), " ")
		b, e := Write(list("X-Some", value, "Y", "z"))
		if e != api.OK {
			continue
		}
		m, err := mail.ReadMessage(bytes.NewReader(b))
		if err != nil || m.Header.Get("X-Some") != value || m.Header.Get("Y") != "z" {
			t.Fatalf("%q: %v %q", b, err, m)
		}
	}
}

func TestReadHeadersAreWritten(t *testing.T) { // P6.5
	rnd := rand.New(rand.NewSource(8))
	from := []string{"a", ":", " ", "\t", "\r\n ", "\r\n\t", "\r\nb:", "\r\n", some(70), some(300), "~"}
	read := 0
	for range 40000 {
		s := "a:" + someText(rnd, from, rnd.Intn(20)) + "\r\n\r\n"
		l, _, f := Parse([]byte(s))
		if f.Code != api.OK {
			continue
		}
		read++
		b, e := Write(l)
		if e == api.ErrLine {
			continue
		}
		if e != api.OK {
			t.Fatalf("Write(%q): %v", l, e)
		}
		if again, n, f := Parse(b); !same(again, l) || n != len(b) || f.Code != api.OK {
			t.Fatalf("%q: %q, then %q %v", s, l, again, f)
		}
	}
	if read < 1000 {
		t.Errorf("%d headers were read", read)
	}
}

// folds calls see with a line, folded ahead of any of its blanks and tabs.
func folds(s string, see func(string)) {
	var places []int
	for at := 1; at < len(s); at++ {
		if s[at] == ' ' || s[at] == '\t' {
			places = append(places, at)
		}
	}
	for set := range 1 << len(places) {
		var out strings.Builder
		last := 0
		for n, at := range places {
			if set>>n&1 == 1 {
				out.WriteString(s[last:at] + "\r\n")
				last = at
			}
		}
		see(out.String() + s[last:])
	}
}

func TestHeadersHoweverFolded(t *testing.T) { // P3
	for _, c := range []struct{ line, value string }{
		{"A: b", "b"},
		{"A:", ""},
		{"A: \t ", ""},
		{"A:b c\td", "b c\td"},
		{"A: b  c \t d  ", "b  c \t d"},
		{"A:\t b: c :d\t\te ", "b: c :d\t\te"},
	} {
		folds(c.line, func(s string) {
			l, n, f := Parse([]byte("X: y\r\n" + s + "\r\nZ:\r\n\r\n"))
			want := list("X", "y", "A", c.value, "Z", "")
			if !same(l, want) || n != len(s)+14 || f != (api.Fault{}) {
				t.Fatalf("%q: %q %d %v", s, l, n, f)
			}
		})
	}
}

func TestNothingIsChangedOrShared(t *testing.T) { // rules 4, 5
	b := []byte("a: b\r\n c\r\n\r\nbehind")
	was := string(b)
	l, _, _ := Parse(b[:12])
	if string(b) != was {
		t.Errorf("Parse changed %q", b)
	}
	for at := range b {
		b[at] = 'z'
	}
	if !same(l, one("a", "b c")) {
		t.Errorf("Parse keeps what was handed in: %q", l)
	}
	two := list("a", "b", "c", some(80)+" d")
	before := fmt.Sprint(two)
	first, _ := Write(two[:1])
	Get(two, "c")
	Write(two)
	if fmt.Sprint(two) != before || string(first) != "a: b\r\n\r\n" {
		t.Errorf("Write changed %q, or has %q", two, first)
	}
}

// TestLongHeadersEnd would take far too long, if each line had all those ahead of it copied.
func TestLongHeadersEnd(t *testing.T) { // P1
	s := "a: b\r\n" + strings.Repeat(" \r\n", 1<<20)
	if l, n, f := Parse([]byte(s + "\r\n")); !same(l, one("a", "b")) || n != len(s)+2 || f != (api.Fault{}) {
		t.Errorf("%q %d %v", l, n, f)
	}
	if l, n, f := Parse([]byte(s + "\x01")); l != nil || n != 0 || f != (api.Fault{At: len(s), Code: api.ErrShort}) {
		t.Errorf("%q %d %v", l, n, f)
	}
	if _, e := Write(one("a", strings.Repeat(" ", 1<<22))); e != api.ErrField {
		t.Errorf("%v", e)
	}
}
