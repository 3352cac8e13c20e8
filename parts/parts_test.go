package parts

import (
	"bytes"
	"io"
	"math/rand"
	"mime/multipart"
	"reflect"
	"regexp"
	"slices"
	"strconv"
	"strings"
	"testing"

	"posthorn/api"
	"posthorn/bits"
	"posthorn/fields"
	"posthorn/kind"
	"posthorn/quoted"
)

// allTexts calls see with each text of at most n pieces of those given.
func allTexts(from []string, n int, see func(s string)) {
	var grow func(s string, n int)
	grow = func(s string, n int) {
		see(s)
		for i := 0; i < len(from) && n > 0; i++ {
			grow(s+from[i], n-1)
		}
	}
	grow("", n)
}

// someText is a text of n pieces of those given.
func someText(r *rand.Rand, from []string, n int) string {
	var s strings.Builder
	for range n {
		s.WriteString(from[r.Intn(len(from))])
	}
	return s.String()
}

// some is so many times a.
func some(n int) string { return strings.Repeat("a", n) }

// list is fields, of their names and values in turn.
func list(l ...string) []api.Field {
	var out []api.Field
	for at := 0; at < len(l); at += 2 {
		out = append(out, api.Field{Name: l[at], Value: l[at+1]})
	}
	return out
}

// leaf is one with a Body, and its fields' names and values in turn.
func leaf(body string, l ...string) api.Part {
	return api.Part{Fields: list(l...), Body: []byte(body)}
}

// tied is a knot with a border.
func tied(border string, l ...api.Part) api.Part {
	return api.Part{Fields: list("Content-Type", "multipart/mixed; boundary=\""+border+"\""), Parts: l}
}

// head is the header of tied, as bytes.
func head(border string) string {
	return "Content-Type: multipart/mixed; boundary=\"" + border + "\"\r\n\r\n"
}

// same tells whether parts are alike, with lists that are nil or empty, too.
func same(a, b api.Part) bool {
	return slices.Equal(a.Fields, b.Fields) && bytes.Equal(a.Body, b.Body) && slices.EqualFunc(a.Parts, b.Parts, same)
}

// copied is a part in memory of its own, for later comparison.
func copied(p api.Part) api.Part {
	out := api.Part{Fields: append([]api.Field{}, p.Fields...), Body: append([]byte{}, p.Body...)}
	for _, q := range p.Parts {
		out.Parts = append(out.Parts, copied(q))
	}
	return out
}

// none tells whether nothing is answered.
func none(p api.Part) bool { return reflect.DeepEqual(p, api.Part{}) }

var borderPattern = regexp.MustCompile(`\A[A-Za-z0-9._-]{1,70}\z`)

// slowKind is what Kind must answer: how many of the fields have that name, in whatever letters.
func slowKind(p api.Part) (api.Kind, api.Errno) {
	var values []string
	for _, f := range p.Fields {
		if strings.ToLower(f.Name) == "content-type" {
			values = append(values, f.Value)
		}
	}
	if len(values) > 1 {
		return api.Kind{}, api.ErrPart
	}
	return kind.Read(strings.Join(append(values, "text/plain")[:1], ""))
}

// slowBorder is a knot's border, if it has one.
func slowBorder(k api.Kind) (string, bool) {
	s, _ := kind.Get(k, "boundary")
	return s, borderPattern.MatchString(s)
}

// slowWrite is a tree's bytes, without a look at whether it is right.
func slowWrite(p api.Part) string {
	h, _ := fields.Write(p.Fields)
	s := string(h) + string(p.Body)
	if k, _ := slowKind(p); k.Type == "multipart" {
		border, _ := slowBorder(k)
		for _, q := range p.Parts {
			s += "--" + border + "\r\n" + slowWrite(q) + "\r\n"
		}
		s += "--" + border + "--\r\n"
	}
	return s
}

// size is how many parts a tree has, and how deep it is.
func size(p api.Part) (int, int) {
	count, deep := 1, 0
	for _, q := range p.Parts {
		n, d := size(q)
		count += n
		deep = max(deep, d)
	}
	return count, deep + 1
}

// slowRight tells whether a tree is right, but for how large it is.
func slowRight(p api.Part) bool {
	k, e := slowKind(p)
	if _, f := fields.Write(p.Fields); e != api.OK || f != api.OK {
		return false
	}
	if k.Type != "multipart" {
		return len(p.Parts) == 0
	}
	border, found := slowBorder(k)
	for _, q := range p.Parts {
		if !slowRight(q) || strings.Contains("\r\n"+slowWrite(q), "\r\n--"+border) {
			return false
		}
	}
	return found && len(p.Parts) > 0 && len(p.Body) == 0
}

// slowParse reads a tree: all lines are split first, those between two of a border are joined again. all has the trees' parts so far.
func slowParse(s string, deep int, all *int) (api.Part, api.Errno) {
	if *all++; *all > 64 {
		return api.Part{}, api.ErrPart
	}
	l, n, f := fields.Parse([]byte(s))
	if f.Code != api.OK {
		return api.Part{}, api.ErrField
	}
	p := api.Part{Fields: l}
	k, e := slowKind(p)
	if e != api.OK {
		return api.Part{}, e
	}
	if k.Type != "multipart" {
		p.Body = []byte(s[n:])
		return p, api.OK
	}
	border, found := slowBorder(k)
	inner := slowBetween(strings.Split(s[n:], "\r\n"), border)
	if !found || inner == nil {
		return api.Part{}, api.ErrPart
	}
	if deep == 8 {
		return api.Part{}, api.ErrDeep
	}
	for _, text := range inner {
		q, e := slowParse(text, deep+1, all)
		if e != api.OK {
			return api.Part{}, e
		}
		p.Parts = append(p.Parts, q)
	}
	return p, api.OK
}

// slowBetween is the texts between a border's lines, up to the last one's; nil, if one of these is missing.
func slowBetween(lines []string, border string) []string {
	begins := regexp.MustCompile(`\A--` + regexp.QuoteMeta(border) + `[ \t]*\z`)
	ends := regexp.MustCompile(`\A--` + regexp.QuoteMeta(border) + `--[ \t]*\z`)
	first := slices.IndexFunc(lines, begins.MatchString)
	if first < 0 {
		return nil
	}
	lines = lines[first:]
	last := slices.IndexFunc(lines, ends.MatchString)
	if last < 0 {
		return nil
	}
	var out []string
	begin := 0
	for at := 1; at <= last; at++ {
		if at == last || begins.MatchString(lines[at]) {
			out = append(out, strings.Join(lines[begin+1:at], "\r\n"))
			begin = at
		}
	}
	return out
}

// checkBytes holds Parse of bytes against the slow reading; what is read, if it can be written, is read as the same.
func checkBytes(t *testing.T, s string) {
	t.Helper()
	all := 0
	want, code := slowParse(s, 1, &all)
	p, e := Parse([]byte(s))
	if e != code || !same(p, want) || e != api.OK && !none(p) {
		t.Fatalf("Parse(%q): %q %v, not %q %v", s, p, e, want, code)
	}
	if e == api.OK { // P9.5
		checkPart(t, p)
	}
}

// checkPart holds Write of a tree against the slow one, and reads what is written.
func checkPart(t *testing.T, p api.Part) {
	t.Helper()
	want := slowWrite(p)
	count, deep := size(p)
	right := slowRight(p) && count <= 64 && deep <= 8 && len(want) <= 1048576
	b, e := Write(p)
	if !right {
		if len(b) != 0 || e != api.ErrPart {
			t.Fatalf("Write(%.200q): %.200q %v", p, b, e)
		}
		return
	}
	if string(b) != want || e != api.OK {
		t.Fatalf("Write(%.200q): %.200q %v, not %.200q", p, b, e, want)
	}
	if back, e := Parse(b); e != api.OK || !same(back, p) { // P9.4
		t.Fatalf("Parse(%.200q): %.200q %v, not %.200q", b, back, e, p)
	}
}

func TestKind(t *testing.T) { // P9.1
	plain := api.Kind{Type: "text", Sub: "plain"}
	calendar := api.Kind{Type: "text", Sub: "calendar", Params: []api.Param{{Name: "method", Value: "REPLY"}}}
	for _, c := range []struct {
		l    []api.Field
		want api.Kind
		e    api.Errno
	}{
		{nil, plain, api.OK},
		{list(), plain, api.OK},
		{list("Subject", "text/html"), plain, api.OK},
		{list("Content-Typ", "text/html", "Content-Types", "text/html"), plain, api.OK},
		{list("Content-Type", "Text/Calendar; METHOD=\"REPLY\""), calendar, api.OK},
		{list("A", "b", "CONTENT-type", "text/calendar;method=REPLY", "C", "d"), calendar, api.OK},
		{list("Content-Type", "text/plain"), plain, api.OK},
		{list("Content-Type", ""), api.Kind{}, api.ErrKind},
		{list("Content-Type", "text"), api.Kind{}, api.ErrKind},
		{list("Content-Type", "multipart/mixed; boundary=a; boundary=a"), api.Kind{}, api.ErrKind},
		{list("Content-Type", "text/plain", "Content-Type", "text/plain"), api.Kind{}, api.ErrPart},
		{list("Content-Type", "text/plain", "content-TYPE", "x"), api.Kind{}, api.ErrPart},
		{list("Content-Type", "x", "A", "b", "content-type", "text/plain"), api.Kind{}, api.ErrPart},
		{list("Content-Type", "", "Content-Type", ""), api.Kind{}, api.ErrPart},
		{list("Content-Type", "a/b", "Content-Type", "a/b", "Content-Type", "a/b"), api.Kind{}, api.ErrPart},
	} {
		p := api.Part{Fields: c.l, Body: []byte("x")}
		if k, e := Kind(p); !reflect.DeepEqual(k, c.want) || e != c.e {
			t.Errorf("Kind(%q): %q %v", c.l, k, e)
		}
	}
	two := list("Content-Type", "a/b", "Content-Type", "c/d")
	if k, e := Kind(api.Part{Fields: two[:1]}); !kind.Is(k, "a/b") || e != api.OK {
		t.Errorf("Kind reads behind the length: %q %v", k, e)
	}
}

func TestWriteExamples(t *testing.T) { // P9.1
	for _, c := range []struct {
		p    api.Part
		want string
	}{
		{api.Part{}, "\r\n"},
		{leaf("x"), "\r\nx"},
		{leaf("x\r\n--b\r\n", "Subject", "s"), "Subject: s\r\n\r\nx\r\n--b\r\n"},
		{tied("b", leaf("x"), leaf("y")), head("b") + "--b\r\n\r\nx\r\n--b\r\n\r\ny\r\n--b--\r\n"},
		{tied("b", leaf("")), head("b") + "--b\r\n\r\n\r\n--b--\r\n"},
		{tied("b", leaf("x\r\n", "A", "1", "B", "2")), head("b") + "--b\r\nA: 1\r\nB: 2\r\n\r\nx\r\n\r\n--b--\r\n"},
		{tied("b", tied("c", leaf("x")), leaf("y")), head("b") + "--b\r\n" + head("c") + "--c\r\n\r\nx\r\n--c--\r\n\r\n--b\r\n\r\ny\r\n--b--\r\n"},
		{tied("b1", tied("b", leaf("x"))), head("b1") + "--b1\r\n" + head("b") + "--b\r\n\r\nx\r\n--b--\r\n\r\n--b1--\r\n"},
		{tied("b", leaf("x\n--b\r\n --b\r\n-b\r\n-- b\r\nx--b\r\n--B")), head("b") + "--b\r\n\r\nx\n--b\r\n --b\r\n-b\r\n-- b\r\nx--b\r\n--B\r\n--b--\r\n"},
		{tied("b", leaf("\r"), leaf("\n"), leaf("\n\r")), head("b") + "--b\r\n\r\n\r\r\n--b\r\n\r\n\n\r\n--b\r\n\r\n\n\r\r\n--b--\r\n"},
		{tied("-", leaf("-\r\n- -")), head("-") + "---\r\n\r\n-\r\n- -\r\n-----\r\n"},
		{leaf("x", "Content-Type", "message/rfc822; boundary=b"), "Content-Type: message/rfc822; boundary=b\r\n\r\nx"},
		{api.Part{Fields: list("A", "b", "CONTENT-TYPE", "MultiPart/Report; Boundary=X.y_Z-0"), Parts: []api.Part{leaf("x")}}, "A: b\r\nCONTENT-TYPE: MultiPart/Report; Boundary=X.y_Z-0\r\n\r\n--X.y_Z-0\r\n\r\nx\r\n--X.y_Z-0--\r\n"},
	} {
		if b, e := Write(c.p); string(b) != c.want || e != api.OK {
			t.Errorf("Write(%q): %q %v", c.p, b, e)
		}
		checkPart(t, c.p)
	}
}

func TestWriteWrong(t *testing.T) { // P9.1
	knotted := func(value string, l ...api.Part) api.Part {
		return api.Part{Fields: list("Content-Type", value), Parts: l}
	}
	withBody, withParts := tied("b", leaf("x")), leaf("x")
	withBody.Body = []byte("y")
	withParts.Parts = []api.Part{leaf("y")}
	for name, p := range map[string]api.Part{
		"two kinds":                        leaf("x", "Content-Type", "text/plain", "content-type", "text/plain"),
		"a kind that can't be read":        leaf("x", "Content-Type", "text"),
		"two kinds within":                 tied("b", leaf("x"), leaf("x", "Content-Type", "text/plain", "content-type", "text/plain")),
		"a kind within that can't be read": tied("b", leaf("x", "Content-Type", "text")),
		"no field":                         leaf("x", "", "y"),
		"no Name":                          leaf("x", "a b", "y"),
		"no Value":                         leaf("x", "a", "é"),
		"a blank at a Value's end":         leaf("x", "a", "b "),
		"no field within":                  tied("b", leaf("x"), leaf("x", "a:", "y")),
		"too many fields":                  {Fields: slices.Repeat(list("a", "b"), 129)},
		"too long a line":                  leaf("x", "a", some(998)),
		"a leaf with Parts":                withParts,
		"a leaf with Parts within":         tied("b", withParts),
		"a knot with a Body":               withBody,
		"a knot with a Body within":        tied("c", withBody),
		"no border":                        knotted("multipart/mixed", leaf("x")),
		"an empty border":                  knotted(`multipart/mixed; boundary=""`, leaf("x")),
		"a border with a blank":            knotted(`multipart/mixed; boundary="a b"`, leaf("x")),
		"a border with another sign":       knotted("multipart/mixed; boundary=a'b", leaf("x")),
		"too long a border":                tied(some(71), leaf("x")),
		"a knot without parts":             tied("b"),
		"a knot without parts within":      tied("b", tied("c")),
		"a border's line":                  tied("b", leaf("--b")),
		"a border's line, ended":           tied("b", leaf("x\r\n--b\r\ny")),
		"the last one's line":              tied("b", leaf("x\r\n--b--")),
		"a line that begins so":            tied("b", leaf("x\r\n--bc")),
		"a line that begins so, behind":    tied("b", leaf("x"), leaf("\r\n--b:")),
		"a header's line":                  tied("b", leaf("x", "--b", "y")),
		"a header's line that begins so":   tied("b", leaf("x", "a", "c", "--bc", "y")),
		"the same border within":           tied("b", tied("b", leaf("x"))),
		"a border within that begins so":   tied("b", tied("b1", leaf("x"))),
		"one of a border two above":        tied("b", tied("c", tied("b2", leaf("x")))),
		"a line of a border two above":     tied("b", tied("c", leaf("x"), leaf("\r\n--b"))),
		"a knot's own line within":         tied("c", tied("b", leaf("--bx"))),
	} {
		if b, e := Write(p); len(b) != 0 || e != api.ErrPart {
			t.Errorf("%s: %q %v", name, b, e)
		}
		checkPart(t, p)
	}
}

func TestBordersEveryByte(t *testing.T) { // P9.1, P9.2
	for c := range 256 {
		b := byte(c)
		right := b >= 'a' && b <= 'z' || b >= 'A' && b <= 'Z' || b >= '0' && b <= '9' || b == '.' || b == '-' || b == '_'
		for _, border := range []string{string([]byte{b}), string([]byte{'x', b}), string([]byte{b, 'x'})} {
			k := api.Kind{Type: "multipart", Sub: "a", Params: []api.Param{{Name: "boundary", Value: border}}}
			value, e := kind.Write(k)
			if e != api.OK {
				continue
			}
			p := api.Part{Fields: list("Content-Type", value), Parts: []api.Part{leaf("x")}}
			out, e := Write(p)
			if (e == api.OK) != right || (e == api.ErrPart) == right {
				t.Errorf("Write with the border %q: %q %v", border, out, e)
			}
			s := "Content-Type: " + value + "\r\n\r\n--" + border + "\r\n\r\nx\r\n--" + border + "--\r\n"
			q, e := Parse([]byte(s))
			if right && (e != api.OK || !same(p, q)) || !right && (e != api.ErrPart || !none(q)) {
				t.Errorf("Parse with the border %q: %q %v", border, q, e)
			}
		}
	}
}

func TestBordersLimits(t *testing.T) { // P9.1, P9.2
	for n, right := range map[int]bool{1: true, 69: true, 70: true, 71: false, 100: false, 256: false} {
		border := some(n)
		p := tied(border, leaf("x"))
		s := slowWrite(p)
		b, e := Write(p)
		q, f := Parse([]byte(s))
		if right && (string(b) != s || e != api.OK || f != api.OK || !same(p, q)) {
			t.Errorf("a border of %d: %q %v %q %v", n, b, e, q, f)
		}
		if !right && (len(b) != 0 || e != api.ErrPart || f != api.ErrPart || !none(q)) {
			t.Errorf("a border of %d: %q %v %q %v", n, b, e, q, f)
		}
	}
}

// nested is knots, one in the other, so that the innermost leaf is so deep.
func nested(deep int, inner api.Part) api.Part {
	for n := deep - 1; n > 0; n-- {
		inner = tied("k"+strconv.Itoa(10+n), inner)
	}
	return inner
}

func TestDeep(t *testing.T) { // P9.1, P9.2, P9.4, P3
	for deep := 1; deep <= 8; deep++ {
		p := nested(deep, leaf("x\r\ny", "A", "b"))
		checkPart(t, p)
		b, e := Write(p)
		if e != api.OK {
			t.Fatalf("%d deep: %v", deep, e)
		}
		q, e := Parse(b)
		if e != api.OK || !same(p, q) {
			t.Errorf("%d deep: %q %v", deep, q, e)
		}
		if l := Find(q, "text/plain"); len(l) != 1 || !same(l[0], leaf("x\r\ny", "A", "b")) {
			t.Errorf("%d deep is found as %q", deep, l)
		}
	}
	for _, deep := range []int{9, 10, 30} {
		p := nested(deep, leaf("x"))
		if b, e := Write(p); len(b) != 0 || e != api.ErrPart {
			t.Errorf("Write of %d deep: %q %v", deep, b, e)
		}
		if q, e := Parse([]byte(slowWrite(p))); !none(q) || e != api.ErrDeep {
			t.Errorf("Parse of %d deep: %q %v", deep, q, e)
		}
	}
	// It counts how deep each part is, not how many knots there are.
	side := tied("s", nested(7, leaf("x")), nested(7, leaf("y")), nested(7, leaf("z")))
	checkPart(t, side)
	if b, e := Write(side); e != api.OK || len(b) == 0 {
		t.Errorf("Write of many knots: %v", e)
	}
	if _, e := Write(tied("s", leaf("x"), nested(8, leaf("y")))); e != api.ErrPart {
		t.Errorf("Write with a deep one behind: %v", e)
	}
}

func TestHowMany(t *testing.T) { // P9.1, P9.2
	leaves := func(n int) []api.Part { return slices.Repeat([]api.Part{leaf("x")}, n) }
	for _, c := range []struct {
		name  string
		p     api.Part
		right bool
	}{
		{"63 in a knot", tied("b", leaves(63)...), true},
		{"64 in a knot", tied("b", leaves(64)...), false},
		{"1000 in a knot", tied("b", leaves(1000)...), false},
		{"62 in a knot in a knot", tied("c", tied("b", leaves(62)...)), true},
		{"63 in a knot in a knot", tied("c", tied("b", leaves(63)...)), false},
		{"64 in three knots", tied("c", append([]api.Part{tied("b", leaves(30)...), tied("b", leaves(20)...)}, leaves(11)...)...), true},
		{"65 in three knots", tied("c", append([]api.Part{tied("b", leaves(30)...), tied("b", leaves(20)...)}, leaves(12)...)...), false},
		{"65 in two knots, the last one a knot's", tied("c", append(leaves(61), tied("b", leaves(2)...))...), false},
	} {
		checkPart(t, c.p)
		s := slowWrite(c.p)
		b, e := Write(c.p)
		q, f := Parse([]byte(s))
		if c.right && (string(b) != s || e != api.OK || f != api.OK || !same(c.p, q)) {
			t.Errorf("%s: %v %v", c.name, e, f)
		}
		if !c.right && (len(b) != 0 || e != api.ErrPart || f != api.ErrPart || !none(q)) {
			t.Errorf("%s: %v %v", c.name, e, f)
		}
	}
}

func TestHowLong(t *testing.T) { // P9.1, P9.2
	for _, c := range []struct {
		name string
		p    api.Part
	}{
		{"a leaf", leaf("")},
		{"a leaf with a field", leaf("", "Subject", "s")},
		{"a knot", tied("b", leaf("x"), leaf(""))},
		{"a knot in a knot", tied("c", tied("b", leaf("")), leaf("y"))},
	} {
		left := 1048576 - len(slowWrite(c.p))
		long := func(n int) api.Part {
			p := copied(c.p)
			inner := &p
			for len(inner.Parts) > 0 {
				// Of the knot the last one, of the knot in a knot the first one.
				at := len(inner.Parts) - 1
				if len(inner.Parts[0].Parts) > 0 {
					at = 0
				}
				inner = &inner.Parts[at]
			}
			inner.Body = []byte(some(n))
			return p
		}
		for _, n := range []int{left - 1, left} {
			p := long(n)
			b, e := Write(p)
			if e != api.OK || len(b) != 1048576-left+n {
				t.Fatalf("%s of %d: %d %v", c.name, n, len(b), e)
			}
			if q, e := Parse(b); e != api.OK || !same(p, q) {
				t.Errorf("%s of %d is read: %v", c.name, n, e)
			}
		}
		for _, n := range []int{left + 1, left + 2, left + 4, left + 7, left + 100, 3 << 20} {
			p := long(n)
			if b, e := Write(p); len(b) != 0 || e != api.ErrPart {
				t.Errorf("%s of %d: %d %v", c.name, n, len(b), e)
			}
			if q, e := Parse([]byte(slowWrite(p))); !none(q) || e != api.ErrLong {
				t.Errorf("%s of %d is read: %v", c.name, n, e)
			}
		}
	}
	// Too long is told ahead of all else.
	for _, s := range []string{some(1048577), "Content-Type: x\r\n\r\n" + some(1048576)} {
		if q, e := Parse([]byte(s)); !none(q) || e != api.ErrLong {
			t.Errorf("Parse of too much: %v", e)
		}
	}
	if q, e := Parse([]byte(some(1048576))); !none(q) || e != api.ErrField {
		t.Errorf("Parse of much: %v", e)
	}
}

func TestParseExamples(t *testing.T) { // P9.2
	two := tied("b", leaf("x"), leaf("y"))
	for _, c := range []struct {
		s    string
		want api.Part
	}{
		{"\r\n", api.Part{}},
		{"\r\nx", leaf("x")},
		{"A: b\r\n\r\n\x00\xff\r\n\r\n", leaf("\x00\xff\r\n\r\n", "A", "b")},
		{"Content-Type: text/html\r\n\r\n--b\r\n", leaf("--b\r\n", "Content-Type", "text/html")},
		{head("b") + "--b\r\n\r\nx\r\n--b\r\n\r\ny\r\n--b--\r\n", two},
		{head("b") + "--b\r\n\r\nx\r\n--b\r\n\r\ny\r\n--b--", two},
		{head("b") + "--b\r\n\r\nx\r\n--b\r\n\r\ny\r\n--b-- \t", two},
		{head("b") + "--b \r\n\r\nx\r\n--b\t\t  \t\r\n\r\ny\r\n--b--  \t\r\n", two},
		{head("b") + "--b\r\n\r\nx\r\n--b\r\n\r\ny\r\n--b--\r\n--b\r\n\r\nz\r\n--b--\r\n", two},
		{head("b") + "--b\r\n\r\nx\r\n--b\r\n\r\ny\r\n--b--\r\nat\r\nthe end\r\n--b", two},
		{head("b") + "in\r\nfront\r\n\r\n --b\r\n-b\r\n--b\r\n\r\nx\r\n--b\r\n\r\ny\r\n--b--", two},
		{head("b") + "\r\n--b\r\n\r\nx\r\n--b\r\n\r\ny\r\n--b--", two},
		{head("b") + "--b--\r\n--b\r\n\r\nx\r\n--b\r\n\r\ny\r\n--b--", two},
		{head("b") + "--b\r\n\r\n\r\n--b--", tied("b", leaf(""))},
		{head("b") + "--b\r\n\r\n\r\n\r\n--b--", tied("b", leaf("\r\n"))},
		{head("b") + "--b\r\nA: b\r\n\r\n\r\n--b--", tied("b", leaf("", "A", "b"))},
		{head("b") + "--b\r\n\r\nx\r\r\n--b--", tied("b", leaf("x\r"))},
		{head("b") + "--b\r\n\r\nx\n\r\n--b--", tied("b", leaf("x\n"))},
		{head("b") + "--b\r\n\r\nx\n--b\r\n--b--", tied("b", leaf("x\n--b"))},
		{head("b") + "--b\r\n\r\n--b1\r\n--bb--\r\n--B\r\n---b\r\n--b-\r\n--b---\r\n--b --\r\n--b-- -\r\n--b\r\r\n--b--", tied("b", leaf("--b1\r\n--bb--\r\n--B\r\n---b\r\n--b-\r\n--b---\r\n--b --\r\n--b-- -\r\n--b\r"))},
		{head("b") + "--b\r\n" + head("b1") + "--b1\r\n\r\nx\r\n--b1--\r\n\r\n--b\r\n\r\ny\r\n--b--", tied("b", tied("b1", leaf("x")), leaf("y"))},
		{head("b1") + "--b1\r\n" + head("b") + "--b\r\n\r\nx\r\n--b--\r\n--b1\r\n\r\ny\r\n--b1--", tied("b1", tied("b", leaf("x")), leaf("y"))},
		{head("b--") + "--b--\r\n\r\nx\r\n--b----\r\n", tied("b--", leaf("x"))},
		{head("-") + "---\r\n\r\nx\r\n-----\r\n", tied("-", leaf("x"))},
		{"Content-Type: multipart/mixed;\r\n BOUNDARY=b\r\n\r\n--b\r\n\r\nx\r\n--b--", api.Part{Fields: list("Content-Type", "multipart/mixed; BOUNDARY=b"), Parts: []api.Part{leaf("x")}}},
	} {
		if p, e := Parse([]byte(c.s)); e != api.OK || !same(p, c.want) {
			t.Errorf("Parse(%q): %q %v", c.s, p, e)
		}
		checkBytes(t, c.s)
	}
}

func TestParseWrong(t *testing.T) { // P9.2
	multi := "Content-Type: multipart/mixed\r\n\r\n"
	in := func(s string) string { return head("b") + "--b\r\n" + s + "\r\n--b--\r\n" }
	for _, c := range []struct {
		s    string
		want api.Errno
	}{
		{"", api.ErrField},
		{"x", api.ErrField},
		{"A: b", api.ErrField},
		{"A: b\r\n", api.ErrField},
		{"A b\r\n\r\n", api.ErrField},
		{" A: b\r\n\r\n", api.ErrField},
		{"A: \x01\r\n\r\n", api.ErrField},
		{"A: " + some(996) + "\r\n\r\n", api.ErrField},
		{strings.Repeat("A: b\r\n", 129) + "\r\n", api.ErrField},
		{"Content-Type: text\r\n\r\n", api.ErrKind},
		{"Content-Type:\r\n\r\n", api.ErrKind},
		{"Content-Type: text/plain\r\nContent-TYPE: text/plain\r\n\r\n", api.ErrPart},
		{"Content-Type: text\r\nContent-TYPE: text\r\n\r\n", api.ErrPart},
		{multi + "--\r\n\r\nx\r\n----\r\n", api.ErrPart},
		{"Content-Type: multipart/mixed; boundary=\"\"\r\n\r\n--\r\n\r\nx\r\n----\r\n", api.ErrPart},
		{"Content-Type: multipart/mixed; boundary=\"b c\"\r\n\r\n--b c\r\n\r\nx\r\n--b c--\r\n", api.ErrPart},
		{"Content-Type: multipart/mixed; boundary=\"b \"\r\n\r\n--b \r\n\r\nx\r\n--b --\r\n", api.ErrPart},
		{head("b"), api.ErrPart},
		{head("b") + "x", api.ErrPart},
		{head("b") + "--b", api.ErrPart},
		{head("b") + "--b\r\n", api.ErrPart},
		{head("b") + "--b--\r\n", api.ErrPart},
		{head("b") + "--b--", api.ErrPart},
		{head("b") + "--b--\r\n--b\r\n", api.ErrPart},
		{head("b") + "--b--\r\n--b\r\n\r\nx", api.ErrPart},
		{head("b") + "--b\r\n\r\nx\r\n", api.ErrPart},
		{head("b") + "--b\r\n\r\nx\r\n--b\r\n", api.ErrPart},
		{head("b") + "--b\r\n\r\nx\r\n--b-\r\n", api.ErrPart},
		{head("b") + "--b\r\n\r\nx\r\n --b--\r\n", api.ErrPart},
		{head("b") + "--b\r\n\r\nx\n--b--\r\n", api.ErrPart},
		{head("b") + "--b\r\n\r\nx\r\n--b--x\r\n", api.ErrPart},
		{head("b") + "--b\r\n\r\nx\r\n--b--\n", api.ErrPart},
		{head("b") + "--bx\r\n\r\nx\r\n--b--\r\n", api.ErrPart},
		{head("b") + "--B\r\n\r\nx\r\n--B--\r\n", api.ErrPart},
		{head("b") + "x--b\r\n\r\nx\r\n--b--\r\n", api.ErrPart},
		{head("b") + "--b\r\n--b--\r\n", api.ErrField},
		{head("b") + "--b\r\n\r\n--b--\r\n", api.ErrField},
		{head("b") + "--b\r\n\r\nx\r\n--b\r\n--b--\r\n", api.ErrField},
		{in("x"), api.ErrField},
		{in("A: b"), api.ErrField},
		{in("A: b\r\n"), api.ErrField},
		{in("Content-Type: x\r\n\r\n"), api.ErrKind},
		{in("Content-Type: a/b\r\ncontent-type: a/b\r\n\r\n"), api.ErrPart},
		{in(multi + "x"), api.ErrPart},
		{in(head("c") + "--c\r\n\r\nx"), api.ErrPart},
		{in(head("c") + "--c\r\n\r\nx\r\n--b\r\n\r\n--c--"), api.ErrPart},
		{in(head("c") + "--c\r\n--c--"), api.ErrField},
	} {
		if p, e := Parse([]byte(c.s)); e != c.want || !none(p) {
			t.Errorf("Parse(%q): %q %v, not %v", c.s, p, e, c.want)
		}
		checkBytes(t, c.s)
	}
}

// raw is a knot's bytes with texts as its parts' bytes, without its last line if it is open.
func raw(border string, open bool, l ...string) string {
	s := head(border)
	for _, text := range l {
		s += "--" + border + "\r\n" + text + "\r\n"
	}
	if !open {
		s += "--" + border + "--\r\n"
	}
	return s
}

func TestParseWhichErrorIsFirst(t *testing.T) { // P9.2
	const noHeader, noKind, twoKinds = "x", "Content-Type: x\r\n\r\n", "Content-Type: a/b\r\nContent-Type: a/b\r\n\r\n"
	const noBorder = "Content-Type: multipart/mixed\r\n\r\n--q\r\n\r\nx\r\n--q--"
	deep := func(inner string, n int) string {
		for ; n > 0; n-- {
			inner = raw("k"+strconv.Itoa(10+n), false, inner)
		}
		return inner
	}
	many := func(n int, behind ...string) []string { return append(slices.Repeat([]string{"\r\nx"}, n), behind...) }
	for _, c := range []struct {
		name, s string
		want    api.Errno
	}{
		{"its header ahead of its kind", "Content-Type: x\r\nbad\r\n\r\n", api.ErrField},
		{"two kinds ahead of one that can't be read", "Content-Type: x\r\nContent-Type: y\r\n\r\n", api.ErrPart},
		{"its kind ahead of its parts", "Content-Type: multipart/mixed; boundary\r\n\r\n--b\r\nx", api.ErrKind},
		{"no last line ahead of its parts", raw("b", true, noHeader), api.ErrPart},
		{"no last line ahead of a part's kind", raw("b", true, noKind), api.ErrPart},
		{"the first part ahead of the second: header", raw("b", false, noHeader, noKind), api.ErrField},
		{"the first part ahead of the second: kind", raw("b", false, noKind, noHeader), api.ErrKind},
		{"the first part ahead of the second: two kinds", raw("b", false, twoKinds, noKind), api.ErrPart},
		{"the first part ahead of the second: no border", raw("b", false, noBorder, noHeader), api.ErrPart},
		{"a part's parts ahead of the next part", raw("b", false, raw("c", false, noKind), noHeader), api.ErrKind},
		{"a knot ahead of its parts", raw("b", false, raw("c", true, noKind), noHeader), api.ErrPart},
		{"a part ahead of the parts behind it", raw("b", false, noKind, raw("c", false, noHeader)), api.ErrKind},
		{"8 deep is not too deep", deep(noKind, 7), api.ErrKind},
		{"too deep ahead of the parts", deep(noKind, 8), api.ErrDeep},
		{"no border ahead of too deep", deep(noBorder, 7), api.ErrPart},
		{"no last line ahead of too deep", deep(raw("l", true, "\r\nx"), 7), api.ErrPart},
		{"too deep ahead of the next part", raw("b", false, deep("\r\nx", 8), noKind), api.ErrDeep},
		{"the part ahead of too deep", raw("b", false, noKind, deep("\r\nx", 8)), api.ErrKind},
		{"the 64th part is read", raw("b", false, many(62, noKind)...), api.ErrKind},
		{"the 64th part is read, then counted", raw("b", false, many(62, noKind, "\r\n")...), api.ErrKind},
		{"the 65th part is counted first", raw("b", false, many(63, noKind)...), api.ErrPart},
		{"the 65th part is counted first: header", raw("b", false, many(63, noHeader)...), api.ErrPart},
		{"a fault of the first of 1000", raw("b", false, append([]string{noKind}, many(1000)...)...), api.ErrKind},
		{"parts are counted as they are read", raw("b", false, append([]string{raw("c", false, many(62)...), noKind}, many(9)...)...), api.ErrPart},
		{"the one behind 62 and a knot", raw("b", false, raw("c", false, many(61)...), noKind, "\r\n"), api.ErrKind},
		{"too deep ahead of too many", deep(raw("l", false, many(80)...), 7), api.ErrDeep},
		{"too many ahead of a deep one", raw("b", false, many(63, deep("\r\nx", 8))...), api.ErrPart},
		{"a deep one ahead of too many", raw("b", false, append([]string{deep("\r\nx", 8)}, many(80)...)...), api.ErrDeep},
	} {
		if p, e := Parse([]byte(c.s)); e != c.want || !none(p) {
			t.Errorf("%s: %v, not %v", c.name, e, c.want)
		}
		checkBytes(t, c.s)
	}
}

func TestParseAllShort(t *testing.T) { // P9.2, P9.4, P9.5
	allTexts([]string{"--b", "--", "\r\n", "x", " "}, 7, func(s string) { checkBytes(t, head("b")+s) })
	allTexts([]string{"--b", "--b--", "\r\n", "\r", "\n", "\t", "A:\r\n"}, 5, func(s string) { checkBytes(t, head("b")+"--b\r\n"+s) })
	allTexts([]string{"--b", "--b1", "--", "\r\n", "x", head("b1")}, 6, func(s string) { checkBytes(t, head("b")+"--b\r\n\r\n"+s+"\r\n--b--") })
	allTexts([]string{"--b", "--b--\r\n", "\r\n", "--b1\r\n", "--b1--", "x"}, 6, func(s string) { checkBytes(t, head("b1")+"--b1\r\n"+head("b")+s) })
	allTexts([]string{"A: b\r\n", "\r\n", "Content-Type: text/plain\r\n", "Content-Type: multipart/a", ";boundary=c\r\n", "--c\r\n\r\n", "--c--\r\n"}, 5, func(s string) { checkBytes(t, s) })
}

// someLeaf is one whose fields and Body may be.
func someLeaf(r *rand.Rand) api.Part {
	var l []string
	for range r.Intn(4) {
		l = append(l, someText(r, []string{"X", "-", "b", "0"}, 1+r.Intn(8)), strings.TrimSpace(someText(r, []string{"a", " ", "b", "=", "--b0"}, r.Intn(60))))
	}
	if r.Intn(2) == 0 {
		l = append(l, "Content-Type", []string{"text/plain", "text/calendar; method=REPLY", "message/rfc822", "TEXT/HTML"}[r.Intn(4)])
	}
	pieces := []string{"--", "b", "0", "1", "\r\n", "\r", "\n", "x", " ", "\x00\xff", "--b0\r\n", "\r\n--c", "a: b\r\n"}
	return leaf(someText(r, pieces, r.Intn(20)), l...)
}

// someTree is a tree of at most so deep, which is often right.
func someTree(r *rand.Rand, deep int) api.Part {
	if deep < 2 || r.Intn(4) == 0 {
		return someLeaf(r)
	}
	var l []api.Part
	for range r.Intn(4) + min(1, r.Intn(20)) {
		l = append(l, someTree(r, deep-1))
	}
	border := someText(r, []string{"Q", "W", "-", ".", "_", "9", "b"}, 1+r.Intn(12)) + strconv.Itoa(r.Intn(20))
	p := tied(border, l...)
	if r.Intn(3) == 0 {
		p.Fields = append(p.Fields, list("Subject", "s", "X", "y")...)
	}
	return p
}

func TestThereAndBack(t *testing.T) { // P9.4, P9.5
	r := rand.New(rand.NewSource(1))
	right := 0
	for range 1500 {
		p := someTree(r, 1+r.Intn(8))
		checkPart(t, p)
		if b, e := Write(p); e == api.OK {
			right++
			for range 3 {
				// Torn anywhere, it is something else, or nothing.
				at := r.Intn(len(b))
				checkBytes(t, string(b[:at])+someText(r, []string{"\r\n", "-", "b", " ", "\t", "--"}, r.Intn(3))+string(b[min(len(b), at+r.Intn(4)):]))
			}
		}
	}
	if right < 400 {
		t.Errorf("just %d were right", right)
	}
}

func TestLibraryReadsWhatIsWritten(t *testing.T) { // P9.1
	r := rand.New(rand.NewSource(2))
	for range 500 {
		var l []api.Part
		for range 1 + r.Intn(5) {
			p := someLeaf(r)
			p.Fields = list("Subject", "s")
			l = append(l, p)
		}
		p := tied("Q1", l...)
		b, e := Write(p)
		if e != api.OK {
			t.Fatalf("Write(%q): %v", p, e)
		}
		all := multipart.NewReader(bytes.NewReader(b[len(head("Q1")):]), "Q1")
		for _, q := range l {
			got, err := all.NextRawPart()
			if err != nil {
				t.Fatalf("%q is read with %v", b, err)
			}
			body, err := io.ReadAll(got)
			if err != nil || !bytes.Equal(body, q.Body) || got.Header.Get("Subject") != "s" || len(got.Header) != 1 {
				t.Fatalf("%q is read as %q %q, %v", b, got.Header, body, err)
			}
		}
		if _, err := all.NextRawPart(); err != io.EOF {
			t.Fatalf("%q is read with %v at the end", b, err)
		}
	}
}

func TestReadHoweverFolded(t *testing.T) { // P3
	long := "multipart/mixed; boundary=b; x=\"" + strings.Repeat("a b ", 60) + "\""
	p := api.Part{Fields: list("Content-Type", long), Parts: []api.Part{leaf("x", "Subject", strings.Repeat("word ", 50)+"end")}}
	checkPart(t, p)
	s := slowWrite(p)
	if !strings.Contains(s, "\r\n b a") || !strings.Contains(s, "\r\n word") {
		t.Fatalf("not folded: %q", s)
	}
	flat := strings.ReplaceAll(strings.ReplaceAll(s, "\r\n ", " "), "word ", "word\r\n ")
	if q, e := Parse([]byte(flat)); e != api.OK || !same(p, q) {
		t.Errorf("Parse(%q): %q %v", flat, q, e)
	}
}

func TestContent(t *testing.T) { // P9.3
	const way = "Content-Transfer-Encoding"
	odd := "=3D\r\n+/\x00\xff= \r"
	for _, c := range []struct {
		p    api.Part
		want string
		e    api.Errno
	}{
		{api.Part{}, "", api.OK},
		{leaf(odd), odd, api.OK},
		{leaf(odd, "Subject", "base64", "Content-Type", "text/plain"), odd, api.OK},
		{leaf(odd, way, "7bit"), odd, api.OK},
		{leaf(odd, way, "8bit"), odd, api.OK},
		{leaf(odd, way, "binary"), odd, api.OK},
		{leaf(odd, way, "7BIT"), odd, api.OK},
		{leaf(odd, "content-transfer-ENCODING", "8Bit"), odd, api.OK},
		{leaf(odd, way, "BINARY"), odd, api.OK},
		{leaf("/wA=", way, "base64"), "\xff\x00", api.OK},
		{leaf("/w\r\nA=\r\n", way, "Base64"), "\xff\x00", api.OK},
		{leaf("", way, "base64"), "", api.OK},
		{leaf("a=3Db=\r\nc \r\n", way, "quoted-printable"), "a=bc\r\n", api.OK},
		{leaf("=00=ff", way, "Quoted-Printable"), "\x00\xff", api.OK},
		{leaf("", way, "QUOTED-PRINTABLE"), "", api.OK},
		{leaf("/wA=", way, "base64", way, "7bit"), "\xff\x00", api.OK},
		{leaf("/wA=", way, "7bit", way, "base64"), "/wA=", api.OK},
		{leaf("/wA=", way, "7bit", way, "x"), "/wA=", api.OK},
		{leaf("/wA=", "Content-Type", "bad", way, "base64"), "\xff\x00", api.OK},
		{leaf("/wA=", "Content-Type", "a/b", "Content-Type", "a/b", way, "base64"), "\xff\x00", api.OK},
		{leaf("/wB=", way, "base64"), "", api.ErrEnc},
		{leaf("A", way, "base64"), "", api.ErrEnc},
		{leaf("AAAA\n", way, "base64"), "", api.ErrEnc},
		{leaf("A=A=", way, "base64"), "", api.ErrEnc},
		{leaf("a=", way, "quoted-printable"), "", api.ErrEnc},
		{leaf("a=3", way, "quoted-printable"), "", api.ErrEnc},
		{leaf("a\xffb", way, "quoted-printable"), "", api.ErrEnc},
		{leaf("a\nb", way, "quoted-printable"), "", api.ErrEnc},
		{leaf("x", way, "x-uuencode"), "", api.ErrEnc},
		{leaf("", way, "x"), "", api.ErrEnc},
		{leaf("x", way, ""), "", api.ErrEnc},
		{leaf("x", way, "7 bit"), "", api.ErrEnc},
		{leaf("x", way, "7bit "), "", api.ErrEnc},
		{leaf("AAAA", way, " base64"), "", api.ErrEnc},
		{leaf("AAAA", way, "base"), "", api.ErrEnc},
		{leaf("AAAA", way, "base644"), "", api.ErrEnc},
		{leaf("x", way, "quoted"), "", api.ErrEnc},
		{leaf("x", way, "x", way, "7bit"), "", api.ErrEnc},
	} {
		if b, e := Content(c.p); string(b) != c.want || e != c.e {
			t.Errorf("Content(%q): %q %v, not %q %v", c.p, b, e, c.want, c.e)
		}
	}
}

func TestContentLong(t *testing.T) { // P9.3
	const way = "Content-Transfer-Encoding"
	for n, e := range map[int]api.Errno{2 << 20: api.OK, 2<<20 + 4: api.ErrEnc} {
		if b, got := Content(leaf(strings.Repeat("A", n), way, "base64")); got != e || (got == api.OK) != (len(b) == n/4*3) {
			t.Errorf("base64 of %d: %d %v", n, len(b), got)
		}
	}
	for n, e := range map[int]api.Errno{4 << 20: api.OK, 4<<20 + 1: api.ErrEnc} {
		if b, got := Content(leaf(some(n), way, "quoted-printable")); got != e || (got == api.OK) != (len(b) == n) {
			t.Errorf("quoted-printable of %d: %d %v", n, len(b), got)
		}
	}
	if b, e := Content(leaf(some(5<<20), way, "8bit")); len(b) != 5<<20 || e != api.OK {
		t.Errorf("8bit: %d %v", len(b), e)
	}
}

func TestContentThereAndBack(t *testing.T) { // P9.3
	r := rand.New(rand.NewSource(3))
	for range 500 {
		b := make([]byte, r.Intn(300))
		r.Read(b)
		signs, _ := bits.Encode(b, 76)
		lines, _ := quoted.Encode(b, r.Intn(2) == 0)
		for _, p := range []api.Part{
			leaf(signs, "Content-Transfer-Encoding", "base64"),
			leaf(lines, "Content-Transfer-Encoding", "quoted-printable"),
			leaf(string(b), "Content-Transfer-Encoding", "binary"),
		} {
			if got, e := Content(p); !bytes.Equal(got, b) || e != api.OK {
				t.Fatalf("Content(%q): %q %v", p, got, e)
			}
		}
	}
}

func TestFind(t *testing.T) { // P9.3
	const name = "Content-Type"
	odd := leaf("odd", name, "text/html")
	odd.Parts = []api.Part{leaf("in it")}
	untied := api.Part{Fields: list(name, "multipart/mixed"), Body: []byte("own"), Parts: []api.Part{leaf("u"), leaf("v", name, "Text/HTML; x=y")}}
	unread := api.Part{Fields: list(name, "multipart"), Parts: []api.Part{leaf("w"), odd}}
	twice := api.Part{Fields: list(name, "multipart/a; boundary=b", name, "multipart/a; boundary=b"), Parts: []api.Part{leaf("w"), odd}}
	p := tied("b",
		leaf("1"),
		tied("b", leaf("2", name, "TEXT/Plain; charset=utf-8"), untied, leaf("3", name, "text"), leaf("4", name, "text/calendar")),
		odd, unread, twice,
		leaf("5", name, "text/plain", name, "text/plain"),
		leaf("6", "X", "y"), tied("b"), leaf("7", name, "text/calendar; method=REPLY"))
	for text, want := range map[string]string{
		"text/plain": "1 2 u 6", "text/html": "v odd", "text/calendar": "4 7", "multipart/mixed": "", "multipart/a": "", "text": "", "": "", "/": "", "text/": "", "Text/Plain": "", "TEXT/HTML": "", "text/plain; charset=utf-8": "",
	} {
		var got []string
		for _, q := range Find(p, text) {
			got = append(got, string(q.Body))
		}
		if strings.Join(got, " ") != want {
			t.Errorf("Find(%q): %q, not %q", text, got, want)
		}
	}
	if l := Find(p, "text/html"); len(l) != 2 || !same(l[1], odd) || !same(l[0], untied.Parts[1]) {
		t.Errorf("what is found: %q", l)
	}
	if l := Find(api.Part{}, "text/plain"); len(l) != 1 || !same(l[0], api.Part{}) {
		t.Errorf("Find in nothing: %q", l)
	}
	if l := Find(leaf("x", name, "a/b"), "a/b"); len(l) != 1 || !same(l[0], leaf("x", name, "a/b")) {
		t.Errorf("Find in a leaf: %q", l)
	}
}

func TestFindInWhatIsRead(t *testing.T) { // P9.3
	r := rand.New(rand.NewSource(4))
	for range 1000 {
		p := someTree(r, 6)
		b, e := Write(p)
		if e != api.OK {
			continue
		}
		q, _ := Parse(b)
		for _, text := range []string{"text/plain", "text/calendar", "message/rfc822", "text/html", "multipart/mixed"} {
			// The order of their bytes: each stands behind the one ahead of it.
			at := 0
			for _, found := range Find(q, text) {
				h, _ := fields.Write(found.Fields)
				place := bytes.Index(b[at:], append(h, found.Body...))
				if place < 0 {
					t.Fatalf("Find(%q) in %q: %q", text, b, found)
				}
				at += place + len(h) + len(found.Body)
			}
			if got, want := len(Find(q, text)), len(Find(p, text)); got != want {
				t.Fatalf("Find(%q) in %q: %d, not %d", text, b, got, want)
			}
		}
	}
}

// slowFree is Border: all borders are tried, one by one, with all lines.
func slowFree(l []string) string {
	for n := 0; ; n++ {
		border := "b" + strconv.Itoa(n)
		if !slices.ContainsFunc(l, func(s string) bool { return strings.Contains("\r\n"+s, "\r\n--"+border) }) {
			return border
		}
	}
}

func asBytes(l []string) [][]byte {
	var out [][]byte
	for _, s := range l {
		out = append(out, []byte(s))
	}
	return out
}

func TestBorderExamples(t *testing.T) { // P9.3
	for _, c := range []struct {
		want string
		l    []string
	}{
		{"b0", nil},
		{"b0", []string{}},
		{"b0", []string{""}},
		{"b0", []string{"b0", "-b0", "- -b0", " --b0", "--", "--b", "--B0", "--c0", "---b0", "x--b0", "--b-0", "--b\r\n0", "--b 0"}},
		{"b1", []string{"--b0"}},
		{"b1", []string{"--b0\r\n"}},
		{"b1", []string{"x\r\n--b0"}},
		{"b1", []string{"x\r\n--b0--\r\n"}},
		{"b1", []string{"--b0x"}},
		{"b1", []string{"--b00"}},
		{"b1", []string{"--b01"}},
		{"b1", []string{"--b0123"}},
		{"b0", []string{"x\n--b0"}},
		{"b0", []string{"x\r--b0"}},
		{"b1", []string{"x\r\r\n--b0"}},
		{"b0", []string{"--b1"}},
		{"b0", []string{"--b1", "--b2"}},
		{"b2", []string{"--b1", "--b0"}},
		{"b2", []string{"--b0\r\n--b1"}},
		{"b2", []string{"--b0", "--b10"}},
		{"b2", []string{"--b0", "--b1999999999999999999999999"}},
		{"b1", []string{"--b0", "--b99999999999999999999999999"}},
		{"b1", []string{"--b0", "--b00000000000000000000000001"}},
		{"b10", []string{"--b0", "--b1", "--b2", "--b3", "--b4", "--b5", "--b6", "--b7", "--b8", "--b9"}},
		{"b11", []string{"--b0", "--b10", "--b2", "--b3", "--b4", "--b5", "--b6", "--b7", "--b8", "--b9"}},
		{"b2", []string{"--b3", "--b0", "", "--b1", "--b1", "--b4"}},
	} {
		if got := Border(asBytes(c.l)); got != c.want {
			t.Errorf("Border(%q): %q, not %q", c.l, got, c.want)
		}
		if want := slowFree(c.l); c.want != want {
			t.Errorf("Border(%q): %q asked for, not %q", c.l, c.want, want)
		}
	}
}

func TestBorderAllShort(t *testing.T) { // P9.3
	allTexts([]string{"--b", "0", "1", "\r\n", "-", "b"}, 6, func(s string) {
		l := []string{s, "--b2", "\r\n--b" + s}
		for n := range len(l) + 1 {
			if got, want := Border(asBytes(l[:n])), slowFree(l[:n]); got != want {
				t.Fatalf("Border(%q): %q, not %q", l[:n], got, want)
			}
		}
	})
}

func TestBorderManyTaken(t *testing.T) { // P9.3
	r := rand.New(rand.NewSource(5))
	for range 300 {
		var l []string
		n := r.Intn(150)
		for i := range n + r.Intn(3) {
			if r.Intn(40) > 0 {
				l = append(l, "--b"+strconv.Itoa(i)+someText(r, []string{"", "\r\n", "0", "x", "--"}, 1))
			}
		}
		r.Shuffle(len(l), func(i, j int) { l[i], l[j] = l[j], l[i] })
		if got, want := Border(asBytes(l)), slowFree(l); got != want {
			t.Fatalf("Border(%q): %q, not %q", l, got, want)
		}
	}
	var all strings.Builder
	for i := range 120000 {
		all.WriteString("--b" + strconv.Itoa(i) + "\r\n")
	}
	if got := Border([][]byte{[]byte(all.String())}); got != "b120000" {
		t.Errorf("Border of many: %q", got)
	}
}

func TestBorderCanBeWritten(t *testing.T) { // P9.6
	r := rand.New(rand.NewSource(6))
	for range 2000 {
		var l []api.Part
		var texts [][]byte
		for range 1 + r.Intn(6) {
			p := someLeaf(r)
			for n := range r.Intn(12) {
				p.Body = append(p.Body, "\r\n--b"+strconv.Itoa(n)+someText(r, []string{"", "--", " ", "0", "x"}, 1)...)
			}
			if r.Intn(3) == 0 {
				p.Fields = append(p.Fields, list("--b"+strconv.Itoa(r.Intn(20)), "x")...)
			}
			b, e := Write(p)
			if e != api.OK {
				t.Fatalf("Write(%q): %v", p, e)
			}
			l, texts = append(l, p), append(texts, b)
		}
		p := tied(Border(texts), l...)
		b, e := Write(p)
		if e != api.OK {
			t.Fatalf("Write(%q): %v", p, e)
		}
		if q, e := Parse(b); e != api.OK || !same(p, q) {
			t.Fatalf("Parse(%q): %q %v", b, q, e)
		}
	}
	// Of the Bodies alone, where no Name begins with --.
	body := "--b0\r\nx\r\n--b1--\r\n--b2"
	border := Border([][]byte{[]byte(body), []byte("y")})
	p := tied(border, leaf(body, "Subject", "s"), leaf("y", "A", "b"))
	if _, e := Write(p); border != "b3" || e != api.OK {
		t.Errorf("Write with %q: %v", border, e)
	}
	checkPart(t, p)
}

func TestNothingIsChangedOrKept(t *testing.T) { // Rules 4 and 5
	room := make([]byte, 3, 100)
	copy(room, "x=y")
	copy(room[3:100], "behind")
	p := tied("b", api.Part{Body: room, Fields: list("A", "b", "bad name", "")[:1]}, leaf("AAAA", "Content-Transfer-Encoding", "base64"), leaf("z"))
	p.Parts = p.Parts[:2]
	was := copied(p)
	b, e := Write(p)
	if e != api.OK || string(b) != slowWrite(p) || bytes.Contains(b, []byte("behind")) {
		t.Fatalf("Write: %q %v", b, e)
	}
	text := bytes.Clone(b)
	q, _ := Parse(text)
	for i := range text {
		text[i] = '!'
	}
	if !same(q, was) {
		t.Errorf("what was read stands in what was handed in: %q", q)
	}
	found := Find(p, "text/plain")
	plain, _ := Content(p.Parts[0])
	if len(found) != 2 || string(plain) != "x=y" {
		t.Fatalf("Find: %q, Content: %q", found, plain)
	}
	found[0].Fields[0].Value = "!"
	found[0].Body[0] = '!'
	plain[0] = '!'
	b[0] = '!'
	_ = append(found[0].Body, "!!!"...)
	_ = append(plain, "!!!"...)
	if !same(p, was) || string(room[:9]) != "x=ybehind" {
		t.Errorf("changed: %q %q", p, room[:9])
	}
	odd := leaf("x")
	odd.Parts = []api.Part{leaf("y")}
	Find(odd, "text/plain")[0].Parts[0].Body[0] = '!'
	if string(odd.Parts[0].Body) != "y" {
		t.Errorf("a leaf's Parts are handed out")
	}
	// What is handed out shares no memory with its other parts.
	q, _ = Parse([]byte(slowWrite(tied("b", leaf("x"), leaf("y")))))
	_ = append(q.Parts[0].Body, strings.Repeat("!", 20)...)
	_ = append(q.Fields, list("!", "!")...)
	if !same(q, tied("b", leaf("x"), leaf("y"))) {
		t.Errorf("two parts share memory: %q", q)
	}
}

func TestHandMadeEnds(t *testing.T) { // P1
	// A list that stands in itself: knots without an end.
	round := make([]api.Part, 3)
	for i := range round {
		round[i] = tied("b"+strconv.Itoa(i), round...)
		round[i].Parts = round
	}
	if b, e := Write(round[0]); len(b) != 0 || e != api.ErrPart {
		t.Errorf("Write of a knot in itself: %q %v", b, e)
	}
	if k, e := Kind(round[0]); !kind.Is(k, "multipart/mixed") || e != api.OK {
		t.Errorf("Kind of a knot in itself: %q %v", k, e)
	}
	if b, e := Content(round[0]); len(b) != 0 || e != api.OK {
		t.Errorf("Content of a knot in itself: %q %v", b, e)
	}
	// As deep as may be.
	p := leaf("x")
	for range 1 << 16 {
		p = tied("b", p)
	}
	if l := Find(p, "text/plain"); len(l) != 1 || string(l[0].Body) != "x" {
		t.Errorf("Find in a deep one: %d", len(l))
	}
	if b, e := Write(p); len(b) != 0 || e != api.ErrPart {
		t.Errorf("Write of a deep one: %q %v", b, e)
	}
	wide := tied("b", slices.Repeat([]api.Part{leaf("x")}, 200000)...)
	if l := Find(wide, "text/plain"); len(l) != 200000 {
		t.Errorf("Find in a wide one: %d", len(l))
	}
	if b, e := Write(wide); len(b) != 0 || e != api.ErrPart {
		t.Errorf("Write of a wide one: %q %v", b, e)
	}
}

func TestLongTextsEnd(t *testing.T) { // P1
	front := head("b")
	for _, piece := range []string{"--b\r\n", "--b--\r\n", "\r\n", "-", "\r", "\n", " ", "--b ", "A: b\r\n", "--b\r\n\r\n", "\x00", "--b0", "--b1\r\n", head("b") + "--b\r\n"} {
		s := strings.Repeat(piece, (api.MaxText-len(front)-20)/len(piece))
		for _, s := range []string{s, front + s, front + s + "\r\n--b--", front + "--b\r\n\r\n" + s + "\r\n--b--"} {
			p, e := Parse([]byte(s))
			if e != api.OK && !none(p) {
				t.Errorf("Parse of many %q: %.100q %v", piece, p, e)
			}
			if e == api.OK {
				checkPart(t, p)
			}
			Border([][]byte{[]byte(s)})
			Content(leaf(s, "Content-Transfer-Encoding", "base64"))
			Content(leaf(s, "Content-Transfer-Encoding", "quoted-printable"))
		}
	}
}
