package tree

import (
	"bytes"
	"math/rand"
	"reflect"
	"regexp"
	"slices"
	"strconv"
	"strings"
	"testing"

	"posthorn/api"
	"posthorn/sheet"
)

// some is so many times A.
func some(n int) string { return strings.Repeat("A", n) }

// of is a line, with its parameters' Names and Values in turn.
func of(name, value string, l ...string) api.Line {
	out := api.Line{Name: name, Value: value}
	for at := 0; at < len(l); at += 2 {
		out.Params = append(out.Params, api.Param{Name: l[at], Value: l[at+1]})
	}
	return out
}

// with is a component of lines, and components.
func with(name string, l []api.Line, c ...api.Comp) api.Comp {
	return api.Comp{Name: name, Lines: l, Comps: c}
}

// many is so many lines, each unlike the others.
func many(n int) []api.Line {
	var out []api.Line
	for i := range n {
		out = append(out, of("X", strconv.Itoa(i)))
	}
	return out
}

// deep is components in one another, so many.
func deep(n int) api.Comp {
	c := with("C"+strconv.Itoa(n), []api.Line{of("X", strconv.Itoa(n))})
	for n > 1 {
		n--
		c = with("C"+strconv.Itoa(n), nil, c)
	}
	return c
}

// wide is so many components in one.
func wide(n int) api.Comp {
	c := with("W", nil)
	for i := range n - 1 {
		c.Comps = append(c.Comps, with("C"+strconv.Itoa(i), nil))
	}
	return c
}

// lines is a text of lines, each with a pair.
func lines(l ...string) string {
	if len(l) == 0 {
		return ""
	}
	return strings.Join(l, "\r\n") + "\r\n"
}

func sameLine(a, b api.Line) bool {
	return a.Name == b.Name && a.Value == b.Value && slices.Equal(a.Params, b.Params)
}

// same tells whether components are alike, with lists that are nil or empty, too.
func same(a, b api.Comp) bool {
	return a.Name == b.Name && slices.EqualFunc(a.Lines, b.Lines, sameLine) && slices.EqualFunc(a.Comps, b.Comps, same)
}

var (
	none        = api.Comp{}
	namePattern = regexp.MustCompile(`\A[A-Z0-9-]{1,64}\z`)
	smallLetter = regexp.MustCompile(`[a-z]`)
)

// capitals is a text with large letters, of a to z alone.
func capitals(s string) string { return smallLetter.ReplaceAllStringFunc(s, strings.ToUpper) }

// size is how many components and lines a tree has, and how deep it is.
func size(c api.Comp) (comps, lines, depth int) {
	comps, lines = 1, len(c.Lines)
	for _, q := range c.Comps {
		a, b, d := size(q)
		comps, lines, depth = comps+a, lines+b, max(depth, d)
	}
	return comps, lines, depth + 1
}

// slowEach tells whether all Names and Lines in a tree may be.
func slowEach(c api.Comp) bool {
	for _, l := range c.Lines {
		if l.Name == "BEGIN" || l.Name == "END" || !sheet.Right(l) {
			return false
		}
	}
	for _, q := range c.Comps {
		if !slowEach(q) {
			return false
		}
	}
	return namePattern.MatchString(c.Name)
}

// slowRight is what Right must answer: all is counted first.
func slowRight(c api.Comp) bool {
	comps, lines, depth := size(c)
	return comps <= 64 && lines <= 128*64 && depth <= 8 && slowEach(c)
}

// slowText is a component's lines, written one by one.
func slowText(c api.Comp) string {
	var out strings.Builder
	put := func(l api.Line) {
		b, _ := sheet.Write([]api.Line{l})
		out.Write(b)
	}
	put(of("BEGIN", c.Name))
	for _, l := range c.Lines {
		put(l)
	}
	for _, q := range c.Comps {
		out.WriteString(slowText(q))
	}
	put(of("END", c.Name))
	return out.String()
}

// slowComp takes a component off the front of lines, if one stands there, whatever it is.
func slowComp(l []api.Line) (api.Comp, []api.Line, bool) {
	if len(l) == 0 || l[0].Name != "BEGIN" || len(l[0].Params) != 0 {
		return none, nil, false
	}
	c := api.Comp{Name: capitals(l[0].Value)}
	for l = l[1:]; len(l) > 0; {
		switch l[0].Name {
		case "BEGIN":
			q, rest, found := slowComp(l)
			if !found {
				return none, nil, false
			}
			c.Comps, l = append(c.Comps, q), rest
		case "END":
			return c, l[1:], capitals(l[0].Value) == c.Name && len(l[0].Params) == 0
		default:
			c.Lines, l = append(c.Lines, l[0]), l[1:]
		}
	}
	return none, nil, false
}

// slowRead is what Read must answer, by a component that takes its own ones off the front.
func slowRead(b string) (api.Comp, api.Errno) {
	l, f := sheet.Read([]byte(b))
	if f.Code != api.OK {
		return none, f.Code
	}
	c, rest, found := slowComp(l)
	if !found || len(rest) > 0 || !slowRight(c) {
		return none, api.ErrTree
	}
	return c, api.OK
}

// checkText holds Read of a text against the slow reading, and writes what is read, and reads it again.
func checkText(t *testing.T, s string) api.Errno {
	t.Helper()
	want, code := slowRead(s)
	c, e := Read([]byte(s))
	if e != code || !same(c, want) || e != api.OK && !reflect.DeepEqual(c, none) {
		t.Fatalf("Read(%q): %q %v, not %q %v", s, c, e, want, code)
	}
	if e == api.OK { // P11.5
		if !Right(c) {
			t.Fatalf("Read(%q): %q may not be", s, c)
		}
		checkComp(t, c)
	}
	return e
}

// checkComp holds Right and Write of a component against the slow ones, and reads what is written.
func checkComp(t *testing.T, c api.Comp) api.Errno {
	t.Helper()
	right := slowRight(c)
	if Right(c) != right {
		t.Fatalf("Right(%.200q): %v", c, !right)
	}
	b, e := Write(c)
	if !right {
		if len(b) != 0 || e != api.ErrTree {
			t.Fatalf("Write(%.200q): %q %v", c, b, e)
		}
		return e
	}
	want := slowText(c)
	comps, lines, _ := size(c)
	if len(want) > api.MaxText || lines+2*comps > 4096 {
		if len(b) != 0 || e != api.ErrLong {
			t.Fatalf("Write(%.200q): %d bytes, %v", c, len(b), e)
		}
		return e
	}
	if string(b) != want || e != api.OK {
		t.Fatalf("Write(%q): %q %v, not %q", c, b, e, want)
	}
	if back, e := Read(b); e != api.OK || !same(back, c) { // P11.4
		t.Fatalf("Read(%q): %q %v, not %q", b, back, e, c)
	}
	return api.OK
}

func TestExamples(t *testing.T) { // P11.1, P11.2
	for _, c := range []struct {
		text string
		want api.Comp
	}{
		{lines("BEGIN:A", "X:1", "END:A"), with("A", []api.Line{of("X", "1")})},
		{lines("BEGIN:A", "END:A"), with("A", nil)},
		{lines("BEGIN:-", "END:-"), with("-", nil)},
		{lines("BEGIN:0", "END:0"), with("0", nil)},
		{lines("BEGIN:A", "X:1", "X:2", "Y;P=\"a,b\";Q=:", "BEGIN:A", "END:A", "BEGIN:B", "X:3", "BEGIN:C", "END:C", "END:B", "END:A"),
			with("A", []api.Line{of("X", "1"), of("X", "2"), of("Y", "", "P", "a,b", "Q", "")}, with("A", nil), with("B", []api.Line{of("X", "3")}, with("C", nil)))},
		{lines("BEGIN:VCALENDAR", "VERSION:2.0", "BEGIN:VEVENT", "UID:u", "END:VEVENT", "END:VCALENDAR"),
			with("VCALENDAR", []api.Line{of("VERSION", "2.0")}, with("VEVENT", []api.Line{of("UID", "u")}))},
	} {
		if got, e := Read([]byte(c.text)); e != api.OK || !same(got, c.want) {
			t.Errorf("Read(%q): %q %v", c.text, got, e)
		}
		if b, e := Write(c.want); string(b) != c.text || e != api.OK {
			t.Errorf("Write(%q): %q %v", c.want, b, e)
		}
		if !Right(c.want) {
			t.Errorf("Right(%q): false", c.want)
		}
	}
}

func TestReadLoose(t *testing.T) { // P11.2
	want := with("A-1", []api.Line{of("X", "a"), of("Y", "b"), of("Z", "c")}, with("B", []api.Line{of("X", "Begin")}), with("B", nil))
	for _, s := range []string{
		lines("begin:a-1", "X:a", "Y:b", "Z:c", "Begin:b", "X:Begin", "end:b", "BEGIN:b", "End:B", "END:A-1"),
		lines("BEGIN:A-1", "BEGIN:B", "X:Begin", "END:B", "BEGIN:B", "END:B", "X:a", "Y:b", "Z:c", "END:A-1"),
		lines("BEGIN:A-1", "X:a", "BEGIN:B", "X:Begin", "END:B", "Y:b", "BEGIN:B", "END:B", "Z:c", "END:A-1"),
		lines("BEG", " IN:A-1", "X", " :a", "BEGIN:", "\tB", "X:Be", " gin", "EN", " D:B", "BEGIN:b", "END:B", "y:b", "z:c", "END:a", " -1"),
	} {
		if got, e := Read([]byte(s)); e != api.OK || !same(got, want) {
			t.Errorf("Read(%q): %q %v", s, got, e)
		}
		checkText(t, s)
	}
}

func TestReadWrong(t *testing.T) { // P11.2
	for _, l := range [][]string{
		{},
		{"X:1"}, {"BEGIN:A"}, {"END:A"}, {"END:A", "BEGIN:A"}, {"BEGIN:A", "X:1"}, {"X:1", "BEGIN:A", "END:A"},
		{"BEGIN:A", "END:B"}, {"BEGIN:A", "END:"}, {"BEGIN:A", "END:AA"}, {"BEGIN:AA", "END:A"}, {"BEGIN:A", "END: A"}, {"BEGIN:A", "END:A "},
		{"BEGIN:A", "END:A", "X:1"}, {"BEGIN:A", "END:A", "BEGIN:A"}, {"BEGIN:A", "END:A", "END:A"}, {"BEGIN:A", "END:A", "BEGIN:A", "END:A"},
		{"BEGIN:A", "BEGIN:B", "END:A"}, {"BEGIN:A", "BEGIN:B", "END:B"}, {"BEGIN:A", "BEGIN:B", "END:A", "END:B"}, {"BEGIN:A", "END:B", "END:A"}, {"BEGIN:A", "BEGIN:B", "END:A", "END:A"},
		{"BEGIN;P=q:A", "END:A"}, {"BEGIN:A", "END;P=q:A"}, {"BEGIN:A", "END;P=:A", "END:A"}, {"BEGIN:A", "BEGIN;P=:B", "END:B", "END:A"}, {"BEGIN:A", "BEGIN;P=:B", "END:A"},
		{"BEGIN:", "END:"}, {"BEGIN: ", "END: "}, {"BEGIN:A B", "END:A B"}, {"BEGIN:A_B", "END:A_B"}, {"BEGIN:Ä", "END:Ä"}, {"BEGIN:\tA", "END:\tA"}, {"BEGIN:A,B", "END:A,B"},
		{"BEGIN:ſ", "END:S"}, {"BEGIN:S", "END:ſ"}, {"BEGIN:ı", "END:I"}, {"BEGIN:K", "END:\u212a"}, {"BEGIN:é", "END:É"},
		{"BEGIN:" + some(65), "END:" + some(65)}, {"BEGIN:A", "BEGIN:" + some(65), "END:" + some(65), "END:A"}, {"BEGIN:" + some(4096), "END:" + some(4096)},
		{"BEGIN:A", "BEGIN:", "END:", "END:A"},
	} {
		if c, e := Read([]byte(lines(l...))); e != api.ErrTree || !reflect.DeepEqual(c, none) {
			t.Errorf("Read(%q): %q %v", l, c, e)
		}
		checkText(t, lines(l...))
	}
	if c, e := Read(nil); e != api.ErrTree || !reflect.DeepEqual(c, none) {
		t.Errorf("Read of nothing: %q %v", c, e)
	}
}

func TestSheetsErrorFirst(t *testing.T) { // P11.2
	long := strings.Repeat(" ", api.MaxText+1)
	for _, c := range []struct {
		text string
		want api.Errno
	}{
		{"END:A\r\n\xff", api.ErrUtf}, {"BEGIN:A\r\nEND:A\r\n\x80", api.ErrUtf}, {"no line\r\nBEGIN:\xc3\r\n", api.ErrUtf},
		{"END:A\r\nno line\r\n", api.ErrSheet}, {"BEGIN:A\r\nEND:B\r\n\r\n", api.ErrSheet}, {"BEGIN:A\r\nEND:A\r\n\r\n", api.ErrSheet}, {"BEGIN:A\r\nEND:A", api.ErrSheet}, {"X:1", api.ErrSheet}, {"\r\n", api.ErrSheet}, {"BEGIN:A\nEND:A\n", api.ErrSheet},
		{"BEGIN\r\nEND:A\r\n", api.ErrSheet}, {"BEGIN:A\r\nEND\r\n", api.ErrSheet}, {"BEGIN :A\r\n", api.ErrSheet}, {"BEGIN:\x00\r\nEND:B\r\n", api.ErrSheet}, {"END:" + some(4097) + "\r\n", api.ErrSheet},
		{"BEGIN;P=1;P=2:A\r\nEND:A\r\n", api.ErrSheet}, {" BEGIN:A\r\nEND:A\r\n", api.ErrSheet},
		{long, api.ErrLong}, {"\xff" + long, api.ErrLong}, {"END:A\r\n" + long, api.ErrLong},
		{strings.Repeat("X:\r\n", 4097), api.ErrLong}, {strings.Repeat("X:\r\n", 4096), api.ErrTree}, {strings.Repeat("BEGIN:A\r\n", 4097), api.ErrLong}, {strings.Repeat("BEGIN:A\r\n", 4096), api.ErrTree},
		{strings.Repeat("X:\r\n", 4097) + "\xff", api.ErrUtf}, {strings.Repeat("X:\r\n", 4096) + "no line\r\n", api.ErrSheet},
	} {
		if got, e := Read([]byte(c.text)); e != c.want || !reflect.DeepEqual(got, none) {
			t.Errorf("Read(%.60q): %v, not %v", c.text, e, c.want)
		}
	}
}

func TestEveryByte(t *testing.T) { // P11.1, P11.2
	for c := range 256 {
		b := string([]byte{byte(c)})
		name := c >= 'A' && c <= 'Z' || c >= '0' && c <= '9' || c == '-'
		for _, s := range []string{b, "A" + b, b + "A", "A" + b + "A"} {
			if Right(with(s, nil)) != name || Right(with("A", nil, with(s, nil))) != name {
				t.Errorf("Right of the Name %q: not %v", s, name)
			}
			checkComp(t, with(s, nil))
			checkComp(t, with("A", nil, with("B", nil), with(s, nil)))
			checkComp(t, with("A", []api.Line{of(s, s, s, s)}))
			checkComp(t, with("A", []api.Line{of("X", s)}))
			for _, end := range []string{s, capitals(s), strings.ToLower(s), "A"} {
				e := checkText(t, lines("BEGIN:"+s, "END:"+end))
				checkText(t, lines("BEGIN:A", "BEGIN:"+s, "X:"+s, "END:"+end, "END:A"))
				if small := c >= 'a' && c <= 'z'; (name || small) && end == s && e != api.OK {
					t.Errorf("Read of the Name %q: %v", s, e)
				}
			}
		}
	}
}

func TestRightLimits(t *testing.T) { // P11.1
	twin := with("T", nil, deep(6), deep(7), deep(1))
	bushy := with("B", nil)
	for range 9 {
		bushy.Comps = append(bushy.Comps, deep(7))
	}
	x := []api.Line{of("X", "1")}
	spread := wide(64)
	for i := range spread.Comps {
		spread.Comps[i].Lines = many(128)
	}
	spread.Lines = many(128)
	over := clone(spread)
	over.Comps[62].Lines = many(129)
	for at, c := range []struct {
		c    api.Comp
		want bool
	}{
		{none, false}, {with("", x), false}, {with("A", nil), true}, {with("a", nil), false}, {with("Aa", nil), false},
		{with(some(64), x), true}, {with(some(65), x), false}, {with("A", nil, with(some(64), nil)), true}, {with("A", nil, with(some(65), nil)), false}, {with("A", nil, none), false},
		{deep(8), true}, {deep(9), false}, {deep(100), false}, {with("A", nil, with("B", nil), deep(7)), true}, {with("A", nil, with("B", nil), deep(8)), false}, {twin, true}, {with("A", nil, twin), false},
		{wide(64), true}, {wide(65), false}, {wide(10000), false}, {bushy, true}, {with("A", nil, bushy), false},
		{with("B", nil, append(slices.Clone(bushy.Comps), with("C", nil))...), false}, {with("A", nil, wide(31), wide(32)), true}, {with("A", nil, wide(32), wide(32)), false},
		{with("A", many(8192)), true}, {with("A", many(8193)), false}, {with("A", many(8191), with("B", x)), true}, {with("A", many(8192), with("B", x)), false}, {with("A", nil, with("B", many(4096)), with("C", many(4096))), true}, {with("A", x, with("B", many(4096)), with("C", many(4096))), false}, {with("A", nil, with("B", many(8192)), with("C", x)), false},
		{spread, true}, {over, false},
		{with("A", []api.Line{of("BEGIN", "A")}), false}, {with("A", []api.Line{of("END", "A")}), false}, {with("A", []api.Line{of("BEGIN", "", "P", "q")}), false}, {with("A", nil, with("B", []api.Line{of("X", ""), of("END", "")})), false},
		{with("A", []api.Line{of("BEGINS", ""), of("ENDE", ""), of("BEGI", ""), of("EN", ""), of("X-END", "BEGIN")}), true}, {with("A", []api.Line{of("begin", "")}), false},
		{with("BEGIN", x, with("END", x)), true}, {with("A", []api.Line{of("x", "")}), false}, {with("A", []api.Line{of("", "")}), false}, {with("A", []api.Line{of("X", "\n")}), false}, {with("A", []api.Line{of("X", "\xff")}), false}, {with("A", []api.Line{of("X", some(4096))}), true}, {with("A", []api.Line{of("X", some(4097))}), false}, {with("A", []api.Line{of("X", "", "P", `"`)}), false}, {with("A", []api.Line{of("X", "", "P", "", "P", "")}), false},
		{with("A", x, with("B", x, with("C", x, with("D", append(many(3), of("X", "\x7f")))))), false},
	} {
		if Right(c.c) != c.want {
			t.Errorf("Right of the component %d, %.60q: not %v", at, c.c, c.want)
		}
		checkComp(t, c.c)
	}
}

func TestReadLimits(t *testing.T) { // P11.2
	text := func(c api.Comp) string { return slowText(c) }
	for at, c := range []struct {
		text string
		want api.Errno
	}{
		{text(deep(8)), api.OK}, {text(deep(9)), api.ErrTree}, {text(deep(2000)), api.ErrTree},
		{text(wide(64)), api.OK}, {text(wide(65)), api.ErrTree}, {text(wide(2000)), api.ErrTree},
		{text(with("A", nil, wide(31), wide(32))), api.OK}, {text(with("A", nil, wide(32), wide(32))), api.ErrTree},
		{text(with("A", nil, with("B", nil), deep(7))), api.OK}, {text(with("A", nil, with("B", nil), deep(8))), api.ErrTree},
		{text(with(some(64), nil)), api.OK}, {text(with(some(65), nil)), api.ErrTree}, {strings.ToLower(text(with(some(64), nil))), api.OK}, {strings.ToLower(text(with(some(65), nil))), api.ErrTree},
		{text(with("A", many(4094))), api.OK}, {text(with("A", many(4095))), api.ErrLong}, {text(with("A", many(4092), with("B", nil))), api.OK}, {text(with("A", many(4093), with("B", nil))), api.ErrLong}, {text(with("A", many(9000))), api.ErrLong},
		{lines("BEGIN:A") + text(wide(63)) + lines("X:1", "END:A"), api.OK}, {lines("BEGIN:A") + text(wide(64)) + lines("X:1", "END:A"), api.ErrTree},
	} {
		if e := checkText(t, c.text); e != c.want {
			t.Errorf("Read of the text %d, %.60q: %v, not %v", at, c.text, e, c.want)
		}
	}
}

func TestWriteLimits(t *testing.T) { // P11.1
	// 4094 lines of its own, and two more, are all that can be read.
	for n, want := range map[int]api.Errno{4094: api.OK, 4095: api.ErrLong, 8192: api.ErrLong, 8193: api.ErrTree} {
		if e := checkComp(t, with("A", many(n))); e != want {
			t.Errorf("Write of %d lines: %v, not %v", n, e, want)
		}
	}
	if e := checkComp(t, with("A", many(4092), with("B", nil))); e != api.OK {
		t.Errorf("Write of 4096 lines with two components: %v", e)
	}
	if e := checkComp(t, with("A", many(4093), with("B", nil))); e != api.ErrLong {
		t.Errorf("Write of 4097 lines with two components: %v", e)
	}
	// Lines, as many as there is room for beside BEGIN and END; what is left of it is filled below.
	full := with("A", nil)
	room := api.MaxText - len(slowText(full))
	for room >= 4096 {
		l := of("X", some(4000))
		room -= len(slowText(with("A", []api.Line{l}))) - len(slowText(with("A", nil)))
		full.Lines = append(full.Lines, l)
	}
	for room > 100 {
		full.Lines = append(full.Lines, of("X", some(60)))
		room -= 64
	}
	for by, want := range map[int]api.Errno{-1: api.OK, 0: api.OK, 1: api.ErrLong, 2: api.ErrLong} {
		c := clone(full)
		c.Lines = append(c.Lines, of("Y", some(room/2-4)), of("Y", some(room-room/2-4+by)))
		if n := len(slowText(c)); n != api.MaxText+by {
			t.Fatalf("the test's component has %d bytes", n)
		}
		if e := checkComp(t, c); e != want {
			t.Errorf("Write of %d bytes more than MaxText: %v, not %v", by, e, want)
		}
		c.Comps = append(c.Comps, with("a", nil))
		if e := checkComp(t, c); e != api.ErrTree {
			t.Errorf("Write of a long one that may not be: %v", e)
		}
	}
	longest := of(some(64), some(4096))
	for i := range 16 {
		longest.Params = append(longest.Params, api.Param{Name: some(62) + strconv.Itoa(10+i), Value: some(256)})
	}
	if b, e := Write(with("A", slices.Repeat([]api.Line{longest}, 4094))); len(b) != 0 || e != api.ErrLong {
		t.Errorf("Write of long lines: %d %v", len(b), e)
	}
	// What is read, and takes more bytes written, since long lines are folded then.
	s := lines("BEGIN:A") + strings.Repeat("X:"+some(4096)+"\r\n", 255) + lines("END:A")
	if c, e := Read([]byte(s)); e != api.OK || !Right(c) || checkComp(t, c) != api.ErrLong {
		t.Errorf("Read of long lines: %v", e)
	}
}

func TestReadAllShort(t *testing.T) { // P11.2, P11.5
	pieces := []string{"BEGIN:A", "begin:b", "END:A", "End:a", "END:B", "X:1", "BEGIN;P=:A", "END;P=:A"}
	counts := map[api.Errno]int{}
	var grow func(l []string, n int)
	grow = func(l []string, n int) {
		counts[checkText(t, lines(l...))]++
		for i := 0; i < len(pieces) && n > 0; i++ {
			grow(append(slices.Clone(l), pieces[i]), n-1)
		}
	}
	grow(nil, 5)
	if counts[api.OK] == 0 || counts[api.ErrTree] == 0 || len(counts) != 2 {
		t.Errorf("what was read: %v", counts)
	}
}

func TestReadAllRight(t *testing.T) { // P11.2, P11.5
	// All ways of BEGIN, END and lines that come out even.
	count := 0
	var grow func(l []string, open []string, n int)
	grow = func(l []string, open []string, n int) {
		if n < 0 || len(open) > n+1 {
			return
		}
		if len(open) == 0 && len(l) > 0 {
			if e := checkText(t, lines(l...)); e != api.OK {
				t.Fatalf("Read(%q): %v", l, e)
			}
			count++
			return
		}
		for _, name := range []string{"A", "B"} {
			grow(append(slices.Clone(l), "BEGIN:"+name), append(slices.Clone(open), name), n-1)
		}
		if last := len(open) - 1; last >= 0 {
			grow(append(slices.Clone(l), "X:"+strconv.Itoa(n)), open, n-1)
			grow(append(slices.Clone(l), "END:"+strings.ToLower(open[last])), slices.Clone(open[:last]), n-1)
		}
	}
	grow(nil, nil, 10)
	if count < 1000 {
		t.Errorf("%d components", count)
	}
}

// someComp is a component that may be, in which there are so many at most.
func someComp(r *rand.Rand, depth int, left *int) api.Comp {
	*left--
	names := []string{"A", "VEVENT", "X-1", "0", some(64)}
	c := api.Comp{Name: names[r.Intn(len(names))]}
	for range r.Intn(4) {
		l := of([]string{"X", "Y", "BEGINS", "END-"}[r.Intn(4)], strings.Repeat([]string{"", "é", "a b", "€,;:\t\"", "BEGIN:A"}[r.Intn(5)], r.Intn(40)))
		for i := range r.Intn(3) {
			l.Params = append(l.Params, api.Param{Name: "P" + strconv.Itoa(i), Value: []string{"", "q", "a,b;c:d", "é"}[r.Intn(4)]})
		}
		c.Lines = append(c.Lines, l)
	}
	for range r.Intn(5) {
		if depth > 1 && *left > 0 {
			c.Comps = append(c.Comps, someComp(r, depth-1, left))
		}
	}
	return c
}

// shuffled is a component's lines, with its own ones anywhere between its components, and letters small and large.
func shuffled(r *rand.Rand, c api.Comp) []string {
	letters := func(s string) string {
		if r.Intn(2) == 0 {
			return strings.ToLower(s)
		}
		return s
	}
	out := []string{letters("BEGIN") + ":" + letters(c.Name)}
	own, inner := c.Lines, c.Comps
	for len(own)+len(inner) > 0 {
		if len(inner) == 0 || len(own) > 0 && r.Intn(2) == 0 {
			b, _ := sheet.Write(own[:1])
			out, own = append(out, strings.TrimSuffix(string(b), "\r\n")), own[1:]
		} else {
			out, inner = append(out, shuffled(r, inner[0])...), inner[1:]
		}
	}
	return append(out, letters("END")+":"+letters(c.Name))
}

func TestThereAndBack(t *testing.T) { // P11.4, P11.5
	r := rand.New(rand.NewSource(1))
	for range 1000 {
		left := 1 + r.Intn(64)
		c := someComp(r, 1+r.Intn(8), &left)
		if e := checkComp(t, c); e != api.OK {
			t.Fatalf("Write(%q): %v", c, e)
		}
		l := shuffled(r, c)
		if back, e := Read([]byte(lines(l...))); e != api.OK || !same(back, c) {
			t.Fatalf("Read(%q): %q %v, not %q", l, back, e, c)
		}
		checkText(t, lines(l...))
		// With a line less, or more, or two that have changed places, it is something else, or nothing.
		at, to := r.Intn(len(l)), r.Intn(len(l))
		checkText(t, lines(slices.Delete(slices.Clone(l), at, at+1)...))
		checkText(t, lines(slices.Insert(slices.Clone(l), at, l[to])...))
		l[at], l[to] = l[to], l[at]
		checkText(t, lines(l...))
	}
}

func TestGet(t *testing.T) { // P11.3
	c := with("A", []api.Line{of("X", "1", "P", "q"), of("Y", "2"), of("X", "3"), of("x", "4"), of("", "5"), of("X", "7", "P", "q"), of("BEGIN", "6")},
		with("B", []api.Line{of("X", "inner"), of("Z", "inner")}), with("b", nil), with("B", nil, with("D", nil)), with("", nil), with("C", nil, with("B", many(1))))
	for name, want := range map[string][]string{"X": {"1", "3", "7"}, "Y": {"2"}, "x": {"4"}, "": {"5"}, "BEGIN": {"6"}, "Z": nil, "y": nil, "XX": nil, "END": nil, "X ": nil} {
		all := All(c, name)
		var values []string
		for _, l := range all {
			values = append(values, l.Value)
			if l.Name != name {
				t.Errorf("All of %q: %q", name, l)
			}
		}
		if !slices.Equal(values, want) {
			t.Errorf("All of %q: %q", name, all)
		}
		first, n := Get(c, name)
		if n != len(want) || n == 0 && !reflect.DeepEqual(first, api.Line{}) || n > 0 && !sameLine(first, all[0]) {
			t.Errorf("Get of %q: %q %d", name, first, n)
		}
	}
	if first, _ := Get(c, "X"); !sameLine(first, c.Lines[0]) {
		t.Errorf("Get of X: %q", first)
	}
	for name, want := range map[string][]api.Comp{"B": {c.Comps[0], c.Comps[2]}, "b": {c.Comps[1]}, "": {c.Comps[3]}, "C": {c.Comps[4]}, "A": nil, "D": nil, "c": nil, "BB": nil} {
		if got := Find(c, name); !slices.EqualFunc(got, want, same) {
			t.Errorf("Find of %q: %q", name, got)
		}
	}
	if l, n := Get(none, ""); n != 0 || !reflect.DeepEqual(l, api.Line{}) || len(All(none, "")) != 0 || len(Find(none, "")) != 0 {
		t.Errorf("nothing has %q %d", l, n)
	}
}

func TestNothingIsChangedOrKept(t *testing.T) { // Rules 4 and 5
	make1 := func() api.Comp {
		all := []api.Line{of("X", "1", "P", "q", "!", "!"), of("Y", "2"), of("!", "!")}
		all[0].Params = all[0].Params[:1]
		comps := []api.Comp{with("B", []api.Line{of("Z", "3", "R", "s")}, with("C", []api.Line{of("U", "4")}, with("D", nil))), with("!", nil)}
		return with("A", all[:2], comps[:1]...)
	}
	c := make1()
	c.Comps = append(c.Comps, with("!", nil))[:1]
	text := lines("BEGIN:A", "X;P=q:1", "Y:2", "BEGIN:B", "Z;R=s:3", "BEGIN:C", "U:4", "BEGIN:D", "END:D", "END:C", "END:B", "END:A")
	if b, e := Write(c); string(b) != text || e != api.OK || !Right(c) {
		t.Errorf("Write: %q %v", b, e)
	}
	if b, _ := Write(c); string(b) == text { // what is handed out is not kept
		clear(b)
	}
	if b, e := Write(c); string(b) != text || e != api.OK {
		t.Errorf("Write, again: %q %v", b, e)
	}
	line, _ := Get(c, "X")
	all := All(c, "X")
	found := Find(c, "B")
	line.Params[0].Value, all[0].Params[0].Value, all[0].Value = "!", "?", "?"
	found[0].Lines[0].Params[0].Value, found[0].Comps[0].Name, found[0].Lines[0].Name = "!", "!", "!"
	found[0].Comps[0].Lines[0].Value, found[0].Comps[0].Comps[0].Name = "!", "!"
	_ = append(line.Params, api.Param{Name: "?"})
	_ = append(found[0].Lines, of("?", ""))
	_ = append(found[0].Comps, with("?", nil))
	if !reflect.DeepEqual(c, make1()) || c.Lines[:3][2].Name != "!" || c.Lines[0].Params[:2][1].Name != "!" || c.Comps[:2][1].Name != "!" {
		t.Errorf("changed: %q", c)
	}
	room := []byte(text + "behind")
	was := bytes.Clone(room)
	got, e := Read(room[:len(text)])
	if e != api.OK || !bytes.Equal(room, was) {
		t.Fatalf("Read: %v, changed to %q", e, room)
	}
	for i := range room {
		room[i] = '!'
	}
	if !same(got, c) {
		t.Errorf("what was read shares memory: %q", got)
	}
}

func TestListsOfAnAnswer(t *testing.T) { // Rule 5
	got, e := Read([]byte(lines("BEGIN:A", "BEGIN:B", "X;P=1:1", "END:B", "BEGIN:C", "X;P=2:2", "BEGIN:D", "X:3", "END:D", "END:C", "X:4", "END:A")))
	want := with("A", []api.Line{of("X", "4")}, with("B", []api.Line{of("X", "1", "P", "1")}), with("C", []api.Line{of("X", "2", "P", "2")}, with("D", []api.Line{of("X", "3")})))
	if e != api.OK || !same(got, want) {
		t.Fatalf("Read: %q %v", got, e)
	}
	// What is put behind one list is to be seen in no other.
	var grow func(c api.Comp)
	grow = func(c api.Comp) {
		for _, l := range c.Lines {
			_ = append(l.Params, api.Param{Name: "!"}, api.Param{Name: "!"})
		}
		_ = append(c.Lines, of("!", ""), of("!", ""), of("!", ""))
		_ = append(c.Comps, with("!", nil), with("!", nil), with("!", nil))
		for _, q := range c.Comps {
			grow(q)
		}
	}
	grow(got)
	if !same(got, want) {
		t.Errorf("lists share memory: %q", got)
	}
	for _, found := range [][]api.Comp{Find(got, "B"), Find(got, "C")} {
		grow(found[0])
	}
	if !same(got, want) || !same(Find(got, "C")[0], want.Comps[1]) {
		t.Errorf("lists share memory: %q", got)
	}
}

func TestAllEnds(t *testing.T) { // P1
	// A component that stands in itself, and one that is nested as deep as may be handed in.
	loop := make([]api.Comp, 2)
	loop[0] = with("A", many(1), loop...)
	loop[1] = loop[0]
	far := deep(1 << 16)
	for _, c := range []api.Comp{loop[0], far, with("A", make([]api.Line, 1<<20)), with("A", nil, make([]api.Comp, 1<<20)...), with(some(1<<20), nil), with("A", []api.Line{of(some(1<<20), some(1<<20))})} {
		if b, e := Write(c); Right(c) || len(b) != 0 || e != api.ErrTree {
			t.Errorf("Write of what may not be: %d %v", len(b), e)
		}
		if l, n := Get(c, "!"); n != 0 || !reflect.DeepEqual(l, api.Line{}) || len(All(c, "!")) != 0 || len(Find(c, "!")) != 0 {
			t.Errorf("there are lines of !")
		}
	}
	if got := Find(far, "C2"); len(got) != 1 || len(got[0].Comps) != 1 || got[0].Comps[0].Name != "C3" {
		t.Errorf("Find in a deep one: %d", len(got))
	}
	for _, piece := range []string{"BEGIN:A\r\n", "END:A\r\n", "X:\r\n", "BEGIN:A\r\nEND:A\r\n", "\r\n", "\r\n ", "B", ":", "\x00", "\xff", "é", "BEGIN:A\r\n "} {
		s := strings.Repeat(piece, (api.MaxText-100)/len(piece))
		for _, s := range []string{s, "BEGIN:A\r\n" + s, "BEGIN:A\r\n" + s + "END:A\r\n", "BEGIN:" + s + "\r\nEND:A\r\n", "BEGIN:A\r\nX:" + s + "\r\nEND:A\r\n"} {
			checkText(t, s)
		}
	}
}
