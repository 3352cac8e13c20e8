package dots

import (
	"bufio"
	"bytes"
	"math"
	"math/rand"
	"net/textproto"
	"regexp"
	"slices"
	"strconv"
	"strings"
	"testing"

	"posthorn/api"
)

// allTexts calls see with each text of at most n pieces of those given.
func allTexts(from []string, n int, see func(s string)) {
	var grow func(s string, n int)
	grow = func(s string, n int) {
		see(s)
		for i := 0; i < len(from) && n > 0; i++ {
			grow(s+from[i], n-1)
		}
	}
	grow("", n)
}

// someText is a text of n pieces of those given.
func someText(r *rand.Rand, from []string, n int) string {
	var s strings.Builder
	for range n {
		s.WriteString(from[r.Intn(len(from))])
	}
	return s.String()
}

// some is so many times a.
func some(n int) string { return strings.Repeat("a", n) }

var signs = []string{"a", ".", "\r", "\n"}

func TestRightExamples(t *testing.T) { // P5.1
	for _, c := range []struct {
		in   string
		want api.Fault
	}{
		{"", api.Fault{}},
		{"\r\n", api.Fault{}},
		{"a\r\n", api.Fault{}},
		{".\r\n", api.Fault{}},
		{"a\r\n.\r\n\r\nb\r\n", api.Fault{}},
		{"\x00\xff\t\r\n", api.Fault{}},
		{"a\nb\r\n", api.Fault{At: 1, Code: api.ErrBare}},
		{"a\rb\r\n", api.Fault{At: 1, Code: api.ErrBare}},
		{"\r", api.Fault{At: 0, Code: api.ErrBare}},
		{"\n", api.Fault{At: 0, Code: api.ErrBare}},
		{"\n\r", api.Fault{At: 0, Code: api.ErrBare}},
		{"\n\r\n", api.Fault{At: 0, Code: api.ErrBare}},
		{"\r\r\n", api.Fault{At: 0, Code: api.ErrBare}},
		{"\r\n\n", api.Fault{At: 2, Code: api.ErrBare}},
		{"a\r\nb\r", api.Fault{At: 4, Code: api.ErrBare}},
		{"a\r\nb\n", api.Fault{At: 4, Code: api.ErrBare}},
		{"a", api.Fault{At: 1, Code: api.ErrShort}},
		{"a\r\nbc", api.Fault{At: 5, Code: api.ErrShort}},
		{".", api.Fault{At: 1, Code: api.ErrShort}},
	} {
		if f := Right([]byte(c.in)); f != c.want {
			t.Errorf("Right(%q): %v, not %v", c.in, f, c.want)
		}
	}
}

func TestRightLongLines(t *testing.T) { // P5.1
	for _, c := range []struct {
		name, in string
		want     api.Fault
	}{
		{"at the limit", some(998) + "\r\n", api.Fault{}},
		{"one beyond it", some(999) + "\r\n", api.Fault{At: 0, Code: api.ErrLine}},
		{"with a point, at the limit", "." + some(997) + "\r\n", api.Fault{}},
		{"with a point, one beyond it", "." + some(998) + "\r\n", api.Fault{At: 0, Code: api.ErrLine}},
		{"in the second line", "ab\r\n" + some(999) + "\r\n", api.Fault{At: 4, Code: api.ErrLine}},
		{"bare ahead of line, in one line", some(1500) + "\nb\r\n", api.Fault{At: 1500, Code: api.ErrBare}},
		{"a 13 at the end of a long one", some(999) + "\r", api.Fault{At: 999, Code: api.ErrBare}},
		{"line ahead of bare in the next one", some(999) + "\r\n\n\r\n", api.Fault{At: 0, Code: api.ErrLine}},
		{"bare ahead of line in the next one", "\r\r\n" + some(999) + "\r\n", api.Fault{At: 0, Code: api.ErrBare}},
		{"line ahead of short", some(999), api.Fault{At: 0, Code: api.ErrLine}},
		{"short at the limit", some(998), api.Fault{At: 998, Code: api.ErrShort}},
		{"line ahead of short in the next one", some(999) + "\r\nb", api.Fault{At: 0, Code: api.ErrLine}},
		{"many lines at the limit", strings.Repeat(some(998)+"\r\n", 2000), api.Fault{}},
	} {
		if f := Right([]byte(c.in)); f != c.want {
			t.Errorf("%s: %v, not %v", c.name, f, c.want)
		}
	}
}

var (
	wholeLines = regexp.MustCompile(`\A([^\r\n]*\r\n)*`)
	fullLine   = regexp.MustCompile(`\A[^\r\n]*`)
)

// slowRight is Right's answer for a text whose lines are short: behind the right lines stands the fault.
func slowRight(s string) api.Fault {
	n := len(wholeLines.FindString(s))
	if n == len(s) {
		return api.Fault{}
	}
	n += len(fullLine.FindString(s[n:]))
	if n == len(s) {
		return api.Fault{At: n, Code: api.ErrShort}
	}
	return api.Fault{At: n, Code: api.ErrBare}
}

func TestRightAllShortTexts(t *testing.T) { // P5.1
	allTexts(signs, 8, func(s string) {
		if f := Right([]byte(s)); f != slowRight(s) {
			t.Fatalf("Right(%q): %v, not %v", s, f, slowRight(s))
		}
	})
}

func TestRightEveryByte(t *testing.T) { // P5.1
	for c := range 256 {
		b := []byte{'x', byte(c), 'y', '\r', '\n'}
		want := api.Fault{}
		if c == 13 || c == 10 {
			want = api.Fault{At: 1, Code: api.ErrBare}
		}
		if f := Right(b); f != want {
			t.Errorf("Right(%q): %v", b, f)
		}
	}
}

func TestStuffExamples(t *testing.T) { // P5.1
	for _, c := range []struct{ in, out string }{
		{"", ".\r\n"},
		{"\r\n", "\r\n.\r\n"},
		{".a\r\n", "..a\r\n.\r\n"},
		{".\r\n", "..\r\n.\r\n"},
		{"..\r\n", "...\r\n.\r\n"},
		{"a.\r\n", "a.\r\n.\r\n"},
		{" .\r\n", " .\r\n.\r\n"},
		{"a\r\n.\r\n.b\r\n\r\n", "a\r\n..\r\n..b\r\n\r\n.\r\n"},
		{"." + some(997) + "\r\n", ".." + some(997) + "\r\n.\r\n"},
	} {
		if b, e := Stuff([]byte(c.in)); string(b) != c.out || e != api.OK {
			t.Errorf("Stuff(%q): %q %v, not %q", c.in, b, e, c.out)
		}
	}
}

func TestStuffHasRightsError(t *testing.T) { // P5.1
	for _, s := range []string{"a", "\r", "a\n", "\n\r\n", some(999) + "\r\n", some(999), some(1200) + "\r", "." + some(998) + "\r\n"} {
		if b, e := Stuff([]byte(s)); b != nil || e != Right([]byte(s)).Code || e == api.OK {
			t.Errorf("Stuff(%q): %q %v", s, b, e)
		}
	}
	allTexts(signs, 6, func(s string) {
		b, e := Stuff([]byte(s))
		if e != slowRight(s).Code || (e != api.OK) != (len(b) == 0) {
			t.Fatalf("Stuff(%q): %q %v", s, b, e)
		}
	})
}

// libraryFrame is what the library writes for a text that is not empty.
func libraryFrame(text string) string {
	var out bytes.Buffer
	w := textproto.NewWriter(bufio.NewWriter(&out))
	d := w.DotWriter()
	d.Write([]byte(strings.ReplaceAll(text, "\r\n", "\n")))
	d.Close()
	return out.String()
}

func TestStuffAsTheLibrary(t *testing.T) { // P5.1, P5.4
	allTexts([]string{"a", ".", "\r\n"}, 8, func(s string) {
		s += "\r\n"
		b, e := Stuff([]byte(s))
		if e != api.OK || string(b) != libraryFrame(s) {
			t.Fatalf("Stuff(%q): %q %v", s, b, e)
		}
		rows := strings.Split(string(b), "\r\n")
		if slices.Index(rows, ".") != len(rows)-2 {
			t.Fatalf("Stuff(%q): a point alone in %q", s, b)
		}
	})
}

// answer is what Put says.
type answer struct {
	n    int
	over bool
	e    api.Errno
}

func put(r *Reader, s string) answer {
	n, over, e := r.Put([]byte(s))
	return answer{n, over, e}
}

func TestPutExamples(t *testing.T) { // P5.2
	for _, c := range []struct {
		in   string
		most int
		want answer
		text string
	}{
		{"", 10, answer{}, ""},
		{".\r\n", 10, answer{3, true, api.OK}, ""},
		{".\r\n", 0, answer{3, true, api.OK}, ""},
		{".\r\nx", 10, answer{3, true, api.OK}, ""},
		{".\r\n.\r\n", 10, answer{3, true, api.OK}, ""},
		{"..a\r\n.\r\nx", 10, answer{8, true, api.OK}, ".a\r\n"},
		{".a\r\n.\r\n", 10, answer{7, true, api.OK}, "a\r\n"},
		{"..\r\n.\r\n", 10, answer{7, true, api.OK}, ".\r\n"},
		{"a\r\nb", 10, answer{4, false, api.OK}, "a\r\n"},
		{"a\r\n.", 10, answer{4, false, api.OK}, "a\r\n"},
		{"a\r\n.\r", 10, answer{5, false, api.OK}, "a\r\n"},
		{"a\r\nb\r", 10, answer{5, false, api.OK}, "a\r\n"},
		{"\r\n\r\n.\r\n", 10, answer{7, true, api.OK}, "\r\n\r\n"},
		{"a.\r\n.\r\n", 10, answer{7, true, api.OK}, "a.\r\n"},
		{". \r\n.\r\n", 10, answer{7, true, api.OK}, " \r\n"},
		// A line begins behind a pair alone.
		{"a\n.\r\n", 10, answer{5, false, api.OK}, ""},
		{"a\r.\r\n", 10, answer{5, false, api.OK}, ""},
		{"a\n.\n", 10, answer{4, false, api.OK}, ""},
		{".\n", 10, answer{2, false, api.OK}, ""},
		{".\r.\r\n", 10, answer{5, false, api.OK}, ""},
		{".\r\r\n", 10, answer{4, false, api.OK}, ""},
		{"\r.\r\n", 10, answer{4, false, api.OK}, ""},
		{"\n.\r\n", 10, answer{4, false, api.OK}, ""},
		{"\r\r\n.\r\n", 10, answer{6, true, api.ErrBare}, ""},
		{"a\n.\r\n.\r\nx", 10, answer{8, true, api.ErrBare}, ""},
		{"b\r\na\r\r\n.\r\nx", 10, answer{10, true, api.ErrBare}, ""},
		{"\r\n\n\r\n.\r\n", 10, answer{8, true, api.ErrBare}, ""},
		{"b\r\na\n", 10, answer{5, false, api.OK}, ""},
		{"b\r\na\rc", 10, answer{6, false, api.OK}, ""},
		{"b\r\n\r\r", 10, answer{5, false, api.OK}, ""},
	} {
		r := New(c.most)
		got := put(r, c.in)
		if text := r.Text(); got != c.want || string(text) != c.text {
			t.Errorf("Put(%q): %v, not %v; the text %q", c.in, got, c.want, text)
		}
	}
}

func TestPutLongLines(t *testing.T) { // P5.2
	for _, c := range []struct {
		name, line string
		want       api.Errno
		text       string
	}{
		{"at the limit", some(998), api.OK, some(998) + "\r\n"},
		{"one beyond it", some(999), api.ErrLine, ""},
		{"a point put ahead, at the limit", ".." + some(997), api.OK, "." + some(997) + "\r\n"},
		{"a point put ahead, one beyond it", ".." + some(998), api.ErrLine, ""},
		{"a point ahead of another byte, at the limit", "." + some(998), api.OK, some(998) + "\r\n"},
		{"a point ahead of another byte, one beyond it", "." + some(999), api.ErrLine, ""},
		{"far beyond it", some(5000), api.ErrLine, ""},
	} {
		for _, ahead := range []string{"", "x\r\n"} {
			r := New(10000)
			frame := ahead + c.line + "\r\n.\r\n"
			got := put(r, frame+"y")
			want := ahead + c.text
			if c.want != api.OK {
				want = ""
			}
			if got != (answer{len(frame), true, c.want}) || string(r.Text()) != want {
				t.Errorf("%s: %v, the text %q", c.name, got, r.Text())
			}
		}
	}
}

func TestTextWithinALongLine(t *testing.T) { // P5.2
	for _, c := range []struct{ line, text string }{
		{some(998), "x\r\n"},
		{some(998) + "\r", "x\r\n"},
		{"." + some(998), "x\r\n"},
		{"." + some(998) + "\r", "x\r\n"},
		{some(1000), ""},
		{"." + some(999), ""},
		{some(3000), ""},
		{some(999) + "\r\n", ""},
		{some(999) + "\r\ny\r\n", ""},
	} {
		r := New(10000)
		if got := put(r, "x\r\n"+c.line); got != (answer{3 + len(c.line), false, api.OK}) || string(r.Text()) != c.text {
			t.Errorf("Put(%q): %v, the text %q", c.line, got, r.Text())
		}
	}
}

func TestPutMost(t *testing.T) { // P5.2
	for _, c := range []struct {
		frame string
		most  int
		want  api.Errno
		text  string
	}{
		{"abc\r\n.\r\n", 5, api.OK, "abc\r\n"},
		{"abc\r\n.\r\n", 4, api.ErrLong, ""},
		{"abc\r\n.\r\n", math.MaxInt, api.OK, "abc\r\n"},
		{"..a\r\n.\r\n", 4, api.OK, ".a\r\n"},
		{"..a\r\n.\r\n", 3, api.ErrLong, ""},
		{"a\r\nb\r\n.\r\n", 6, api.OK, "a\r\nb\r\n"},
		{"a\r\nb\r\n.\r\n", 5, api.ErrLong, ""},
		{"a\r\nb\r\nc\r\n.\r\n", 5, api.ErrLong, ""},
		{"\r\n.\r\n", 2, api.OK, "\r\n"},
		{"\r\n.\r\n", 1, api.ErrLong, ""},
		{"\r\n.\r\n", 0, api.ErrLong, ""},
		{".\r\n", 0, api.OK, ""},
		{".\r\n", -1, api.OK, ""},
		{".\r\n", math.MinInt, api.OK, ""},
		{"\r\n.\r\n", -1, api.ErrLong, ""},
		{"\r\n.\r\n", math.MinInt, api.ErrLong, ""},
		{strings.Repeat("abc\r\n", 4000) + ".\r\n", 20000, api.OK, strings.Repeat("abc\r\n", 4000)},
		{strings.Repeat("abc\r\n", 4000) + ".\r\n", 19999, api.ErrLong, ""},
	} {
		r := New(c.most)
		if got := put(r, c.frame); got != (answer{len(c.frame), true, c.want}) || string(r.Text()) != c.text {
			t.Errorf("Put(%q), %d: %v, the text %q", c.frame, c.most, got, r.Text())
		}
	}
}

func TestPutFirstErrorOfAll(t *testing.T) { // P5.2
	long, bare, much := some(999)+"\r\n", "a\nb\r\n", "abcdefghijkl\r\n"
	for _, c := range []struct {
		frame string
		want  api.Errno
	}{
		{long + bare + much, api.ErrBare},
		{long + much + bare, api.ErrBare},
		{much + long + bare, api.ErrBare},
		{bare + long, api.ErrBare},
		{much + long, api.ErrLine},
		{long + much, api.ErrLine},
		{much, api.ErrLong},
	} {
		r := New(10)
		if got := put(r, c.frame); got != (answer{len(c.frame), false, api.OK}) || len(r.Text()) != 0 {
			t.Errorf("Put(%q): %v ahead of the end, the text %q", c.frame, got, r.Text())
		}
		if got := put(r, ".\r\n"); got != (answer{3, true, c.want}) || len(r.Text()) != 0 {
			t.Errorf("Put(%q): %v, not %v", c.frame, got, c.want)
		}
	}
}

func TestPutBehindTheEnd(t *testing.T) { // P5.2
	for _, frame := range []string{".\r\n", "a\r\n.\r\n", "a\n\r\n.\r\n"} {
		r := New(10)
		put(r, frame)
		text := r.Text()
		for _, s := range []string{"", "a", "a\r\n.\r\n", ".\r\n"} {
			if got := put(r, s); got != (answer{0, false, api.ErrState}) || !bytes.Equal(r.Text(), text) {
				t.Errorf("Put(%q) behind the end: %v, the text %q", s, got, r.Text())
			}
		}
		if n, over, e := r.Put(nil); n != 0 || over || e != api.ErrState {
			t.Errorf("Put(nil) behind the end: %d %v %v", n, over, e)
		}
	}
}

func TestReaderThatNoCallMade(t *testing.T) { // P5.2
	var none *Reader
	for _, s := range []string{"", "a", ".\r\n"} {
		if got := put(none, s); got != (answer{0, false, api.ErrState}) || len(none.Text()) != 0 {
			t.Errorf("Put(%q) of nil: %v %q", s, got, none.Text())
		}
	}
	for _, c := range []struct {
		in   string
		want answer
	}{
		{"", answer{}},
		{".\r\n", answer{3, true, api.OK}},
		{"\r\n.\r\n", answer{5, true, api.ErrLong}},
		{"\n\r\n.\r\n", answer{6, true, api.ErrBare}},
		{"a", answer{1, false, api.OK}},
	} {
		var r Reader
		if got := put(&r, c.in); got != c.want || len(r.Text()) != 0 {
			t.Errorf("Put(%q) of a reader that no call made: %v, the text %q", c.in, got, r.Text())
		}
	}
}

// slowRead is what a reader says of s, whose lines are short, and its text.
func slowRead(s string, most int) (answer, string) {
	over := false
	if at := strings.Index("\r\n"+s, "\r\n.\r\n"); at >= 0 {
		over, s = true, s[:at+3]
	}
	got := answer{n: len(s), over: over}
	rows := strings.Split(s, "\r\n")
	last := rows[len(rows)-1]
	rows = rows[:len(rows)-1]
	if over {
		rows = rows[:len(rows)-1]
	}
	text := ""
	for _, row := range rows {
		text += strings.TrimPrefix(row, ".") + "\r\n"
	}
	e := api.OK
	if strings.ContainsAny(strings.Join(rows, "")+strings.TrimSuffix(last, "\r"), "\r\n") {
		e = api.ErrBare
	} else if len(text) > most {
		e = api.ErrLong
	}
	if e != api.OK {
		text = ""
	}
	if over {
		got.e = e
	}
	return got, text
}

// told is what r says of s in pieces, which are as long as cuts tells, and its text.
func told(t *testing.T, r *Reader, s string, cut func() int) (answer, string) {
	all := answer{}
	for left := s; left != "" && !all.over; {
		n := min(cut(), len(left))
		got := put(r, left[:n])
		if !got.over && (got.n != n || got.e != api.OK) {
			t.Fatalf("%q: %v within the frame", s, got)
		}
		all = answer{all.n + got.n, got.over, got.e}
		left = left[n:]
	}
	return all, string(r.Text())
}

func TestPutAllShortFrames(t *testing.T) { // P5.2, P5.5
	for _, most := range []int{3, 100} {
		allTexts(signs, 7, func(s string) {
			want, text := slowRead(s, most)
			for cut := 1; cut <= max(len(s), 1); cut++ {
				got, read := told(t, New(most), s, func() int { return cut })
				if got != want || read != text {
					t.Fatalf("%q, %d at a time: %v %q, not %v %q", s, cut, got, read, want, text)
				}
			}
		})
	}
}

func TestTextBehindEachByte(t *testing.T) { // P5.2, P5.5
	allTexts([]string{"a", ".", "\r\n", "\r", "\n"}, 5, func(s string) {
		r := New(4)
		for at := range s {
			_, text := slowRead(s[:at], 4)
			if got := r.Text(); string(got) != text {
				t.Fatalf("%q: the text %q, not %q", s[:at], got, text)
			}
			put(r, s[at:at+1])
		}
	})
}

func TestFramesThereAndBack(t *testing.T) { // P5.3, P5.4, P5.5
	rnd := rand.New(rand.NewSource(5))
	from := []string{"a", ".", "..", "\r\n", "\r\n.", "\r\n.\r\n", "\x00", "\xff", some(300)}
	for n := range 2000 {
		text := someText(rnd, from, n%40) + "\r\n"
		frame, e := Stuff([]byte(text))
		if Right([]byte(text)).Code != api.OK {
			continue
		}
		if e != api.OK || strings.Index("\r\n"+string(frame), "\r\n.\r\n")+3 != len(frame) {
			t.Fatalf("Stuff(%q): %q %v", text, frame, e)
		}
		r := New(len(text))
		got, read := told(t, r, string(frame)+text, func() int { return 1 + rnd.Intn(9) })
		if got != (answer{len(frame), true, api.OK}) || read != text {
			t.Fatalf("%q: %v %q", text, got, read)
		}
	}
}

func TestCutsOfFaultyFrames(t *testing.T) { // P5.5
	rnd := rand.New(rand.NewSource(6))
	from := []string{"a", ".", "\r\n", "\r\n.", "\r", "\n", some(499), some(998), some(999)}
	for n := range 3000 {
		s := someText(rnd, from, n%12) + "\r\n.\r\nx"
		whole := New(2000)
		want := put(whole, s)
		got, read := told(t, New(2000), s, func() int { return 1 + rnd.Intn(600) })
		one, single := told(t, New(2000), s, func() int { return 1 })
		if !want.over || got != want || one != want || read != string(whole.Text()) || single != read {
			t.Fatalf("%q: %v %v %v", s, want, got, one)
		}
	}
}

func TestNothingIsChangedOrShared(t *testing.T) { // rules 4, 5
	b := []byte(".a\r\n.\r\nbehind")[:4]
	out, _ := Stuff(b)
	Right(b)
	out[0] = 'x'
	if string(b[:13]) != ".a\r\n.\r\nbehind" {
		t.Errorf("Stuff changed %q", b[:13])
	}
	in := []byte("abc\r\nd.\r\n")
	r := New(100)
	r.Put(in[:6])
	first := r.Text()
	for at := range in {
		in[at] = 'z'
	}
	if string(r.Text()) != "abc\r\n" {
		t.Errorf("the reader keeps what was handed in: %q", r.Text())
	}
	first[0] = 'y'
	_ = append(first, "behind"...)
	r.Put([]byte("\r\n"))
	if string(r.Text()) != "abc\r\nd\r\n" {
		t.Errorf("the reader hands out what it keeps: %q", r.Text())
	}
	if string(in) != strings.Repeat("z", len(in)) {
		t.Errorf("Put changed %q", in)
	}
}

func TestReadersAreApart(t *testing.T) { // rule 7
	a, b := New(10), New(10)
	put(a, "x\r\n")
	put(b, "y\r\n.")
	put(a, "\n")
	if got := put(b, "\r\n"); got != (answer{2, true, api.OK}) || string(b.Text()) != "y\r\n" || len(a.Text()) != 0 {
		t.Errorf("%v %q %q", got, b.Text(), a.Text())
	}
}

// TestLongFramesEnd would take far too long, if each byte had all that came looked at anew.
func TestLongFramesEnd(t *testing.T) { // P1
	text := strings.Repeat(".\r\n", 1<<20)
	frame, e := Stuff([]byte(text))
	if e != api.OK || len(frame) != 4<<20+3 {
		t.Fatalf("Stuff: %d bytes, %v", len(frame), e)
	}
	for _, most := range []int{len(text), 100} {
		r := New(most)
		got, _ := told(t, r, string(frame), func() int { return 1 << 12 })
		if !got.over || got.n != len(frame) || (got.e == api.OK) != (most == len(text)) {
			t.Errorf("of %s: %v", strconv.Itoa(most), got)
		}
	}
}
