package quoted

import (
	"bytes"
	"fmt"
	"io"
	"math/rand"
	"mime/quotedprintable"
	"regexp"
	"slices"
	"strconv"
	"strings"
	"testing"

	"posthorn/api"
)

func fault(at int, e api.Errno) api.Fault { return api.Fault{At: at, Code: e} }

// ways are the two in which bytes are written.
func ways() []bool { return []bool{false, true} }

// someOf is n bytes of those given.
func someOf(r *rand.Rand, from string, n int) []byte {
	b := make([]byte, n)
	for i := range b {
		b[i] = from[r.Intn(len(from))]
	}
	return b
}

// everyByte is all bytes, from 0 to 255.
func everyByte() string {
	var b []byte
	for c := range 256 {
		b = append(b, byte(c))
	}
	return string(b)
}

// allTexts calls see with each text of at most n bytes of those given.
func allTexts(from string, n int, see func(s string)) {
	var grow func(s string)
	grow = func(s string) {
		see(s)
		for i := 0; i < len(from) && len(s) < n; i++ {
			grow(s + from[i:i+1])
		}
	}
	grow("")
}

func TestDigits(t *testing.T) { // P3.1
	for c := range 256 {
		if s := Digits(byte(c)); s != fmt.Sprintf("%02X", c) {
			t.Errorf("Digits(%d): %q", c, s)
		}
	}
}

func TestEncodeExamples(t *testing.T) { // P3.1
	for _, c := range []struct {
		in, text, bytes string
	}{
		{"", "", ""},
		{" ", "=20", "=20"},
		{"\t", "=09", "=09"},
		{"  ", " =20", " =20"},
		{" \t", " =09", " =09"},
		{"a b", "a b", "a b"},
		{"a\tb", "a\tb", "a\tb"},
		{" a", " a", " a"},
		{"=", "=3D", "=3D"},
		{"a=b", "a=3Db", "a=3Db"},
		{"!<>~", "!<>~", "!<>~"},
		{"\x1f\x7f\x80\xff", "=1F=7F=80=FF", "=1F=7F=80=FF"},
		{"é", "=C3=A9", "=C3=A9"},
		{"\r\n", "\r\n", "=0D=0A"},
		{"a\r\nb", "a\r\nb", "a=0D=0Ab"},
		{"a \r\n b", "a=20\r\n b", "a=20=0D=0A b"},
		{"a\t\r\n", "a=09\r\n", "a=09=0D=0A"},
		{"a  \r\n", "a =20\r\n", "a =20=0D=0A"},
		{"\r\n\r\n", "\r\n\r\n", "=0D=0A=0D=0A"},
		{"\r", "=0D", "=0D"},
		{"\n", "=0A", "=0A"},
		{"\n\r", "=0A=0D", "=0A=0D"},
		{"a\nb", "a=0Ab", "a=0Ab"},
		{"\r\r\n\n", "=0D\r\n=0A", "=0D=0D=0A=0A"},
		{"a \r", "a =0D", "a =0D"},
		{"a \n", "a =0A", "a =0A"},
		{" \r\r\n", " =0D\r\n", " =0D=0D=0A"},
	} {
		for _, text := range ways() {
			want := c.bytes
			if text {
				want = c.text
			}
			if s, e := Encode([]byte(c.in), text); s != want || e != api.OK {
				t.Errorf("Encode(%q, %v): %q %v, not %q", c.in, text, s, e, want)
			}
		}
	}
}

func TestEncodeEveryByte(t *testing.T) { // P3.1
	for c := range 256 {
		shown := c > 32 && c <= 126 && c != '='
		want := "=" + fmt.Sprintf("%02X", c)
		if shown {
			want = string([]byte{byte(c)})
		}
		inner := want
		if c == 32 || c == 9 {
			inner = string([]byte{byte(c)})
		}
		for _, text := range ways() {
			if s, e := Encode([]byte{byte(c)}, text); s != want || e != api.OK {
				t.Errorf("Encode(%d): %q %v", c, s, e)
			}
			if s, e := Encode([]byte{byte(c), 'z'}, text); s != inner+"z" || e != api.OK {
				t.Errorf("Encode(%d, z): %q %v", c, s, e)
			}
		}
	}
}

func TestEncodeFullLines(t *testing.T) { // P3.1, P3.4
	a := strings.Repeat("a", 200)
	for _, c := range []struct{ in, text, bytes string }{
		{a[:75], a[:75], a[:75]},
		{a[:76], a[:75] + "=\r\na", a[:75] + "=\r\na"},
		{a[:150], a[:75] + "=\r\n" + a[:75], a[:75] + "=\r\n" + a[:75]},
		{a[:151], a[:75] + "=\r\n" + a[:75] + "=\r\na", a[:75] + "=\r\n" + a[:75] + "=\r\na"},
		{a[:72] + "=", a[:72] + "=3D", a[:72] + "=3D"},
		{a[:73] + "=", a[:73] + "=\r\n=3D", a[:73] + "=\r\n=3D"},
		{a[:74] + "=", a[:74] + "=\r\n=3D", a[:74] + "=\r\n=3D"},
		{a[:75] + "=", a[:75] + "=\r\n=3D", a[:75] + "=\r\n=3D"},
		{a[:74] + " a", a[:74] + " =\r\na", a[:74] + " =\r\na"},
		{a[:75] + " a", a[:75] + "=\r\n a", a[:75] + "=\r\n a"},
		{a[:74] + " ", a[:74] + "=\r\n=20", a[:74] + "=\r\n=20"},
		{a[:72] + " ", a[:72] + "=20", a[:72] + "=20"},
		{a[:75] + "\r\na", a[:75] + "\r\na", a[:75] + "=\r\n=0D=0Aa"},
		{a[:76] + "\r\n" + a[:76], a[:75] + "=\r\na\r\n" + a[:75] + "=\r\na", a[:75] + "=\r\na=0D=0A" + a[:68] + "=\r\n" + a[:8]},
		{a[:74] + "\t\r\n", a[:74] + "=\r\n=09\r\n", a[:74] + "=\r\n=09=0D=0A"},
		{strings.Repeat("\x00", 25), strings.Repeat("=00", 25), strings.Repeat("=00", 25)},
		{strings.Repeat("\x00", 26), strings.Repeat("=00", 25) + "=\r\n=00", strings.Repeat("=00", 25) + "=\r\n=00"},
		{"a" + strings.Repeat("\x00", 25), "a" + strings.Repeat("=00", 24) + "=\r\n=00", "a" + strings.Repeat("=00", 24) + "=\r\n=00"},
	} {
		for _, text := range ways() {
			want := c.bytes
			if text {
				want = c.text
			}
			if s, e := Encode([]byte(c.in), text); s != want || e != api.OK {
				t.Errorf("Encode(%q, %v): %q %v, not %q", c.in, text, s, e, want)
			}
		}
	}
}

// blankEnd is blanks and tabs that are written by digits: the last one ahead of a pair, or of the end.
var blankEnd = regexp.MustCompile(`[ \t](\r\n|\z)`)

// slowEncode writes bytes in another way than Encode does: it lists all signs first, and lays them in lines then.
func slowEncode(b []byte, text bool) string {
	last := make([]int, len(b)+1)
	for _, m := range blankEnd.FindAllIndex(b, -1) {
		last[m[0]] = 1
	}
	var signs []string
	for i := 0; i < len(b); i++ {
		c := b[i]
		switch {
		case text && c == 13 && i+1 < len(b) && b[i+1] == 10:
			signs = append(signs, "\r\n")
			i++
		case (c == 32 || c == 9) && last[i] == 0, c >= 33 && c <= 60, c >= 62 && c <= 126:
			signs = append(signs, string(rune(c)))
		default:
			signs = append(signs, fmt.Sprintf("=%02X", c))
		}
	}
	lines := []string{""}
	for _, s := range signs {
		end := len(lines) - 1
		switch {
		case s == "\r\n":
			lines = append(lines, "")
		case len(lines[end])+len(s) <= 75:
			lines[end] += s
		default:
			lines[end] += "="
			lines = append(lines, s)
		}
	}
	return strings.Join(lines, "\r\n")
}

// writtenAsTold holds Encode of b against the slow way, and against all that follows.
func writtenAsTold(t *testing.T, b []byte, text bool) {
	t.Helper()
	kept := bytes.Clone(b)
	s, e := Encode(b, text)
	if e != api.OK || s != slowEncode(b, text) {
		t.Fatalf("Encode(%q, %v): %q %v, not %q", b, text, s, e, slowEncode(b, text))
	}
	if !bytes.Equal(b, kept) {
		t.Fatalf("Encode(%q) made it %q", kept, b)
	}
	linesAsTold(t, s)
	if back, f := Decode(s); !bytes.Equal(back, b) || f != (api.Fault{}) {
		t.Fatalf("Decode(%q): %q %v, not %q", s, back, f, b)
	}
}

// linesAsTold holds what is written against P3.4.
func linesAsTold(t *testing.T, s string) {
	t.Helper()
	for _, line := range strings.Split(s, "\r\n") {
		if len(line) > 76 {
			t.Fatalf("%d bytes in the line %q", len(line), line)
		}
		if strings.HasSuffix(line, " ") || strings.HasSuffix(line, "\t") {
			t.Fatalf("a blank at the end of %q", line)
		}
		for i := range len(line) {
			if c := line[i]; c > 126 || c < 32 && c != 9 {
				t.Fatalf("the byte %d in %q", c, line)
			}
		}
	}
}

func TestEncodeAllShortTexts(t *testing.T) { // P3.1, P3.3, P3.4
	allTexts("a= \t\r\n\xff", 6, func(s string) {
		for _, text := range ways() {
			writtenAsTold(t, []byte(s), text)
		}
	})
}

func TestEncodeManyTexts(t *testing.T) { // P3.1, P3.3, P3.4
	r := rand.New(rand.NewSource(3))
	for _, from := range []string{everyByte(), "ab \t\r\n", "aaaaaaaaaaaaaaaaaaaaaaaaaaaaaaaaaaaa \r\n", "aaaaaaaaaaa\x01 \t", " ", "\t ", "=a"} {
		for n := range 400 {
			for _, text := range ways() {
				writtenAsTold(t, someOf(r, from, n), text)
			}
		}
	}
}

func TestEncodeIsReadByOthers(t *testing.T) { // P3.1
	r := rand.New(rand.NewSource(4))
	for n := range 500 {
		b := someOf(r, everyByte(), n)
		s, _ := Encode(b, false)
		got, err := io.ReadAll(quotedprintable.NewReader(strings.NewReader(s)))
		if err != nil || !bytes.Equal(got, b) {
			t.Fatalf("%q is read as %q, %v, not as %q", s, got, err, b)
		}
	}
}

func TestEncodeAtTheLimit(t *testing.T) { // P3.1, P3.3, P3.4
	for _, fill := range []string{"\x00", "a", " ", "\r\n", "a \r\n\t"} {
		b := []byte(strings.Repeat(fill, api.MaxText))[:api.MaxText]
		for _, text := range ways() {
			s, e := Encode(b, text)
			if e != api.OK || s == "" {
				t.Fatalf("Encode of MaxText %q: %v", fill, e)
			}
			linesAsTold(t, s)
			if back, f := Decode(s); !bytes.Equal(back, b) || f != (api.Fault{}) {
				t.Errorf("MaxText of %q do not come back: %v", fill, f)
			}
			if s, e := Encode(append(bytes.Clone(b), 'a'), text); s != "" || e != api.ErrLong {
				t.Errorf("Encode of MaxText + 1: %d bytes, %v", len(s), e)
			}
		}
	}
}

func TestDecodeRight(t *testing.T) { // P3.2
	for _, c := range []struct{ in, out string }{
		{"", ""},
		{"a", "a"},
		{"=3D", "="},
		{"=3d", "="},
		{"=aF=Fa", "\xaf\xfa"},
		{"=00=7F=ff", "\x00\x7f\xff"},
		{"=3D3D", "=3D"},
		{"a=3Db=\r\nc \r\n", "a=bc\r\n"},
		{"=\r\n", ""},
		{"=\r\n=\r\n", ""},
		{"a=\r\nb", "ab"},
		{"a =\r\n b", "a  b"},
		{"a \t=\r\n", "a \t"},
		{"=\r\n \t", ""},
		{"=\r\n \r\n", "\r\n"},
		{"\r\n", "\r\n"},
		{"\r\n\r\n", "\r\n\r\n"},
		{"a\r\nb", "a\r\nb"},
		{" ", ""},
		{"\t", ""},
		{" \t \t", ""},
		{"a \t ", "a"},
		{"a \t \r\nb\t\t\r\n ", "a\r\nb\r\n"},
		{"a b\tc", "a b\tc"},
		{"  a", "  a"},
		{" \r\n \r\n", "\r\n\r\n"},
		{"=20", " "},
		{"=20 ", " "},
		{" =20", "  "},
		{"=09\r\n", "\t\r\n"},
		{"=0D=0A", "\r\n"},
		{"=0D\r\n", "\r\r\n"},
		{" =0D=0A", " \r\n"},
		{"!~", "!~"},
		{strings.Repeat("a", 2000), strings.Repeat("a", 2000)},
	} {
		if b, f := Decode(c.in); string(b) != c.out || f != (api.Fault{}) {
			t.Errorf("Decode(%q): %q %v, not %q", c.in, b, f, c.out)
		}
	}
}

func TestDecodeFaults(t *testing.T) { // P3.2
	for _, c := range []struct {
		in   string
		want api.Fault
	}{
		{"a=", fault(1, api.ErrForm)},
		{"=", fault(0, api.ErrForm)},
		{"=4", fault(0, api.ErrForm)},
		{"ab=4", fault(2, api.ErrForm)},
		{"=4G", fault(0, api.ErrForm)},
		{"=G4", fault(0, api.ErrForm)},
		{"=4g", fault(0, api.ErrForm)},
		{"=/0", fault(0, api.ErrForm)},
		{"=:0", fault(0, api.ErrForm)},
		{"=0@", fault(0, api.ErrForm)},
		{"=0`", fault(0, api.ErrForm)},
		{"==", fault(0, api.ErrForm)},
		{"==41", fault(0, api.ErrForm)},
		{"=4=41", fault(0, api.ErrForm)},
		{"= \r\n", fault(0, api.ErrForm)},
		{"=\r", fault(0, api.ErrForm)},
		{"=\n", fault(0, api.ErrForm)},
		{"=\n\r", fault(0, api.ErrForm)},
		{"=4\r\n", fault(0, api.ErrForm)},
		{"=\r4", fault(0, api.ErrForm)},
		{"a\r\n=\xff", fault(3, api.ErrForm)},
		{"=41=4", fault(3, api.ErrForm)},
		{"=\r\n=4", fault(3, api.ErrForm)},
		{"\r", fault(0, api.ErrByte)},
		{"\n", fault(0, api.ErrByte)},
		{"\n\r\n", fault(0, api.ErrByte)},
		{"\r\r\n", fault(0, api.ErrByte)},
		{"\r\n\n", fault(2, api.ErrByte)},
		{"\r\n\r", fault(2, api.ErrByte)},
		{"a\nb", fault(1, api.ErrByte)},
		{" \r", fault(1, api.ErrByte)},
		{" \n", fault(1, api.ErrByte)},
		{" \t\x00", fault(2, api.ErrByte)},
		{"a \r\n\x7f", fault(4, api.ErrByte)},
		{"\x80", fault(0, api.ErrByte)},
		{"é", fault(0, api.ErrByte)},
		{"a\xff=", fault(1, api.ErrByte)},
		{"a=\xff", fault(1, api.ErrForm)},
		{"=41\x00", fault(3, api.ErrByte)},
		{"=\x00", fault(0, api.ErrForm)},
	} {
		if b, f := Decode(c.in); len(b) != 0 || f != c.want {
			t.Errorf("Decode(%q): %q %v, not %v", c.in, b, f, c.want)
		}
	}
}

func TestDecodeEveryByte(t *testing.T) { // P3.2
	for c := range 256 {
		s := "x" + string([]byte{byte(c)}) + "y"
		b, f := Decode(s)
		switch {
		case c == '=':
			if len(b) != 0 || f != fault(1, api.ErrForm) {
				t.Errorf("Decode(%q): %q %v", s, b, f)
			}
		case c >= 32 && c <= 126 || c == 9:
			if string(b) != s || f != (api.Fault{}) {
				t.Errorf("Decode(%q): %q %v", s, b, f)
			}
		default:
			if len(b) != 0 || f != fault(1, api.ErrByte) {
				t.Errorf("Decode(%q): %q %v", s, b, f)
			}
		}
	}
}

func TestDecodeEveryTwo(t *testing.T) { // P3.2
	for c := range 256 {
		for d := range 256 {
			two := string([]byte{byte(c), byte(d)})
			v, err := strconv.ParseUint(two, 16, 8)
			// ParseUint takes digits alone where two bytes are to be two of them.
			ok := err == nil || two == "\r\n"
			b, f := Decode("a=" + two)
			if ok != (f == api.Fault{}) || !ok && (f != fault(1, api.ErrForm) || len(b) != 0) {
				t.Fatalf("Decode(a=%q): %q %v", two, b, f)
			}
			if err == nil && string(b) != string([]byte{'a', byte(v)}) {
				t.Fatalf("Decode(a=%q): %q", two, b)
			}
		}
	}
}

// front is what may stand at a text's front, in the order in which the document asks.
var front = []*regexp.Regexp{
	regexp.MustCompile(`^=\r\n`),
	regexp.MustCompile(`^=[0-9A-Fa-f][0-9A-Fa-f]`),
	regexp.MustCompile(`^=`),
	regexp.MustCompile(`^\r\n`),
	regexp.MustCompile(`^[ \t]+(\r\n|\z)`),
	regexp.MustCompile(`^[ -~\t]`),
}

// slowDecode reads in another way than Decode does: by patterns, one behind the other.
func slowDecode(s string) ([]byte, api.Fault) {
	var out []byte
	at := 0
	for at < len(s) {
		i := slices.IndexFunc(front, func(p *regexp.Regexp) bool { return p.MatchString(s[at:]) })
		if i < 0 {
			return nil, fault(at, api.ErrByte)
		}
		m := front[i].FindString(s[at:])
		switch i {
		case 1:
			v, _ := strconv.ParseUint(m[1:], 16, 8)
			out = append(out, byte(v))
		case 2:
			return nil, fault(at, api.ErrForm)
		case 3, 5:
			out = append(out, m...)
		case 4:
			m = strings.TrimSuffix(m, "\r\n")
		}
		at += len(m)
	}
	return out, api.Fault{}
}

// readAsTold holds Decode of s against the slow way, and against P3.5.
func readAsTold(t *testing.T, s string) {
	t.Helper()
	b, f := Decode(s)
	want, fw := slowDecode(s)
	if !bytes.Equal(b, want) || f != fw {
		t.Fatalf("Decode(%q): %q %v, not %q %v", s, b, f, want, fw)
	}
	if f.Code != api.OK {
		return
	}
	again, e := Encode(b, false)
	if back, f := Decode(again); e != api.OK || f != (api.Fault{}) || !bytes.Equal(back, b) {
		t.Fatalf("%q, read from %q, is written as %q %v, and read as %q %v", b, s, again, e, back, f)
	}
}

func TestDecodeAllShortTexts(t *testing.T) { // P3.2, P3.5
	allTexts("=4fg \t\r\n", 6, func(s string) { readAsTold(t, s) })
}

func TestDecodeManyTexts(t *testing.T) { // P3.2, P3.5
	r := rand.New(rand.NewSource(5))
	pieces := []string{"=\r\n", "=4F", "=a0", "\r\n", "\r\n", " ", "\t", "  ", "a", "Zz", "~", "=", "\x00", "\r", "\n", "\x7f", "é"}
	for range 60000 {
		var s string
		most := len(pieces)
		if r.Intn(3) > 0 {
			most = 11
		}
		for range r.Intn(12) {
			s += pieces[r.Intn(most)]
		}
		readAsTold(t, s)
	}
}

func TestDecodeAtTheLimit(t *testing.T) { // P3.2
	for _, c := range []struct {
		fill string
		want int
	}{{"a", 4 * api.MaxText}, {" ", 0}, {" \t", 0}, {"\r\n", 4 * api.MaxText}, {"a \r\n", 3 * api.MaxText}, {" a", 4 * api.MaxText}} {
		s := strings.Repeat(c.fill, 4*api.MaxText/len(c.fill))
		if b, f := Decode(s); len(b) != c.want || f != (api.Fault{}) {
			t.Errorf("Decode of 4 MaxText of %q: %d bytes, %v", c.fill, len(b), f)
		}
		if b, f := Decode(s + "a"); len(b) != 0 || f != fault(0, api.ErrLong) {
			t.Errorf("Decode of 4 MaxText + 1 of %q: %d bytes, %v", c.fill, len(b), f)
		}
		if b, f := Decode("=" + s); len(b) != 0 || f != fault(0, api.ErrLong) {
			t.Errorf("Decode of 4 MaxText + 1 that are at fault: %d bytes, %v", len(b), f)
		}
		if b, f := Decode(s[1:] + "\x00"); len(b) != 0 || f.Code != api.ErrByte {
			t.Errorf("Decode of 4 MaxText that are at fault: %d bytes, %v", len(b), f)
		}
	}
}

func TestNewMemory(t *testing.T) { // DOC.md, rules 4 and 5
	b := []byte("a \r\n=\xff and more behind it")
	kept := bytes.Clone(b)
	s, e := Encode(b[:2], true)
	if s != "a=20" || e != api.OK || !bytes.Equal(b, kept) {
		t.Errorf("Encode: %q %v, and %q", s, e, b)
	}
	one, _ := Decode("a b")
	two, _ := Decode("a b")
	one[0] = 'X'
	_ = append(one, "YZ"...)
	if string(two) != "a b" {
		t.Errorf("two answers share memory: %q", two)
	}
}
