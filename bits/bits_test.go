package bits

import (
	"bytes"
	"encoding/base64"
	"math"
	"math/rand"
	"slices"
	"strings"
	"testing"

	"posthorn/api"
)

// standard is the signs as the document lists them.
const standard = "ABCDEFGHIJKLMNOPQRSTUVWXYZabcdefghijklmnopqrstuvwxyz0123456789+/"

func fault(at int, e api.Errno) api.Fault { return api.Fault{At: at, Code: e} }

// widths are all that may be.
func widths() []int {
	l := []int{0}
	for w := 4; w <= api.MaxFold; w += 4 {
		l = append(l, w)
	}
	return l
}

// wrongWidths are some that may not be, those beside the limits among them.
func wrongWidths() []int {
	l := []int{-1, -4, -76, 77, 78, 79, 80, 84, 400, math.MinInt, math.MaxInt, math.MinInt + 4, math.MaxInt - 3}
	for w := 1; w < api.MaxFold; w++ {
		if w%4 != 0 {
			l = append(l, w)
		}
	}
	return l
}

// some is n bytes of all kinds.
func some(r *rand.Rand, n int) []byte {
	b := make([]byte, n)
	r.Read(b)
	return b
}

// slowLines cuts signs into lines in another way than Encode does.
func slowLines(s string, width int) string {
	if width == 0 {
		return s
	}
	var l []string
	for len(s) > width {
		l = append(l, s[:width])
		s = s[width:]
	}
	return strings.Join(append(l, s), "\r\n")
}

func TestSign(t *testing.T) { // P1.1
	for v := range 64 {
		if c, ok := Sign(v); c != standard[v] || !ok {
			t.Errorf("Sign(%d): %q %v", v, c, ok)
		}
	}
	for _, v := range []int{-1, 64, 65, 255, 256, 320, -64, math.MinInt, math.MaxInt} {
		if c, ok := Sign(v); c != 0 || ok {
			t.Errorf("Sign(%d): %q %v", v, c, ok)
		}
	}
}

func TestEncodeExamples(t *testing.T) { // P1.1
	for _, c := range []struct {
		in    string
		width int
		out   string
	}{
		{"", 0, ""},
		{"", 4, ""},
		{"", 76, ""},
		{"\xff\x00", 0, "/wA="},
		{"M", 0, "TQ=="},
		{"Ma", 0, "TWE="},
		{"Man", 0, "TWFu"},
		{"Man", 4, "TWFu"},
		{"ManM", 4, "TWFu\r\nTQ=="},
		{"ManMan", 4, "TWFu\r\nTWFu"},
		{"ManMan", 8, "TWFuTWFu"},
		{"ManManMa", 8, "TWFuTWFu\r\nTWE="},
		{"\x00\x00\x00", 0, "AAAA"},
		{"\xff\xff\xff", 0, "////"},
		{"\xfb\xef\xbe", 0, "++++"},
	} {
		if s, e := Encode([]byte(c.in), c.width); s != c.out || e != api.OK {
			t.Errorf("Encode(%q, %d): %q %v, want %q", c.in, c.width, s, e, c.out)
		}
	}
	if s, e := Encode(nil, 0); s != "" || e != api.OK {
		t.Errorf("Encode of nil: %q %v", s, e)
	}
}

func TestEncodeAllWidths(t *testing.T) { // P1.1, P1.3, P1.4, P1.5
	r := rand.New(rand.NewSource(1))
	for _, w := range widths() {
		for n := range 200 {
			b := some(r, n)
			was := bytes.Clone(b)
			want := slowLines(base64.StdEncoding.EncodeToString(b), w)
			s, e := Encode(b, w)
			if s != want || e != api.OK {
				t.Fatalf("Encode(%v, %d): %q %v, want %q", b, w, s, e, want)
			}
			if !bytes.Equal(b, was) {
				t.Fatalf("Encode changed its bytes: %v, were %v", b, was)
			}
			if l, e := Length(n, w); l != len(s) || e != api.OK {
				t.Fatalf("Length(%d, %d): %d %v, want %d", n, w, l, e, len(s))
			}
			backAndAgain(t, b, s, w)
		}
	}
}

// backAndAgain asks for what follows: the bytes come back, are written in one way, and in short lines.
func backAndAgain(t *testing.T, b []byte, s string, width int) {
	t.Helper()
	got, f := Decode(s)
	if !bytes.Equal(got, b) || f != (api.Fault{}) {
		t.Fatalf("Decode(%q): %v %v, want %v", s, got, f, b)
	}
	if again, e := Encode(got, 0); again != strings.ReplaceAll(s, "\r\n", "") || e != api.OK {
		t.Fatalf("Encode again of %q: %q %v", s, again, e)
	}
	for l := range strings.SplitSeq(s, "\r\n") {
		if width > 0 && len(l) > width {
			t.Fatalf("a line of %d signs at width %d", len(l), width)
		}
	}
}

func TestWidthsThatMayNotBe(t *testing.T) { // P1.1
	long := make([]byte, api.MaxText+1)
	for _, w := range wrongWidths() {
		for _, b := range [][]byte{nil, {1}, []byte("some more bytes"), long} {
			if s, e := Encode(b, w); s != "" || e != api.ErrArg {
				t.Errorf("Encode of %d bytes at %d: %d signs, %v", len(b), w, len(s), e)
			}
			if n, e := Length(len(b), w); n != 0 || e != api.ErrArg {
				t.Errorf("Length(%d, %d): %d %v", len(b), w, n, e)
			}
		}
	}
}

func TestLengthOfNoLength(t *testing.T) { // P1.1
	for _, w := range append(widths(), wrongWidths()...) {
		for _, n := range []int{-1, -2, -3, -api.MaxText, math.MinInt} {
			if got, e := Length(n, w); got != 0 || e != api.ErrArg {
				t.Errorf("Length(%d, %d): %d %v", n, w, got, e)
			}
		}
	}
	for _, w := range widths() {
		for _, n := range []int{api.MaxText + 1, api.MaxText + 2, math.MaxInt, math.MaxInt - 1} {
			if got, e := Length(n, w); got != 0 || e != api.ErrLong {
				t.Errorf("Length(%d, %d): %d %v", n, w, got, e)
			}
		}
	}
}

func TestEncodeAtTheLimit(t *testing.T) { // P1.1, P1.3, P1.5
	b := some(rand.New(rand.NewSource(2)), api.MaxText+1)
	for _, w := range []int{0, 4, 72, 76} {
		for _, n := range []int{api.MaxText, api.MaxText - 1, api.MaxText - 2} {
			s, e := Encode(b[:n], w)
			if want := slowLines(base64.StdEncoding.EncodeToString(b[:n]), w); s != want || e != api.OK {
				t.Fatalf("Encode of %d bytes at %d: %d signs, %v", n, w, len(s), e)
			}
			if l, e := Length(n, w); l != len(s) || e != api.OK {
				t.Errorf("Length(%d, %d): %d %v, want %d", n, w, l, e, len(s))
			}
			if w != 4 {
				backAndAgain(t, b[:n], s, w)
			}
		}
		if s, e := Encode(b, w); s != "" || e != api.ErrLong {
			t.Errorf("Encode of one byte too many at %d: %d signs, %v", w, len(s), e)
		}
	}
}

func TestDecodeAtTheLimit(t *testing.T) { // P1.2
	most := 2 * api.MaxText
	if b, f := Decode(strings.Repeat("A", most)); len(b) != most/4*3 || f != (api.Fault{}) {
		t.Errorf("Decode at the limit: %d bytes, %v", len(b), f)
	}
	if b, f := Decode(strings.Repeat("\r\n", most/2)); len(b) != 0 || f != (api.Fault{}) {
		t.Errorf("Decode of pairs at the limit: %d bytes, %v", len(b), f)
	}
	for _, s := range []string{
		strings.Repeat("A", most+1),
		strings.Repeat("A", most+4),
		strings.Repeat("*", most+1),
		strings.Repeat("=", most+1),
		strings.Repeat("\r\n", most/2+1),
	} {
		if b, f := Decode(s); len(b) != 0 || f != fault(0, api.ErrLong) {
			t.Errorf("Decode beyond the limit: %d bytes, %v", len(b), f)
		}
	}
	if b, f := Decode(strings.Repeat("A", most-1) + "*"); len(b) != 0 || f != fault(most-1, api.ErrByte) {
		t.Errorf("Decode of a last byte: %d bytes, %v", len(b), f)
	}
}

func TestDecodeRight(t *testing.T) { // P1.2
	for _, c := range []struct{ in, out string }{
		{"", ""},
		{"\r\n", ""},
		{"\r\n\r\n", ""},
		{"TWFu", "Man"},
		{"TWE=", "Ma"},
		{"TQ==", "M"},
		{"TWFuTQ==", "ManM"},
		{"\r\nTWFu\r\n", "Man"},
		{"T\r\nW\r\nF\r\nu", "Man"},
		{"TQ=\r\n=", "M"},
		{"TQ\r\n\r\n==\r\n\r\n", "M"},
		{"////", "\xff\xff\xff"},
		{"/wA=", "\xff\x00"},
		{"Zm9v\r\nYmFy", "foobar"},
	} {
		if b, f := Decode(c.in); string(b) != c.out || f != (api.Fault{}) {
			t.Errorf("Decode(%q): %q %v, want %q", c.in, b, f, c.out)
		}
	}
}

func TestDecodeFaults(t *testing.T) { // P1.2
	for _, c := range []struct {
		in   string
		want api.Fault
	}{
		{"/wB=", fault(2, api.ErrTail)},
		{"A=A=", fault(1, api.ErrPad)},
		// A byte that is no sign, wherever it stands.
		{"*", fault(0, api.ErrByte)},
		{"AAA*", fault(3, api.ErrByte)},
		{"AAAA ", fault(4, api.ErrByte)},
		{"AA=*", fault(3, api.ErrByte)},
		{"AA==*", fault(4, api.ErrByte)},
		{"AAA-", fault(3, api.ErrByte)},
		{"AAA_", fault(3, api.ErrByte)},
		{"AAA\x00", fault(3, api.ErrByte)},
		{"AAA\xff", fault(3, api.ErrByte)},
		{"AAA\u0141", fault(3, api.ErrByte)},
		// A 13 or a 10 that is in no pair.
		{"\r", fault(0, api.ErrByte)},
		{"\n", fault(0, api.ErrByte)},
		{"AAAA\r", fault(4, api.ErrByte)},
		{"AAAA\n", fault(4, api.ErrByte)},
		{"AAAA\r\r\n", fault(4, api.ErrByte)},
		{"AAAA\r\n\n", fault(6, api.ErrByte)},
		{"AAAA\n\r", fault(4, api.ErrByte)},
		{"A\rAAA", fault(1, api.ErrByte)},
		// An = that may not stand there.
		{"=", fault(0, api.ErrPad)},
		{"====", fault(0, api.ErrPad)},
		{"\r\n=", fault(2, api.ErrPad)},
		{"A===", fault(1, api.ErrPad)},
		{"A\r\n=", fault(3, api.ErrPad)},
		{"AA=A", fault(2, api.ErrPad)},
		{"AA=\r\nA", fault(2, api.ErrPad)},
		{"AA\r\n=A", fault(4, api.ErrPad)},
		{"AB=B", fault(2, api.ErrPad)},
		{"AAAA=", fault(4, api.ErrPad)},
		// Something behind the four in which one stands.
		{"AA==A", fault(4, api.ErrPad)},
		{"AA==AAAA", fault(4, api.ErrPad)},
		{"AAA=\r\nAAAA", fault(6, api.ErrPad)},
		{"AA===", fault(4, api.ErrPad)},
		{"AAA==", fault(4, api.ErrPad)},
		{"AAA=\r\n=", fault(6, api.ErrPad)},
		// No multiple of four.
		{"A", fault(1, api.ErrPad)},
		{"AA", fault(2, api.ErrPad)},
		{"AAA", fault(3, api.ErrPad)},
		{"AA=", fault(3, api.ErrPad)},
		{"AB=", fault(3, api.ErrPad)},
		{"AAAAA", fault(5, api.ErrPad)},
		{"AA\r\n", fault(4, api.ErrPad)},
		{"AA=\r\n", fault(5, api.ErrPad)},
		// Digits that are left.
		{"AB==", fault(1, api.ErrTail)},
		{"AE==", fault(1, api.ErrTail)},
		{"AI==", fault(1, api.ErrTail)},
		{"AAC=", fault(2, api.ErrTail)},
		{"AAD=", fault(2, api.ErrTail)},
		{"A\r\nB\r\n==", fault(3, api.ErrTail)},
		{"AAAAAB==", fault(5, api.ErrTail)},
		// The least place counts, whatever stands behind.
		{"AB==*", fault(1, api.ErrTail)},
		{"AB==A", fault(1, api.ErrTail)},
		{"AAB=====", fault(2, api.ErrTail)},
		{"AB=*", fault(3, api.ErrByte)},
		{"A=*", fault(1, api.ErrPad)},
		{"*=", fault(0, api.ErrByte)},
		{"AA==A*", fault(4, api.ErrPad)},
	} {
		if b, f := Decode(c.in); len(b) != 0 || f != c.want {
			t.Errorf("Decode(%q): %v %v, want %v", c.in, b, f, c.want)
		}
	}
}

func TestDecodeEveryByte(t *testing.T) { // P1.2
	for c := range 256 {
		s := string([]byte{'A', 'A', 'A', byte(c)})
		b, f := Decode(s)
		v := strings.IndexByte(standard, byte(c))
		switch {
		case v >= 0:
			if !bytes.Equal(b, []byte{0, 0, byte(v)}) || f != (api.Fault{}) {
				t.Errorf("Decode(%q): %v %v", s, b, f)
			}
		case c == '=':
			if !bytes.Equal(b, []byte{0, 0}) || f != (api.Fault{}) {
				t.Errorf("Decode(%q): %v %v", s, b, f)
			}
		case len(b) != 0 || f != fault(3, api.ErrByte):
			t.Errorf("Decode(%q): %v %v", s, b, f)
		}
	}
}

// slowFault gathers all faults, by the document's words, and takes the least.
func slowFault(s string) api.Fault {
	var l []api.Fault
	var at []int
	for i := 0; i < len(s); i++ {
		if s[i] == 13 && i+1 < len(s) && s[i+1] == 10 {
			i++
		} else if strings.IndexByte(standard+"=", s[i]) >= 0 {
			at = append(at, i)
		} else {
			l = append(l, fault(i, api.ErrByte))
			break
		}
	}
	if len(l) == 0 && len(at)%4 != 0 {
		l = append(l, fault(len(s), api.ErrPad))
	}
	seen := false // an = in a four that is over
	for len(at) > 0 {
		n := min(4, len(at))
		l = append(l, slowFour(s, at[:n], seen)...)
		for _, p := range at[:n] {
			seen = seen || s[p] == '='
		}
		at = at[n:]
	}
	if len(l) == 0 {
		return api.Fault{}
	}
	return slices.MinFunc(l, func(a, b api.Fault) int { return 1000*(a.At-b.At) + int(a.Code-b.Code) })
}

// slowFour is the faults of one four, which may have fewer than four signs at the end.
func slowFour(s string, at []int, seen bool) []api.Fault {
	var l []api.Fault
	if seen {
		l = append(l, fault(at[0], api.ErrPad))
	}
	four := ""
	for _, p := range at {
		four += s[p : p+1]
	}
	for i := range four {
		if four[i] == '=' && (i < 2 || i == 2 && len(four) == 4 && four[3] != '=') {
			l = append(l, fault(at[i], api.ErrPad))
		}
	}
	if len(four) < 4 || !strings.HasSuffix(four, "=") {
		return l
	}
	signs := strings.TrimRight(four, "=")
	if len(signs) < 2 || strings.Contains(signs, "=") {
		return l
	}
	v := strings.IndexByte(standard, signs[len(signs)-1])
	if len(signs) == 2 && v%16 != 0 || len(signs) == 3 && v%4 != 0 {
		l = append(l, fault(at[len(signs)-1], api.ErrTail))
	}
	return l
}

func decodeAsTold(t *testing.T, s string) {
	t.Helper()
	b, f := Decode(s)
	if want := slowFault(s); f != want {
		t.Fatalf("Decode(%q): %v, want %v", s, f, want)
	}
	if f.Code != api.OK {
		if len(b) != 0 {
			t.Fatalf("Decode(%q): %v beside a fault", s, b)
		}
		return
	}
	without := strings.ReplaceAll(s, "\r\n", "")
	if want, err := base64.StdEncoding.Strict().DecodeString(without); err != nil || !bytes.Equal(b, want) {
		t.Fatalf("Decode(%q): %v, want %v (%v)", s, b, want, err)
	}
	if again, e := Encode(b, 0); again != without || e != api.OK {
		t.Fatalf("Encode of Decode(%q): %q %v", s, again, e)
	}
}

func TestDecodeAllShortTexts(t *testing.T) { // P1.2, P1.4
	const letters = "AEB=*\r\n"
	b := []byte{}
	var all func(left int)
	all = func(left int) {
		decodeAsTold(t, string(b))
		if left == 0 {
			return
		}
		for i := range letters {
			b = append(b, letters[i])
			all(left - 1)
			b = b[:len(b)-1]
		}
	}
	all(6)
}

func TestDecodeManyTexts(t *testing.T) { // P1.2, P1.4
	r := rand.New(rand.NewSource(3))
	for _, letters := range []string{"AQ=", "AAAAAAAAQQQQQE=", "ABCDEFgh01+/=", "AQ=*\r\n"} {
		for range 20000 {
			var s strings.Builder
			for range r.Intn(24) {
				if r.Intn(6) == 0 {
					s.WriteString("\r\n")
				}
				s.WriteByte(letters[r.Intn(len(letters))])
			}
			decodeAsTold(t, s.String())
		}
	}
}

// TestDecodeTurned reads what was written, with one byte turned, taken away or put in.
func TestDecodeTurned(t *testing.T) { // P1.2, P1.4
	r := rand.New(rand.NewSource(4))
	for range 20000 {
		s, _ := Encode(some(r, r.Intn(12)), widths()[r.Intn(4)])
		i := r.Intn(len(s) + 1)
		c := string([]byte{"AQgz09+/=\r\n *\x00\xff"[r.Intn(15)]})
		switch rest := s[i:]; r.Intn(3) {
		case 0:
			s = s[:i] + c + rest
		case 1:
			s = s[:i] + rest[min(1, len(rest)):]
		case 2:
			s = s[:i] + c + rest[min(1, len(rest)):]
		}
		decodeAsTold(t, s)
	}
}

func TestNewMemory(t *testing.T) { // DOC.md, rule 5
	a, _ := Decode("TWFu")
	b, _ := Decode("TWFu")
	a[0] = 0
	if string(b) != "Man" {
		t.Errorf("two answers share their bytes: %q", b)
	}
	room := []byte("ManMan")
	if s, _ := Encode(room[:2], 0); s != "TWE=" || string(room) != "ManMan" {
		t.Errorf("Encode looked behind the length: %q %q", s, room)
	}
}
