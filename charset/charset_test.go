package charset

import (
	"bytes"
	"math/rand"
	"slices"
	"strings"
	"testing"
	"unicode/utf16"
	"unicode/utf8"

	"posthorn/api"
	"posthorn/utf"
)

// names are the sets' names, without the other ones of the same sets.
var names = []string{"us-ascii", "utf-8", "iso-8859-1", "iso-8859-15", "windows-1252", "utf-16", "utf-16be", "utf-16le"}

// single are the sets of one byte.
var single = []string{"us-ascii", "iso-8859-1", "iso-8859-15", "windows-1252"}

// decodes asks what bytes say.
func decodes(t testing.TB, set, b, want string) {
	t.Helper()
	if got, f := Decode(set, []byte(b)); string(got) != want || f != (api.Fault{}) {
		t.Errorf("Decode(%s, %.100q): %.100q %v, not %.100q", set, b, got, f, want)
	}
}

// encodes asks how a text is written.
func encodes(t testing.TB, set, text, want string) {
	t.Helper()
	if got, f := Encode(set, []byte(text)); string(got) != want || f != (api.Fault{}) {
		t.Errorf("Encode(%s, %.100q): %.100q %v, not %.100q", set, text, got, f, want)
	}
}

// noDecode asks why bytes can't be read.
func noDecode(t testing.TB, set, b string, at int, code api.Errno) {
	t.Helper()
	if got, f := Decode(set, []byte(b)); len(got) != 0 || f != (api.Fault{At: at, Code: code}) {
		t.Errorf("Decode(%s, %.100q): %.100q %v, not %v at %d", set, b, got, f, code, at)
	}
}

// noEncode asks why a text can't be written.
func noEncode(t testing.TB, set, text string, at int, code api.Errno) {
	t.Helper()
	if got, f := Encode(set, []byte(text)); len(got) != 0 || f != (api.Fault{At: at, Code: code}) {
		t.Errorf("Encode(%s, %.100q): %.100q %v, not %v at %d", set, text, got, f, code, at)
	}
}

func TestExamples(t *testing.T) { // P18.1, P18.2
	decodes(t, "windows-1252", "\x80", "\xe2\x82\xac")
	encodes(t, "iso-8859-15", "\xe2\x82\xac", "\xa4")
	noEncode(t, "iso-8859-1", "\xe2\x82\xac", 0, api.ErrByte)
}

func TestKnown(t *testing.T) { // P18.1
	for _, name := range append(slices.Clone(names), "latin1", "ascii", "LATIN1", "Latin1", "ASCII", "uS-aScIi") {
		for _, n := range []string{name, strings.ToUpper(name), strings.ToUpper(name[:1]) + name[1:]} {
			if !Known(n) {
				t.Errorf("Known(%q): false", n)
			}
			decodes(t, n, "", "")
		}
	}
	for _, n := range []string{"", " ", "utf8", "utf-7", "utf-32", "utf-16 ", " utf-16", "utf_16", "utf-16bee", "utf-1", "iso-8859-2", "iso-8859-", "iso-8859-11", "iso-8859-151", "iso8859-1", "latin-1", "latin2", "latin9", "windows-1250", "windows1252", "cp1252", "us-asci", "us-ascii\x00", "ansi_x3.4-1968", "\"utf-8\"", "unknown", "utf-8\r\n", "u\xc5\xbf-ascii", "us-asc\xc4\xb0i", "iso-8859-1\xef\xbc\x95", "utf-8\xff", strings.Repeat("a", 1<<20)} {
		if Known(n) {
			t.Errorf("Known(%.50q): true", n)
		}
		// The set is asked ahead of all else.
		for _, b := range []string{"", "a", "\xff", strings.Repeat("a", api.MaxText+1)} {
			noDecode(t, n, b, 0, api.ErrUnknown)
			noEncode(t, n, b, 0, api.ErrUnknown)
		}
	}
}

func TestOtherNames(t *testing.T) { // P18.1
	decodes(t, "latin1", "\xa4", "\xc2\xa4")
	decodes(t, "Latin1", "\x80", "\xc2\x80")
	encodes(t, "LATIN1", "\xc3\xbf", "\xff")
	decodes(t, "ascii", "\x7f", "\x7f")
	noDecode(t, "Ascii", "a\x80", 1, api.ErrUtf)
	noEncode(t, "ASCII", "a\xc2\x80", 1, api.ErrByte)
}

// pointsOf is the point of each byte, as the document says it; -1, if there is none.
func pointsOf(set string) [256]int32 {
	var out [256]int32
	for i := range out {
		out[i] = int32(i)
	}
	switch set {
	case "us-ascii":
		for i := 128; i < 256; i++ {
			out[i] = -1
		}
	case "iso-8859-15":
		out[164], out[166], out[168], out[180], out[184], out[188], out[189], out[190] = 8364, 352, 353, 381, 382, 338, 339, 376
	case "windows-1252":
		// What the set's own document says, by its signs.
		for i, r := range []rune("€-‚ƒ„…†‡ˆ‰Š‹Œ-Ž--‘’“”•–—˜™š›œ-žŸ") {
			out[128+i] = r
		}
		for _, i := range []int{129, 141, 143, 144, 157} {
			if out[i] != '-' {
				panic("the table of the test")
			}
			out[i] = -1
		}
	}
	return out
}

func TestEveryByte(t *testing.T) { // P18.1, P18.2, P18.4, P18.5
	for _, set := range single {
		for i, p := range pointsOf(set) {
			for _, ahead := range []string{"", "a", "ab\x00"} {
				b := ahead + string([]byte{byte(i)}) + "z"
				if p < 0 {
					noDecode(t, set, b, len(ahead), api.ErrUtf)
					continue
				}
				text := ahead + string(p) + "z"
				decodes(t, set, b, text)
				encodes(t, set, text, b)
			}
			if i < 128 && p != int32(i) {
				t.Errorf("%s: %d is %d", set, i, p)
			}
		}
	}
}

func TestEveryPoint(t *testing.T) { // P18.2
	for _, set := range single {
		bytesOf := map[int32]byte{}
		for i, p := range pointsOf(set) {
			if p >= 0 {
				bytesOf[p] = byte(i)
			}
		}
		for p := range int32(utf8.MaxRune) + 1 {
			if p > 70000 && p%97 != 0 || p >= 0xd800 && p <= 0xdfff {
				continue
			}
			text := "é" + string(p)
			if c, there := bytesOf[p]; there {
				encodes(t, set, string(p), string([]byte{c}))
				continue
			}
			noEncode(t, set, string(p), 0, api.ErrByte)
			if set != "us-ascii" {
				noEncode(t, set, text, 2, api.ErrByte)
			}
		}
	}
}

func TestBytesBelow128(t *testing.T) { // P18.5
	all := ""
	for i := range 128 {
		all += string(rune(i))
	}
	for _, set := range names {
		if strings.HasPrefix(set, "utf-16") {
			continue
		}
		decodes(t, set, all, all)
		encodes(t, set, all, all)
	}
}

func TestUtf8(t *testing.T) { // P18.1, P18.2
	for _, s := range []string{"", "a", "é€😀", "\xef\xbb\xbfa", "\xef\xbf\xbe", "\xf4\x8f\xbf\xbf", "\xed\x9f\xbf\xee\x80\x80"} {
		decodes(t, "utf-8", s, s)
		encodes(t, "UTF-8", s, s)
	}
	for _, c := range []struct {
		s  string
		at int
	}{{"\x80", 0}, {"a\xff", 1}, {"é\xc3", 2}, {"\xc0\x80", 0}, {"ab\xed\xa0\x80", 2}, {"\xf4\x90\x80\x80", 0}, {"€\xe2\x82", 3}, {"\xe2\x82a", 0}} {
		noDecode(t, "utf-8", c.s, c.at, api.ErrUtf)
		for _, set := range names {
			noEncode(t, set, c.s, c.at, api.ErrUtf)
		}
	}
}

func TestNoTextIsToldFirst(t *testing.T) { // P18.2
	noEncode(t, "iso-8859-1", "€a\xff", 4, api.ErrUtf)
	noEncode(t, "us-ascii", "aé\xc3", 3, api.ErrUtf)
	noEncode(t, "windows-1252", "\u0081\u0081\xe2\x82", 4, api.ErrUtf)
	noEncode(t, "windows-1252", "€\u0081", 3, api.ErrByte)
	noEncode(t, "iso-8859-15", "€é¤¦", 5, api.ErrByte)
	noEncode(t, "iso-8859-1", "a😀€", 1, api.ErrByte)
}

func TestUnits(t *testing.T) { // P18.1, P18.2
	for _, c := range []struct{ b, want string }{
		{"", ""}, {"\x00a", "a"}, {"\x00\x00", "\x00"}, {"\x20\xac", "€"}, {"\xd7\xff\xe0\x00", "\xed\x9f\xbf\xee\x80\x80"}, {"\xff\xff", "\xef\xbf\xbf"}, {"\xd8\x00\xdc\x00", "\U00010000"}, {"\xd8\x3d\xde\x00", "😀"}, {"\xdb\xff\xdf\xff", "\U0010ffff"}, {"\xd8\x00\xdf\xff", "\U000103ff"}, {"\xdb\xff\xdc\x00", "\U0010fc00"}, {"\x00a\xd8\x00\xdc\x00\x00b", "a\U00010000b"}, {"\xd8\x01\xdc\x02\xd8\x03\xdc\x04", "\U00010402\U00010c04"},
		// Marks are points here.
		{"\xfe\xff\x00a", "\ufeffa"}, {"\xff\xfe\x00a", "\ufffea"}, {"\x00a\xfe\xff", "a\ufeff"},
	} {
		decodes(t, "utf-16be", c.b, c.want)
		encodes(t, "UTF-16be", c.want, c.b)
		decodes(t, "utf-16le", swap(c.b), c.want)
		encodes(t, "utf-16LE", c.want, swap(c.b))
		decodes(t, "utf-16", "\xfe\xff"+c.b, c.want)
		decodes(t, "utf-16", "\xff\xfe"+swap(c.b), c.want)
		encodes(t, "utf-16", c.want, "\xfe\xff"+c.b)
		if !strings.HasPrefix(c.b, "\xfe\xff") && !strings.HasPrefix(c.b, "\xff\xfe") {
			decodes(t, "Utf-16", c.b, c.want)
		}
	}
	// Just one mark goes.
	decodes(t, "utf-16", "\xfe\xff\xfe\xff", "\ufeff")
	decodes(t, "utf-16", "\xfe\xff\xff\xfe", "\ufffe")
	decodes(t, "utf-16", "\xff\xfe\xff\xfe", "\ufeff")
	decodes(t, "utf-16", "\xff\xfe\xfe\xff", "\ufffe")
	decodes(t, "utf-16", "\xfe\xff", "")
	decodes(t, "utf-16", "\xff\xfe", "")
	encodes(t, "utf-16", "", "\xfe\xff")
	encodes(t, "utf-16", "\ufeffa", "\xfe\xff\xfe\xff\x00a")
}

// swap swaps the bytes of each unit; a byte that is left stays.
func swap(b string) string {
	out := []byte(b)
	for i := 0; i+1 < len(out); i += 2 {
		out[i], out[i+1] = out[i+1], out[i]
	}
	return string(out)
}

func TestWrongUnits(t *testing.T) { // P18.1
	for _, c := range []struct {
		b  string
		at int
	}{
		{"\x00", 0}, {"\xfe", 0}, {"\xff", 0}, {"\x00a\x00", 2}, {"\x00a\x00b\xd8", 4},
		{"\xd8\x00", 0}, {"\xdb\xff", 0}, {"\xdc\x00", 0}, {"\xdf\xff", 0}, {"\xd8\x00\xdc", 0}, {"\x00a\xd8\x00\xdc", 2},
		{"\xd8\x00\x00a", 0}, {"\xd8\x00\xd8\x00\xdc\x00", 0}, {"\xd8\x00\xdb\xff", 0}, {"\xd8\x00\xe0\x00", 0}, {"\xdc\x00\xd8\x00", 0}, {"\xdc\x00\xdc\x00", 0},
		{"\x00a\xdc\x00\x00b", 2}, {"\xd8\x00\xdc\x00\xdc\x00", 4}, {"\xd8\x00\xdc\x00\xd8\x00", 4}, {"\xd8\x00\xdc\x00\x00", 4}, {"\xdf\xff\xdf\xff", 0},
	} {
		noDecode(t, "utf-16be", c.b, c.at, api.ErrUtf)
		noDecode(t, "utf-16", c.b, c.at, api.ErrUtf)
		noDecode(t, "utf-16", "\xfe\xff"+c.b, c.at+2, api.ErrUtf)
		le := swap(c.b)
		if len(c.b)%2 == 0 {
			noDecode(t, "utf-16le", le, c.at, api.ErrUtf)
			noDecode(t, "utf-16", "\xff\xfe"+le, c.at+2, api.ErrUtf)
		}
	}
	noDecode(t, "utf-16le", "a\x00b", 2, api.ErrUtf)
	noDecode(t, "utf-16le", "\x00\xd8\x00", 0, api.ErrUtf)
	noDecode(t, "utf-16", "\xff\xfea", 2, api.ErrUtf)
	noDecode(t, "utf-16", "\xff\xfea\x00b", 4, api.ErrUtf)
	// Without a mark at the front the greater byte comes first, and a mark elsewhere tells nothing.
	decodes(t, "utf-16", "a\x00", "\u6100")
	decodes(t, "utf-16", "\x00a\xff\xfeb\x00", "a\ufffe\u6200")
}

func TestEveryUnit(t *testing.T) { // P18.1
	for u := range 65536 {
		b := string([]byte{byte(u >> 8), byte(u)})
		if u >= 0xd800 && u <= 0xdfff {
			noDecode(t, "utf-16be", b, 0, api.ErrUtf)
			noDecode(t, "utf-16le", swap(b), 0, api.ErrUtf)
			continue
		}
		decodes(t, "utf-16be", b, string(rune(u)))
		decodes(t, "utf-16le", swap(b), string(rune(u)))
	}
	edges := []int{0, 97, 0xd7ff, 0xd800, 0xd801, 0xdbff, 0xdc00, 0xdc01, 0xdfff, 0xe000, 0xfeff, 0xfffe, 0xffff}
	for _, u := range edges {
		for _, v := range edges {
			b := string([]byte{byte(u >> 8), byte(u), byte(v >> 8), byte(v)})
			want := string(utf16.Decode([]uint16{uint16(u), uint16(v)}))
			isLone := func(n int) bool { return n >= 0xd800 && n <= 0xdfff }
			switch {
			case u >= 0xd800 && u < 0xdc00 && v >= 0xdc00 && v <= 0xdfff, !isLone(u) && !isLone(v):
				decodes(t, "utf-16be", b, want)
			case isLone(u):
				noDecode(t, "utf-16be", b, 0, api.ErrUtf)
			default:
				noDecode(t, "utf-16be", b, 2, api.ErrUtf)
			}
		}
	}
}

func TestAllPointsThereAndBack(t *testing.T) { // P18.4, P18.6, P2
	var text []byte
	var points []rune
	flush := func() {
		var units []byte
		for _, u := range utf16.Encode(points) {
			units = append(units, byte(u>>8), byte(u))
		}
		encodes(t, "utf-16be", string(text), string(units))
		decodes(t, "utf-16be", string(units), string(text))
		encodes(t, "utf-16le", string(text), swap(string(units)))
		decodes(t, "utf-16le", swap(string(units)), string(text))
		encodes(t, "utf-16", string(text), "\xfe\xff"+string(units))
		decodes(t, "utf-16", "\xfe\xff"+string(units), string(text))
		encodes(t, "utf-8", string(text), string(text))
		text, points = nil, nil
	}
	for p := range rune(utf8.MaxRune) + 1 {
		if p >= 0xd800 && p <= 0xdfff {
			continue
		}
		text, points = utf8.AppendRune(text, p), append(points, p)
		if len(text) > api.MaxText/2 {
			flush()
		}
	}
	flush()
}

// someBytes are bytes of few values, so that sets agree and clash often.
func someBytes(r *rand.Rand) []byte {
	b := make([]byte, r.Intn(12))
	for i := range b {
		b[i] = []byte{0, 'a', 0x80, 0x81, 0xa4, 0xac, 0xc3, 0xd8, 0xdc, 0xe2, 0x82, 0xfe, 0xff, byte(r.Intn(256))}[r.Intn(14)]
	}
	return b
}

func TestWhatIsDecodedIsEncoded(t *testing.T) { // P18.4, P18.6
	r := rand.New(rand.NewSource(18))
	read := map[string]int{}
	for range 100000 {
		b := someBytes(r)
		set := names[r.Intn(len(names))]
		text, f := Decode(set, b)
		if f.Code != api.OK {
			checkFault(t, set, b, f)
			continue
		}
		read[set]++
		if !utf.Valid(text) {
			t.Fatalf("Decode(%s, %q): %q is no text", set, b, text)
		}
		back, f := Encode(set, text)
		if f.Code != api.OK {
			t.Fatalf("Encode(%s, %q): %v", set, text, f)
		}
		if set != "utf-16" && !bytes.Equal(back, b) {
			t.Fatalf("Encode(%s, %q): %q, not %q", set, text, back, b)
		}
		if again, f := Decode(set, back); f.Code != api.OK || !bytes.Equal(again, text) {
			t.Fatalf("Decode(%s, %q): %q %v, not %q", set, back, again, f, text)
		}
		if set == "utf-16be" {
			checkLength(t, b, text)
		}
	}
	for _, set := range names {
		if read[set] < 200 {
			t.Errorf("just %d of %s", read[set], set)
		}
	}
}

// checkFault asks that what is ahead of a fault can be read, and with nothing that is at it.
func checkFault(t *testing.T, set string, b []byte, f api.Fault) {
	t.Helper()
	if f.Code != api.ErrUtf || f.At < 0 || f.At >= len(b) {
		t.Fatalf("Decode(%s, %q): %v", set, b, f)
	}
	if _, g := Decode(set, b[:f.At]); g.Code != api.OK {
		t.Fatalf("Decode(%s, %q): %v, and of its front %v", set, b, f, g)
	}
	for n := f.At + 1; n <= min(f.At+4, len(b)); n++ {
		if _, g := Decode(set, b[:n]); g != f {
			t.Fatalf("Decode(%s, %q): %v, not %v", set, b[:n], g, f)
		}
	}
}

// checkLength asks that the length is told by the points: what of a unit is below 128, 2048, or else, and of two units four bytes.
func checkLength(t *testing.T, b, text []byte) {
	t.Helper()
	n := 0
	for i := 0; i < len(b); i += 2 {
		u := int(b[i])<<8 | int(b[i+1])
		switch {
		case u < 128:
			n++
		case u < 2048, u >= 0xd800 && u <= 0xdfff:
			n += 2
		default:
			n += 3
		}
	}
	if len(text) != n {
		t.Fatalf("%q: %d bytes, not %d", b, len(text), n)
	}
}

func TestWhatIsEncodedIsDecoded(t *testing.T) { // P18.4
	r := rand.New(rand.NewSource(184))
	wrote := map[string]int{}
	for range 100000 {
		var text []byte
		for range r.Intn(6) {
			text = utf8.AppendRune(text, []rune{'a', 0, 127, 128, 164, 233, 255, 338, 8364, 0x81, 0xfeff, 0xfffe, 0xffff, 0x10000, 0x1f600}[r.Intn(15)])
		}
		set := names[r.Intn(len(names))]
		b, f := Encode(set, text)
		if f.Code == api.OK {
			wrote[set]++
			decodes(t, set, string(b), string(text))
			continue
		}
		if f.Code != api.ErrByte || !utf8.RuneStart(text[f.At]) {
			t.Fatalf("Encode(%s, %q): %v", set, text, f)
		}
		if _, g := Encode(set, text[:f.At]); g.Code != api.OK {
			t.Fatalf("Encode(%s, %q): %v", set, text[:f.At], g)
		}
		p, _ := utf8.DecodeRune(text[f.At:])
		if table := pointsOf(set); slices.Contains(table[:], p) {
			t.Fatalf("Encode(%s, %q): %v", set, text, f)
		}
	}
	for _, set := range names {
		if wrote[set] < 200 {
			t.Errorf("just %d of %s", wrote[set], set)
		}
	}
}

func TestLimits(t *testing.T) { // P18.1, P18.2
	most := strings.Repeat("a", api.MaxText)
	for _, set := range names {
		noDecode(t, set, most+"a", 0, api.ErrLong)
		noEncode(t, set, most+"a", 0, api.ErrLong)
		noDecode(t, set, strings.Repeat("\xff", api.MaxText+1), 0, api.ErrLong)
		noEncode(t, set, strings.Repeat("\xff", api.MaxText+1), 0, api.ErrLong)
		noEncode(t, set, strings.Repeat("€", api.MaxText/3+1), 0, api.ErrLong)
		if !strings.HasPrefix(set, "utf-16") {
			decodes(t, set, most, most)
			encodes(t, set, most, most)
		}
	}
	decodes(t, "windows-1252", strings.Repeat("\x80", api.MaxText), strings.Repeat("€", api.MaxText))
	decodes(t, "utf-16be", strings.Repeat("\x20\xac", api.MaxText/2), strings.Repeat("€", api.MaxText/2))
	encodes(t, "utf-16le", most, strings.Repeat("a\x00", api.MaxText))
	encodes(t, "utf-16", most, "\xfe\xff"+strings.Repeat("\x00a", api.MaxText))
	noDecode(t, "us-ascii", most[1:]+"\x80", api.MaxText-1, api.ErrUtf)
	noEncode(t, "us-ascii", most[2:]+"é", api.MaxText-2, api.ErrByte)
}

func TestLeast(t *testing.T) { // P18.3
	all := make([]byte, 128)
	for i := range all {
		all[i] = byte(i)
	}
	for _, s := range []string{"", "a", string(all), strings.Repeat("a", api.MaxText+9)} {
		if got := Least([]byte(s)); got != "us-ascii" {
			t.Errorf("Least(%.50q): %q", s, got)
		}
	}
	for i := 128; i < 256; i++ {
		for _, s := range []string{string([]byte{byte(i)}), "a" + string([]byte{byte(i)}), string([]byte{byte(i)}) + "a"} {
			if got := Least([]byte(s)); got != "utf-8" {
				t.Errorf("Least(%q): %q", s, got)
			}
		}
	}
	if got := Least(nil); got != "us-ascii" {
		t.Errorf("Least(nil): %q", got)
	}
	if got := Least([]byte(strings.Repeat("a", api.MaxText) + "é")); got != "utf-8" {
		t.Errorf("Least: %q", got)
	}
}

func TestNothingIsChangedOrKept(t *testing.T) { // Rules 4 and 5
	for _, set := range names {
		b := []byte("\x00a\x00bcd")
		got, f := Decode(set, b[:4:6])
		if string(b) != "\x00a\x00bcd" || f.Code != api.OK {
			t.Errorf("Decode(%s): %q %v", set, b, f)
		}
		want := string(got)
		clear(b)
		if string(got) != want {
			t.Errorf("Decode(%s) kept its bytes", set)
		}
		text := []byte("ab\x00dxy")
		got, f = Encode(set, text[:4:6])
		if string(text) != "ab\x00dxy" || f.Code != api.OK {
			t.Errorf("Encode(%s): %q %v", set, text, f)
		}
		want = string(got)
		clear(text)
		if string(got) != want {
			t.Errorf("Encode(%s) kept its text", set)
		}
	}
}

func TestAllEnds(t *testing.T) { // P1
	r := rand.New(rand.NewSource(1))
	for range 50000 {
		b := someBytes(r)
		set := string(someBytes(r))
		if r.Intn(2) == 0 {
			set = names[r.Intn(len(names))]
		}
		Known(set)
		Decode(set, b)
		Encode(set, b)
		Least(b)
	}
	Decode("", nil)
	Encode("", nil)
}
