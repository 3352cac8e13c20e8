package word

import (
	"encoding/base64"
	"math/rand"
	"mime"
	"regexp"
	"strconv"
	"strings"
	"testing"
	"unicode/utf8"

	"posthorn/api"
)

// allTexts calls see with each text of at most n pieces of those given.
func allTexts(from []string, n int, see func(s string)) {
	var grow func(s string, n int)
	grow = func(s string, n int) {
		see(s)
		for i := 0; i < len(from) && n > 0; i++ {
			grow(s+from[i], n-1)
		}
	}
	grow("", n)
}

// someText is a text of n pieces of those given.
func someText(r *rand.Rand, from []string, n int) string {
	var s strings.Builder
	for range n {
		s.WriteString(from[r.Intn(len(from))])
	}
	return s.String()
}

func TestPlainExamples(t *testing.T) { // P4.1
	for _, s := range []string{"", "a", "a b", "a b c", "!~", "=", "?", "?=", "a=b", "= ?", "=-?", "==", "??=",
		strings.Repeat("a ", 5000) + "a"} {
		if !Plain(s) {
			t.Errorf("Plain(%q): false", s)
		}
	}
	for _, s := range []string{" ", " a", "a ", "a  b", "a   b", "=?", "a=?b", "==?", "=?utf-8?B?w6k=?=", "\t", "a\tb", "a\r\n b", "\x1f",
		"\x7f", "a\x7f", "\x80", "é", "a\x00", "a\xff", strings.Repeat("a", 5000) + " "} {
		if Plain(s) {
			t.Errorf("Plain(%q): true", s)
		}
	}
}

func TestPlainEveryByte(t *testing.T) { // P4.1
	for c := range 256 {
		s := string([]byte{'x', byte(c), 'y'})
		if Plain(s) != (c >= 32 && c <= 126) {
			t.Errorf("Plain(%q): %v", s, Plain(s))
		}
	}
}

// printable is a plain text, but for =?.
var printable = regexp.MustCompile(`\A([!-~]+( [!-~]+)*)?\z`)

func slowPlain(s string) bool { return printable.MatchString(s) && strings.Count(s, "=?") == 0 }

func TestPlainAllShortTexts(t *testing.T) { // P4.1
	allTexts([]string{"a", " ", "=", "?", "~", "\x7f", "\x1f"}, 6, func(s string) {
		if Plain(s) != slowPlain(s) {
			t.Fatalf("Plain(%q): %v", s, Plain(s))
		}
	})
}

func TestEncodeExamples(t *testing.T) { // P4.1
	for _, c := range []struct{ in, out string }{
		{"", ""},
		{"a", "a"},
		{"a b", "a b"},
		{"a=b?c", "a=b?c"},
		{"é", "=?utf-8?B?w6k=?="},
		{" ", "=?utf-8?B?IA==?="},
		{"a ", "=?utf-8?B?YSA=?="},
		{" a", "=?utf-8?B?IGE=?="},
		{"a  b", "=?utf-8?B?YSAgYg==?="},
		{"=?", "=?utf-8?B?PT8=?="},
		{"\x00", "=?utf-8?B?AA==?="},
		{"\x7f", "=?utf-8?B?fw==?="},
		{"\r\n", "=?utf-8?B?DQo=?="},
		{strings.Repeat("a", 44) + "\t", "=?utf-8?B?" + strings.Repeat("YWFh", 14) + "YWEJ?="},
		{strings.Repeat("a", 45) + "\t", "=?utf-8?B?" + strings.Repeat("YWFh", 15) + "?= =?utf-8?B?CQ==?="},
		{strings.Repeat("a", 44) + "é", "=?utf-8?B?" + strings.Repeat("YWFh", 14) + "YWE=?= =?utf-8?B?w6k=?="},
		{strings.Repeat("a", 43) + "é", "=?utf-8?B?" + strings.Repeat("YWFh", 14) + "YcOp?="},
		{strings.Repeat("a", 42) + "€", "=?utf-8?B?" + strings.Repeat("YWFh", 14) + "4oKs?="},
		{strings.Repeat("a", 43) + "€", "=?utf-8?B?" + strings.Repeat("YWFh", 14) + "YQ==?= =?utf-8?B?4oKs?="},
		{strings.Repeat("a", 42) + "\U0001F4EF", "=?utf-8?B?" + strings.Repeat("YWFh", 14) + "?= =?utf-8?B?8J+Trw==?="},
		{strings.Repeat("a", 300), strings.Repeat("a", 300)},
	} {
		if s, e := Encode(c.in); s != c.out || e != api.OK {
			t.Errorf("Encode(%q): %q %v, not %q", c.in, s, e, c.out)
		}
	}
}

func TestEncodeFaults(t *testing.T) { // P4.1
	for _, c := range []struct {
		in   string
		want api.Errno
	}{
		{"\xff", api.ErrUtf},
		{"\x80", api.ErrUtf},
		{"a\xc3", api.ErrUtf},
		{"\xc0\x80", api.ErrUtf},
		{"\xed\xa0\x80", api.ErrUtf},
		{"\xf4\x90\x80\x80", api.ErrUtf},
		{strings.Repeat("a", 4095) + "\xff", api.ErrUtf},
		{strings.Repeat("a", 4097), api.ErrLong},
		{strings.Repeat("\xff", 4097), api.ErrLong},
		{strings.Repeat("é", 2049), api.ErrLong},
		{strings.Repeat("a", 1<<20), api.ErrLong},
	} {
		if s, e := Encode(c.in); s != "" || e != c.want {
			t.Errorf("Encode(%.20q..): %q %v, not %v", c.in, s, e, c.want)
		}
	}
}

// slowEncode writes in another way than Encode does: point by point, by the library.
func slowEncode(s string) string {
	if slowPlain(s) {
		return s
	}
	words := []string{""}
	for _, r := range s {
		if len(words[len(words)-1])+utf8.RuneLen(r) > api.MaxWord {
			words = append(words, "")
		}
		words[len(words)-1] += string(r)
	}
	for i, w := range words {
		words[i] = "=?utf-8?B?" + base64.StdEncoding.EncodeToString([]byte(w)) + "?="
	}
	return strings.Join(words, " ")
}

// writtenAsTold holds Encode of s, which is valid, against the slow way, and against all that follows.
func writtenAsTold(t *testing.T, s string) {
	t.Helper()
	out, e := Encode(s)
	if e != api.OK || out != slowEncode(s) {
		t.Fatalf("Encode(%q): %q %v, not %q", s, out, e, slowEncode(s))
	}
	if back := Decode(out); back != s {
		t.Fatalf("Decode(%q): %q, not %q", out, back, s)
	}
	if !printable.MatchString(out) {
		t.Fatalf("Encode(%q) is not printable: %q", s, out)
	}
	if out == s {
		return
	}
	for _, w := range strings.Split(out, " ") {
		if _, ok := One(w); !ok || len(w) > 75 {
			t.Fatalf("Encode(%q) has the word %q", s, w)
		}
	}
	got, err := new(mime.WordDecoder).DecodeHeader(out)
	if err != nil || got != s {
		t.Fatalf("others read %q as %q, %v", out, got, err)
	}
}

func TestEncodeAllShortTexts(t *testing.T) { // P4.1, P4.3, P4.4
	allTexts([]string{"a", " ", "=", "?", "é", "\n", "=?utf-8?Q?a?="}, 5, func(s string) { writtenAsTold(t, s) })
}

func TestEncodeManyTexts(t *testing.T) { // P4.1, P4.3, P4.4
	r := rand.New(rand.NewSource(6))
	for _, from := range [][]string{
		{"a", "é", "€", "\U0001F4EF"},
		{"\U0001F4EF"}, {"€"}, {"é"},
		{"a", "b", " "}, {"a", " ", "=", "?"},
		{"\x00", "\x7f", "~", "\U0010FFFF", "\uD7FF", "\uE000"},
	} {
		for n := range 200 {
			writtenAsTold(t, someText(r, from, n))
			writtenAsTold(t, "a"+someText(r, from, n))
		}
	}
}

func TestEncodeAtTheLimit(t *testing.T) { // P4.1, P4.3, P4.4
	for _, fill := range []string{"a", " ", "é", "\U0001F4EF", "\n"} {
		s := strings.Repeat(fill, 4096/len(fill))
		writtenAsTold(t, s)
		if out, e := Encode(s + "a"); out != "" || e != api.ErrLong {
			t.Errorf("Encode of 4097 bytes: %.20q %v", out, e)
		}
	}
}

func TestOneRight(t *testing.T) { // P4.2
	for _, c := range []struct{ in, out string }{
		{"=?utf-8?B?w6k=?=", "é"},
		{"=?UTF-8?b?w6k=?=", "é"},
		{"=?Utf-8?B??=", ""},
		{"=?utf-8?Q??=", ""},
		{"=?us-ascii?B??=", ""},
		{"=?utf-8?q?a_b?=", "a b"},
		{"=?UTF-8?Q?=C3=A9?=", "é"},
		{"=?utf-8?Q?=41=42?=", "AB"},
		{"=?utf-8?Q?=3D?=", "="},
		{"=?utf-8?Q?=3F=5F=20?=", "?_ "},
		{"=?utf-8?Q?=00=0D=0A=7F?=", "\x00\r\n\x7f"},
		{"=?utf-8?Q?!~?=", "!~"},
		{"=?utf-8?Q?_?=", " "},
		{"=?utf-8?Q?=3D41?=", "=41"},
		{"=?us-ascii?Q?a?=", "a"},
		{"=?US-ASCII?q?=7F?=", "\x7f"},
		{"=?us-ASCII?B?AA==?=", "\x00"},
		{"=?utf-8?B?YWFhYWFh?=", "aaaaaa"},
		{"=?utf-8?Q?" + strings.Repeat("a", 63) + "?=", strings.Repeat("a", 63)},
		{"=?us-ascii?Q?" + strings.Repeat("a", 60) + "?=", strings.Repeat("a", 60)},
		{"=?utf-8?B?" + strings.Repeat("YWFh", 15) + "?=", strings.Repeat("a", 45)},
	} {
		if s, ok := One(c.in); s != c.out || !ok {
			t.Errorf("One(%q): %q %v, not %q", c.in, s, ok, c.out)
		}
	}
}

func TestOneWrong(t *testing.T) { // P4.2
	for _, s := range []string{
		"", "a", " ", "=?", "?=", "=?=", "=??=", "=???=", "=????=", "=?utf-8?", "=?utf-8?=", "=?utf-8??=", "=?utf-8?B?=", "=?utf-8?Q?=",
		"=?utf-8?B?w6k=?", "=?utf-8?B?w6k==", "?utf-8?B?w6k=?=", "utf-8?B?w6k=?=", "=utf-8?B?w6k=?=",
		" =?utf-8?B?w6k=?=", "=?utf-8?B?w6k=?= ", "x=?utf-8?Q?a?=", "=?utf-8?Q?a?=x", "=?utf-8?Q?a?==?utf-8?Q?b?=",
		"=?utf-8?B?w6k=?=\r\n", "=?utf8?Q?a?=", "=?utf-7?Q?a?=", "=??Q?a?=", "=?utf-8 ?Q?a?=", "=?utf-8*en?Q?a?=", "=?iso-8859-1?Q?a?=",
		"=?us-ascii?Q?=80?=", "=?us-ascii?Q?=C3=A9?=", "=?us-ascii?B?w6k=?=", "=?u\u017f-ascii?Q?a?=", "=?u\u017f-a\u017fcii?Q?a?=", "=?us-asc\u0130i?Q?a?=", "=?ascii?Q?a?=",
		"=?utf-8?C?a?=", "=?utf-8?BB?YQ==?=", "=?utf-8?QQ?a?=", "=?utf-8? ?a?=", "=?utf-8?1?a?=",
		"=?utf-8?B?w6k?=", "=?utf-8?B?w6==?=", "=?utf-8?B?w6l=?=", "=?utf-8?B?w?=", "=?utf-8?B?=?=", "=?utf-8?B?w6k=w6k=?=", "=?utf-8?B?w6k_?=", "=?utf-8?B?w6 k?=",
		"=?utf-8?B?/////w==?=", "=?utf-8?B?wyA=?=", "=?utf-8?B?w6k=\n?=",
		"=?utf-8?Q?a b?=", "=?utf-8?Q?a\tb?=", "=?utf-8?Q?a?b?=", "=?utf-8?Q??a?=", "=?utf-8?Q?\x7f?=", "=?utf-8?Q?\x1f?=", "=?utf-8?Q?é?=", "=?utf-8?Q?\x00?=",
		"=?utf-8?Q?=?=", "=?utf-8?Q?=4?=", "=?utf-8?Q?a=?=", "=?utf-8?Q?a=4?=", "=?utf-8?Q?=4G?=", "=?utf-8?Q?=G4?=", "=?utf-8?Q?=4a?=", "=?utf-8?Q?=c3=a9?=", "=?utf-8?Q?=C3=a9?=", "=?utf-8?Q?==41?=",
		"=?utf-8?Q?=\r\n?=", "=?utf-8?Q?a=\r\nb?=", "=?utf-8?Q?=4=41?=",
		"=?utf-8?Q?=FF?=", "=?utf-8?Q?=C3?=", "=?utf-8?Q?=C0=80?=", "=?utf-8?Q?=ED=A0=80?=",
		"=?utf-8?Q?" + strings.Repeat("a", 64) + "?=", "=?us-ascii?Q?" + strings.Repeat("a", 61) + "?=", "=?utf-8?B?" + strings.Repeat("YWFh", 16) + "?=",
		"=?utf-8?Q?" + strings.Repeat("a", 1<<20) + "?=",
	} {
		if said, ok := One(s); said != "" || ok {
			t.Errorf("One(%.80q): %q %v", s, said, ok)
		}
	}
}

// shape is a readable word, as far as a pattern tells.
var shape = regexp.MustCompile(`\A=\?([Uu][Tt][Ff]-8|[Uu][Ss]-[Aa][Ss][Cc][Ii][Ii])\?(?:[Bb]\?([A-Za-z0-9+/=\r\n]*)|[Qq]\?((?:[!-<>@-~]|=[0-9A-F]{2})*))\?=\z`)

// escape is a byte's digits in the way Q.
var escape = regexp.MustCompile(`=[0-9A-F]{2}`)

// slowOne reads in another way than One does: by patterns, and by the library.
func slowOne(s string) (string, bool) {
	m := shape.FindStringSubmatchIndex(s)
	if m == nil || len(s) > 75 {
		return "", false
	}
	var said string
	if m[4] >= 0 {
		signs := strings.ReplaceAll(s[m[4]:m[5]], "\r\n", "")
		b, err := base64.StdEncoding.Strict().DecodeString(signs)
		if err != nil || strings.ContainsAny(signs, "\r\n") {
			return "", false
		}
		said = string(b)
	} else {
		said = escape.ReplaceAllStringFunc(strings.ReplaceAll(s[m[6]:m[7]], "_", " "), func(e string) string {
			v, _ := strconv.ParseUint(e[1:], 16, 8)
			return string([]byte{byte(v)})
		})
	}
	if !utf8.ValidString(said) || m[3]-m[2] == len("us-ascii") && len(said) != utf8.RuneCountInString(said) {
		return "", false
	}
	return said, true
}

// readAsTold holds One of s against the slow way.
func readAsTold(t *testing.T, s string) {
	t.Helper()
	said, ok := One(s)
	if want, okw := slowOne(s); said != want || ok != okw {
		t.Fatalf("One(%q): %q %v, not %q %v", s, said, ok, want, okw)
	}
}

func TestOneAllShortContents(t *testing.T) { // P4.2
	for _, set := range []string{"utf-8", "US-ascii", "utf-9"} {
		for _, way := range []string{"b", "B", "q", "Q", "X"} {
			pieces := []string{"A", "w", "6", "=", "_", "?", "=C3", "=A9", "=4a", " ", "\r\n", "\xff"}
			allTexts(pieces, 4, func(s string) { readAsTold(t, "=?"+set+"?"+way+"?"+s+"?=") })
		}
	}
}

func TestOneAllShortTexts(t *testing.T) { // P4.2
	pieces := []string{"=?", "?=", "?", "=", "utf-8", "Us-Ascii", "q", "B", "YQ=="}
	allTexts(pieces, 6, func(s string) { readAsTold(t, s) })
}

func TestOneEverySign(t *testing.T) { // P4.2
	for c := range 256 {
		for d := range 256 {
			two := string([]byte{byte(c), byte(d)})
			readAsTold(t, "=?utf-8?Q?"+two+"?=")
			readAsTold(t, "=?us-ascii?Q?="+two+"?=")
			readAsTold(t, "=?utf-8?q?="+two+"?=")
			readAsTold(t, "=?utf-8?B?"+two+"==?=")
		}
	}
}

func TestOneManyWords(t *testing.T) { // P4.2
	r := rand.New(rand.NewSource(7))
	for _, set := range []string{"utf-8", "US-ASCII"} {
		for n := range 90 {
			for range 20 {
				readAsTold(t, "=?"+set+"?q?"+someText(r, []string{"a", "_", "=41", "=C3=A9", "=7F", "~"}, n)+"?=")
				b := someText(r, []string{"a", "é", "€", "\x00", " "}, n)
				readAsTold(t, "=?"+set+"?B?"+base64.StdEncoding.EncodeToString([]byte(b))+"?=")
			}
		}
	}
}

func TestDecodeExamples(t *testing.T) { // P4.2
	for _, c := range []struct{ in, out string }{
		{"", ""},
		{" ", " "},
		{"   ", "   "},
		{"a", "a"},
		{" a  b ", " a  b "},
		{"=?UTF-8?q?a_b?= x", "a b x"},
		{"=?UTF-8?q?a_b?= =?utf-8?Q?c?= x", "a bc x"},
		{"x =?utf-8?Q?c?=", "x c"},
		{"=?utf-8?Q?a?= =?utf-8?Q?b?= =?utf-8?Q?c?=", "abc"},
		{"=?utf-8?Q?a?=  =?utf-8?Q?b?=", "a  b"},
		{"=?utf-8?Q?a?=   =?utf-8?Q?b?=", "a   b"},
		{"=?utf-8?Q?a?= =?utf-8?Q?b?=  ", "ab  "},
		{" =?utf-8?Q?a?= =?utf-8?Q?b?= ", " ab "},
		{"=?utf-8?Q?a?= x =?utf-8?Q?b?=", "a x b"},
		{"=?utf-8?Q?a?= =?utf-9?Q?b?= =?utf-8?Q?c?=", "a =?utf-9?Q?b?= c"},
		{"=?utf-8?Q?a?=\t=?utf-8?Q?b?=", "=?utf-8?Q?a?=\t=?utf-8?Q?b?="},
		{"x=?utf-8?Q?a?=", "x=?utf-8?Q?a?="},
		{"(=?utf-8?Q?a?=)", "(=?utf-8?Q?a?=)"},
		{"=?utf-8?Q??= =?utf-8?Q?b?=", "b"},
		{"=?utf-8?Q??=", ""},
		{"a =?utf-8?Q??= b", "a  b"},
		{"=?utf-8?Q?a b?=", "=?utf-8?Q?a b?="},
		{"=?utf-8?B?w6?= =?utf-8?Q?b?=", "=?utf-8?B?w6?= b"},
		{"=?utf-8?Q?=3D?utf-8?Q?a?=", "=?utf-8?Q?=3D?utf-8?Q?a?="},
		{"=?utf-8?Q?=3D=3Futf-8=3FQ=3Fa=3F=3D?=", "=?utf-8?Q?a?="},
		{"=?utf-8?Q?_?= =?utf-8?Q?_?=", "  "},
		{"\xff é\r\n", "\xff é\r\n"},
		{"=?utf-8?Q?" + strings.Repeat("a", 63) + "?= =?utf-8?Q?b?=", strings.Repeat("a", 63) + "b"},
		{"=?utf-8?Q?" + strings.Repeat("a", 64) + "?= =?utf-8?Q?b?=", "=?utf-8?Q?" + strings.Repeat("a", 64) + "?= b"},
	} {
		if s := Decode(c.in); s != c.out {
			t.Errorf("Decode(%q): %q, not %q", c.in, s, c.out)
		}
	}
}

// slowDecode reads in another way than Decode does: it marks the words first, and takes the blanks between them away then.
func slowDecode(s string) string {
	l := strings.Split(s, " ")
	for i, w := range l {
		l[i] = "-" + w
		if said, ok := slowOne(w); ok {
			l[i] = "+" + said
		}
	}
	for i := len(l) - 1; i > 0; i-- {
		if l[i-1][0] == '-' || l[i][0] == '-' {
			l[i] = l[i][:1] + " " + l[i][1:]
		}
	}
	for i, w := range l {
		l[i] = w[1:]
	}
	return strings.Join(l, "")
}

func TestDecodeAllShortTexts(t *testing.T) { // P4.2
	pieces := []string{" ", "a", "=?utf-8?Q?b_?=", "=?US-ascii?B?YQ==?=", "=?utf-8?B??=", "=?utf-8?B?Y?="}
	allTexts(pieces, 6, func(s string) {
		if got := Decode(s); got != slowDecode(s) {
			t.Fatalf("Decode(%q): %q, not %q", s, got, slowDecode(s))
		}
	})
}

func TestDecodeLongTexts(t *testing.T) { // P1, P4.2
	for _, fill := range []string{" ", "=?utf-8?Q?a?= ", "a ", "=?", "?="} {
		s := strings.Repeat(fill, 100000)
		if got := Decode(s); got != slowDecode(s) {
			t.Errorf("Decode of many %q: %d bytes, not %d", fill, len(got), len(slowDecode(s)))
		}
	}
}

func TestPiecesCanBeLeft(t *testing.T) { // the ranged-over functions end where their loop is left
	for p := range pieces([]byte(strings.Repeat("é", 100))) {
		if len(p) != 44 {
			t.Errorf("a piece of %d bytes", len(p))
		}
		break
	}
	for p := range parts("a b") {
		if p != "a" {
			t.Errorf("a part %q", p)
		}
		break
	}
}
