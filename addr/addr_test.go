package addr

import (
	"math/rand"
	"net/mail"
	"reflect"
	"regexp"
	"strings"
	"testing"

	"posthorn/api"
)

// allTexts calls see with each text of at most n pieces of those given.
func allTexts(from []string, n int, see func(s string)) {
	var grow func(s string, n int)
	grow = func(s string, n int) {
		see(s)
		for i := 0; i < len(from) && n > 0; i++ {
			grow(s+from[i], n-1)
		}
	}
	grow("", n)
}

// someText is a text of n pieces of those given.
func someText(r *rand.Rand, from []string, n int) string {
	var s strings.Builder
	for range n {
		s.WriteString(from[r.Intn(len(from))])
	}
	return s.String()
}

// some is so many times a.
func some(n int) string { return strings.Repeat("a", n) }

// of is an address.
func of(name, local, domain string) api.Addr {
	return api.Addr{Name: name, Local: local, Domain: domain}
}

// printable are the bytes from 32 to 126, each as a text.
func printable() []string {
	var out []string
	for c := 32; c <= 126; c++ {
		out = append(out, string(rune(c)))
	}
	return out
}

// The document's words as patterns: an atom, a label, what stands between two ".
const (
	atom   = "[A-Za-z0-9!#$%&'*+\\-/=?^_{|}`]+"
	label  = `[A-Za-z0-9](?:[A-Za-z0-9-]*[A-Za-z0-9])?`
	quotes = `(?:[ !#-\[\]-~]|\\["\\])*`
)

var (
	localPattern  = regexp.MustCompile(`^` + atom + `(?:\.` + atom + `)*$`)
	domainPattern = regexp.MustCompile(`^` + label + `(?:\.` + label + `)*$`)
	atomsPattern  = regexp.MustCompile(`^` + atom + `(?: ` + atom + `)*$`)
	namePattern   = regexp.MustCompile(`^[ -~]*$`)
	pointed       = regexp.MustCompile(`^ *(?:(` + atom + `(?: ` + atom + `)*)|"(` + quotes + `)") *<([^@]*)@([^@]*)> *$`)
	bare          = regexp.MustCompile(`^ *([^@ ]*)@([^@ ]*) *$`)
	escape        = regexp.MustCompile(`\\(.)`)
)

// slowRight is what Right must answer, by the patterns.
func slowRight(a api.Addr) bool {
	for _, l := range strings.Split(a.Domain, ".") {
		if len(l) > 63 {
			return false
		}
	}
	return len(a.Local) <= 64 && localPattern.MatchString(a.Local) &&
		len(a.Domain) <= 253 && domainPattern.MatchString(a.Domain) &&
		len(a.Name) <= 128 && namePattern.MatchString(a.Name)
}

// slowWrite is how an address that may be is written, by the patterns.
func slowWrite(a api.Addr) string {
	s := a.Local + "@" + a.Domain
	if a.Name == "" {
		return s
	}
	if atomsPattern.MatchString(a.Name) {
		return a.Name + " <" + s + ">"
	}
	return `"` + strings.NewReplacer(`"`, `\"`, `\`, `\\`).Replace(a.Name) + `" <` + s + ">"
}

// slowRead is what Read must answer, by the patterns.
func slowRead(s string) (api.Addr, api.Errno) {
	var a api.Addr
	if m := pointed.FindStringSubmatch(s); m != nil {
		a = of(m[1]+escape.ReplaceAllString(m[2], "$1"), m[3], m[4])
	} else if m := bare.FindStringSubmatch(s); m != nil {
		a = of("", m[1], m[2])
	}
	if !slowRight(a) {
		return api.Addr{}, api.ErrAddr
	}
	return a, api.OK
}

// slowPlain is what Plain must answer, by the patterns.
func slowPlain(s string) (api.Addr, api.Errno) {
	if strings.ContainsAny(s, ` <"`) {
		return api.Addr{}, api.ErrAddr
	}
	return slowRead(s)
}

// checkOne holds Read and Plain of a text against the patterns.
func checkOne(t *testing.T, s string) {
	t.Helper()
	want, code := slowRead(s)
	if a, e := Read(s); a != want || e != code {
		t.Fatalf("Read(%q): %q %v, not %q %v", s, a, e, want, code)
	}
	want, code = slowPlain(s)
	if a, e := Plain(s); a != want || e != code {
		t.Fatalf("Plain(%q): %q %v, not %q %v", s, a, e, want, code)
	}
}

// checkAddr holds Right, Write and Normal of an address against the patterns, and reads what is written.
func checkAddr(t *testing.T, a api.Addr) {
	t.Helper()
	right := slowRight(a)
	if Right(a) != right {
		t.Fatalf("Right(%q): %v", a, !right)
	}
	s, e := Write(a)
	n := Normal(a)
	if !right {
		if s != "" || e != api.ErrAddr || n != "" {
			t.Fatalf("%q: Write %q %v, Normal %q", a, s, e, n)
		}
		return
	}
	if want := slowWrite(a); s != want || e != api.OK {
		t.Fatalf("Write(%q): %q %v, not %q", a, s, e, want)
	}
	if want := strings.ToLower(a.Local) + "@" + strings.ToLower(a.Domain); n != want {
		t.Fatalf("Normal(%q): %q, not %q", a, n, want)
	}
	if back, e := Read(s); back != a || e != api.OK { // P7.4
		t.Fatalf("Read(%q): %q %v, not %q", s, back, e, a)
	}
}

func TestRightEveryByte(t *testing.T) { // P7.1
	const letters = "ABCDEFGHIJKLMNOPQRSTUVWXYZabcdefghijklmnopqrstuvwxyz0123456789"
	for c := range 256 {
		b := string([]byte{byte(c)})
		inLocal := strings.Contains(letters+"!#$%&'*+-/=?^_{|}\x60", b)
		atEdge := strings.Contains(letters, b)
		between := atEdge || b == "-"
		for s, want := range map[string]bool{
			b: inLocal, "a" + b + "a": inLocal || b == ".", b + "a": inLocal, "a" + b: inLocal, "a.b" + b: inLocal, "a." + b: inLocal,
		} {
			if Right(of("", s, "d")) != want {
				t.Errorf("Right of Local %q: %v", s, !want)
			}
		}
		for s, want := range map[string]bool{
			b: atEdge, "a" + b + "a": between || b == ".", b + "a": atEdge, "a" + b: atEdge, "a." + b + "a": atEdge, "a" + b + ".a": atEdge,
		} {
			if Right(of("", "l", s)) != want {
				t.Errorf("Right of Domain %q: %v", s, !want)
			}
		}
		for _, s := range []string{b, "a" + b, b + "a"} {
			if want := c >= 32 && c <= 126; Right(of(s, "l", "d")) != want {
				t.Errorf("Right of Name %q: %v", s, !want)
			}
		}
	}
}

func TestRightLimits(t *testing.T) { // P7.1
	long := some(63) + "." + some(63) + "." + some(63) + "."
	for _, c := range []struct {
		a    api.Addr
		want bool
	}{
		{of("", some(64), "d"), true},
		{of("", some(65), "d"), false},
		{of("", some(32)+"."+some(31), "d"), true},
		{of("", some(32)+"."+some(32), "d"), false},
		{of("", "l", some(63)), true},
		{of("", "l", some(64)), false},
		{of("", "l", "a."+some(63)+".b"), true},
		{of("", "l", "a."+some(64)+".b"), false},
		{of("", "l", "a-"+some(60)+"b"), true},
		{of("", "l", long+some(61)), true},
		{of("", "l", long+some(62)), false},
		{of("", "l", strings.Repeat("a.", 126)+"a"), true},
		{of("", "l", strings.Repeat("a.", 126)+"aa"), false},
		{of(some(128), "l", "d"), true},
		{of(some(129), "l", "d"), false},
		{of(strings.Repeat(`"`, 128), "l", "d"), true},
		{of(strings.Repeat(`"`, 129), "l", "d"), false},
		{of(strings.Repeat(" ", 128), "l", "d"), true},
		{of(some(128), some(64), long+some(61)), true},
		{of("", "", "d"), false},
		{of("", "l", ""), false},
		{of("A", "", ""), false},
		{of("", ".", "d"), false},
		{of("", "a..b", "d"), false},
		{of("", "l", "."), false},
		{of("", "l", "a..b"), false},
		{of("", "l", "a."), false},
		{of("", "l", ".a"), false},
		{of("", "l", "-"), false},
		{of("", "l", "a--b"), true},
		{of("", "l", "a.-"), false},
		{of("", "-", "1.2.3.4"), true},
		{of("", "l", "\u212a"), false},
		{of("", "é", "d"), false},
		{of("é", "l", "d"), false},
	} {
		if Right(c.a) != c.want {
			t.Errorf("Right(%.20q): %v", c.a, !c.want)
		}
		checkAddr(t, c.a)
	}
}

func TestWriteExamples(t *testing.T) { // P7.1
	for _, c := range []struct {
		a    api.Addr
		want string
	}{
		{of("", "C", "D.org"), "C@D.org"},
		{of("A", "C", "D.org"), "A <C@D.org>"},
		{of("A b 3", "c", "d"), "A b 3 <c@d>"},
		{of("A, B", "C", "D.org"), `"A, B" <C@D.org>`},
		{of("A.B", "c", "d"), `"A.B" <c@d>`},
		{of("A  B", "c", "d"), `"A  B" <c@d>`},
		{of(" A", "c", "d"), `" A" <c@d>`},
		{of("A ", "c", "d"), `"A " <c@d>`},
		{of(" ", "c", "d"), `" " <c@d>`},
		{of(`\`, "c", "d"), `"\\" <c@d>`},
		{of(`"`, "c", "d"), `"\"" <c@d>`},
		{of(`a"b\c`, "c", "d"), `"a\"b\\c" <c@d>`},
		{of("<c@d>", "c", "d"), `"<c@d>" <c@d>`},
		{of("!#$%&'*+-/=?^_{|}\x60", "!#$%&'*+-/=?^_{|}\x60", "d"), "!#$%&'*+-/=?^_{|}\x60 <!#$%&'*+-/=?^_{|}\x60@d>"},
		{of("~", "c", "d"), `"~" <c@d>`},
	} {
		if s, e := Write(c.a); s != c.want || e != api.OK {
			t.Errorf("Write(%q): %q %v", c.a, s, e)
		}
		checkAddr(t, c.a)
	}
	for _, a := range []api.Addr{{}, of("", "a@b", "c"), of("", "a", "b@c"), of("A\n", "b", "c"), of("A", "~", "c"), of(some(129), "b", "c")} {
		if s, e := Write(a); s != "" || e != api.ErrAddr {
			t.Errorf("Write(%.20q): %q %v", a, s, e)
		}
	}
}

func TestAllShortNames(t *testing.T) { // P7.1, P7.2, P7.4
	for _, c := range printable() {
		for _, d := range printable() {
			checkAddr(t, of(c+d, "c", "d"))
		}
	}
	pieces := []string{" ", `"`, `\`, ",", "<", ">", "@", "a", "B", ".", "\x7f"}
	allTexts(pieces, 5, func(s string) { checkAddr(t, of(s, "c", "d")) })
}

func TestAllShortAddresses(t *testing.T) { // P7.1, P7.2, P7.4
	allTexts([]string{"a", "Z", "0", "-", ".", "_", "@", " "}, 5, func(s string) {
		checkAddr(t, of("", s, "d"))
		checkAddr(t, of("N", "l", s))
	})
}

func TestNormal(t *testing.T) { // P7.1, P7.5
	for _, c := range []struct {
		a    api.Addr
		want string
	}{
		{of("A, B", "C", "D.org"), "c@d.org"},
		{of("", "c", "d"), "c@d"},
		{of("N", "AbZ.{Y}_\x60", "X-0.Z"), "abz.{y}_\x60@x-0.z"},
		{api.Addr{}, ""},
		{of("", "a", ""), ""},
		{of("", "", "a"), ""},
		{of("\n", "a", "b"), ""},
		{of(some(129), "a", "b"), ""},
		{of("", "\u212a", "d"), ""},
	} {
		if s := Normal(c.a); s != c.want {
			t.Errorf("Normal(%.20q): %q", c.a, s)
		}
	}
}

func TestNormalIsOne(t *testing.T) { // P7.5
	r := rand.New(rand.NewSource(5))
	for range 3000 {
		a := someAddr(r)
		n := Normal(a)
		flip := func(s string) string {
			b := []byte(s)
			for i, c := range b {
				if low := c | 32; low >= 'a' && low <= 'z' && r.Intn(2) == 0 {
					b[i] = c ^ 32
				}
			}
			return string(b)
		}
		if m := Normal(of(someName(r), flip(a.Local), flip(a.Domain))); m != n {
			t.Fatalf("Normal of %q: %q and %q", a, n, m)
		}
		back, e := Plain(n)
		if e != api.OK || Normal(back) != n || back.Local+"@"+back.Domain != n {
			t.Fatalf("Plain(%q): %q %v", n, back, e)
		}
	}
}

func TestReadExamples(t *testing.T) { // P7.2
	for s, want := range map[string]api.Addr{
		`"A, B" <C@D.org>`:        of("A, B", "C", "D.org"),
		`c@d`:                     of("", "c", "d"),
		`   c@d`:                  of("", "c", "d"),
		`c@d  `:                   of("", "c", "d"),
		`  c.e@d.f  `:             of("", "c.e", "d.f"),
		`A <c@d>`:                 of("A", "c", "d"),
		`  A b   <c@d>  `:         of("A b", "c", "d"),
		`A<c@d>`:                  of("A", "c", "d"),
		`"A"<c@d>`:                of("A", "c", "d"),
		`"A" <c@d>`:               of("A", "c", "d"),
		`  "A b"   <c@d>   `:      of("A b", "c", "d"),
		`" A " <c@d>`:             of(" A ", "c", "d"),
		`"A  b" <c@d>`:            of("A  b", "c", "d"),
		`"" <c@d>`:                of("", "c", "d"),
		`""<c@d>`:                 of("", "c", "d"),
		`" " <c@d>`:               of(" ", "c", "d"),
		`"\\" <c@d>`:              of(`\`, "c", "d"),
		`"\"" <c@d>`:              of(`"`, "c", "d"),
		`"\\\"\\" <c@d>`:          of(`\"\`, "c", "d"),
		`"a\"b,\\c" <c@d>`:        of(`a"b,\c`, "c", "d"),
		`"<x@y>" <c@d>`:           of("<x@y>", "c", "d"),
		`"A <x@y" <c@d>`:          of("A <x@y", "c", "d"),
		`"~" <c@d>`:               of("~", "c", "d"),
		"' <c@d>":                 of("'", "c", "d"),
		"!#$%&'*+-/=?^_{|}\x60@d": of("", "!#$%&'*+-/=?^_{|}\x60", "d"),
	} {
		if a, e := Read(s); a != want || e != api.OK {
			t.Errorf("Read(%q): %q %v", s, a, e)
		}
		checkOne(t, s)
	}
}

func TestReadWrong(t *testing.T) { // P7.2
	for _, s := range []string{
		"", " ", "a", "@", "a@", "@b", "a@b@c", "a b@c", "a @b", "a@ b", "a@b c", "a@b.", "a.@b", ".a@b", "a..c@b", "a@b..c", "a@-b", "a@b-",
		"\ta@b", "a@b\t", "a@b\r\n", "\na@b", "a@b,", ",a@b", "a@b,c@d", "a@b;", "~@b", "a@b~", "a@\xe9", "(x) a@b", "a@[1.2.3.4]",
		"<a@b>", " <a@b>", "< a@b>", "A < a@b>", "A <a@b >", "A <a@b> x", "A <a@b", "A a@b>", "A <a@b>>", "A <<a@b>", "A <>", "<>", "A <@>", "A <a>",
		">", "<", "A <", "A >", "a@b>", "<a@b", "A\t<a@b>", "A <a@b>\t", "A  b <a@b>", "A. <a@b>", "A.b <a@b>", "A, b <a@b>", "A@c <a@b>", "~ <a@b>", "A \u00e9 <a@b>",
		`"`, `""`, `"A"`, `"A`, `"A <a@b>`, `A" <a@b>`, `"A" b <a@b>`, `b "A" <a@b>`, `"A""b" <a@b>`, `"A" "b" <a@b>`, `A"b" <a@b>`, `"A"a@b`, `"A" a@b`, `"" a@b`, `"a"@b`,
		`"A\" <a@b>`, `"A\b" <a@b>`, `"\ " <a@b>`, `"\,"<a@b>`, `"A\\\" <a@b>`, `"A\\"" <a@b>`, `\"A\" <a@b>`, `A\ <a@b>`, `\ <a@b>`, `"\`, `"\>`, `"\"`, `"\">`,
		"\"A\tb\" <a@b>", "\"A\x7f\" <a@b>", "\"\x1f\" <a@b>", "\"é\" <a@b>", "\"\x00\" <a@b>", "\"A\" \t<a@b>", "\"A\"\n<a@b>", "\"\\\t\" <a@b>",
		"A <" + some(65) + "@b>", some(65) + "@b", "a@" + some(64), some(129) + " <a@b>", `"` + some(129) + `" <a@b>`,
	} {
		if a, e := Read(s); a != (api.Addr{}) || e != api.ErrAddr {
			t.Errorf("Read(%q): %q %v", s, a, e)
		}
		checkOne(t, s)
	}
}

func TestReadLimits(t *testing.T) { // P7.2
	long := some(63) + "." + some(63) + "." + some(63) + "." + some(61)
	for s, want := range map[string]api.Addr{
		some(64) + "@" + long:                                of("", some(64), long),
		some(128) + " <" + some(64) + "@" + long + ">":       of(some(128), some(64), long),
		`"` + some(128) + `" <a@b>`:                          of(some(128), "a", "b"),
		`"` + strings.Repeat(`\"`, 128) + `" <a@b>`:          of(strings.Repeat(`"`, 128), "a", "b"),
		`"` + strings.Repeat(`\\`, 128) + `" <a@b>`:          of(strings.Repeat(`\`, 128), "a", "b"),
		strings.Repeat(" ", 5000) + "a@b":                    of("", "a", "b"),
		"a@b" + strings.Repeat(" ", 5000):                    of("", "a", "b"),
		"A" + strings.Repeat(" ", 5000) + "<a@b>":            of("A", "a", "b"),
		`"A"` + strings.Repeat(" ", 5000) + "<a@b>":          of("A", "a", "b"),
		strings.Repeat("a ", 63) + "bb" + "      " + "<a@b>": of(strings.Repeat("a ", 63)+"bb", "a", "b"),
	} {
		if a, e := Read(s); a != want || e != api.OK {
			t.Errorf("Read(%.40q): %q %v", s, a, e)
		}
	}
	for _, s := range []string{
		`"` + strings.Repeat(`\"`, 129) + `" <a@b>`,
		`"` + strings.Repeat(" ", 129) + `" <a@b>`,
		strings.Repeat("a ", 64) + "b <a@b>",
		"a@" + long + "b",
	} {
		if a, e := Read(s); a != (api.Addr{}) || e != api.ErrAddr {
			t.Errorf("Read(%.40q): %q %v", s, a, e)
		}
	}
}

func TestReadAllShort(t *testing.T) { // P7.2
	allTexts([]string{" ", `"`, `\`, "<", ">", "a@b", "A", "."}, 6, func(s string) { checkOne(t, s) })
	allTexts([]string{" ", `"`, `\`, "<", "A", "\t"}, 6, func(s string) { checkOne(t, s+"<a@b>") })
	allTexts([]string{`"`, `\`, ",", "<", "A"}, 6, func(s string) { checkOne(t, `"`+s+`" <a@b>`) })
	allTexts([]string{"a", "-", ".", "@", "<", "~"}, 6, func(s string) { checkOne(t, s) })
}

func TestReadEveryByte(t *testing.T) { // P7.2
	for c := range 256 {
		b := string([]byte{byte(c)})
		for _, s := range []string{
			b + "a@b", "a" + b + "@b", "a@b" + b, "a@" + b + "b", b + "A <a@b>", "A" + b + "<a@b>", "A" + b + "b <a@b>", "A <" + b + "a@b>", "A <a@b" + b + ">", "A <a@b>" + b,
			b + `"A" <a@b>`, `"` + b + `" <a@b>`, `"\` + b + `" <a@b>`, `"A"` + b + "<a@b>", `"A` + b + `b" <a@b>`,
		} {
			// The patterns speak of points, not of bytes.
			if c < 128 {
				checkOne(t, s)
			} else if a, e := Read(s); a != (api.Addr{}) || e != api.ErrAddr {
				t.Errorf("Read(%q): %q %v", s, a, e)
			}
		}
	}
}

func TestPlain(t *testing.T) { // P7.2
	for s, want := range map[string]api.Addr{
		"a@b":                     of("", "a", "b"),
		"C@D.org":                 of("", "C", "D.org"),
		"a.b-@c-d.e":              of("", "a.b-", "c-d.e"),
		some(64) + "@" + some(63): of("", some(64), some(63)),
	} {
		if a, e := Plain(s); a != want || e != api.OK {
			t.Errorf("Plain(%q): %q %v", s, a, e)
		}
	}
	for _, s := range []string{
		"", "a", "@", "a@", "@b", " a@b", "a@b ", "a @b", "<a@b>", "A <a@b>", `"A" <a@b>`, `"" <a@b>`, `"a"@b`, "a@b@c", "@a@b", "a@b@", "a@@b", "a@b,c@d", "a@b\n", "a\x00@b", "é@b", "~@b",
		some(65) + "@b", "a@" + some(64), "a.@b", "a@b.",
	} {
		if a, e := Plain(s); a != (api.Addr{}) || e != api.ErrAddr {
			t.Errorf("Plain(%q): %q %v", s, a, e)
		}
	}
}

func TestListExamples(t *testing.T) { // P7.3
	x, y := of("", "a", "b"), of("x,y", "c", "d")
	for _, c := range []struct {
		s    string
		want []api.Addr
	}{
		{"", nil},
		{"a@b", []api.Addr{x}},
		{"a@b,a@b", []api.Addr{x, x}},
		{" a@b  ,   a@b ", []api.Addr{x, x}},
		{`a@b, "x,y" <c@d>`, []api.Addr{x, y}},
		{`"x,y"<c@d>,a@b,"x,y"   <c@d>  `, []api.Addr{y, x, y}},
		{`"\"," <c@d>,a@b`, []api.Addr{of(`",`, "c", "d"), x}},
		{`"\\" <c@d>,a@b`, []api.Addr{of(`\`, "c", "d"), x}},
		{`"\\" <c@d>,"," <c@d>`, []api.Addr{of(`\`, "c", "d"), of(",", "c", "d")}},
		{`"\\\"," <c@d>,a@b`, []api.Addr{of(`\",`, "c", "d"), x}},
		{`"a@b,c@d,\"e@f" <c@d>`, []api.Addr{of(`a@b,c@d,"e@f`, "c", "d")}},
		{`"" <c@d>,a@b`, []api.Addr{of("", "c", "d"), x}},
		{`",,,," <c@d>`, []api.Addr{of(",,,,", "c", "d")}},
		{`A <c@d>,B<a@b>`, []api.Addr{of("A", "c", "d"), of("B", "a", "b")}},
	} {
		if l, e := List(c.s); e != api.OK || len(l) != len(c.want) || len(l) > 0 && !reflect.DeepEqual(l, c.want) {
			t.Errorf("List(%q): %q %v", c.s, l, e)
		}
	}
}

func TestListWrong(t *testing.T) { // P7.3
	for _, s := range []string{
		" ", ",", "a@b,", ",a@b", "a@b,,a@b", "a@b, ,a@b", "a@b a@b", "a@b;a@b", "a", "a@b,c", "c,a@b", "<a@b>", "a@b,<a@b>", `"x,y" <c@d`, `x,y <c@d>`, `"x,y <c@d>`, `x",y <c@d>`, `x,y" <c@d>`,
		`\"x,y" <c@d>`, `"x\",y <c@d>`, `"x\\",y <c@d>`, `a@b,"`, `"`, `"\`, `\`, `"",a@b`, `"a@b"`, `"a@b,c@d"`, "a@b\t,a@b", "a@b,\ta@b",
	} {
		if l, e := List(s); l != nil || e != api.ErrAddr {
			t.Errorf("List(%q): %q %v", s, l, e)
		}
	}
}

func TestListLimits(t *testing.T) { // P7.3
	times := func(s string, n int) string { return strings.TrimSuffix(strings.Repeat(s+",", n), ",") }
	for _, s := range []string{"a@b", " A <a@b> ", `",,,,,,,,,,\",,,,," <a@b>`} {
		for _, n := range []int{1, 2, 63, 64} {
			if l, e := List(times(s, n)); e != api.OK || len(l) != n {
				t.Errorf("List of %d times %q: %d %v", n, s, len(l), e)
			}
		}
		for _, n := range []int{65, 66, 200} {
			if l, e := List(times(s, n)); e != api.ErrLong || l != nil {
				t.Errorf("List of %d times %q: %d %v", n, s, len(l), e)
			}
		}
	}
	// ErrLong is told first, wherever stands what can't be read.
	for _, c := range []struct {
		s    string
		want api.Errno
	}{
		{"x," + times("a@b", 64), api.ErrLong},
		{times("a@b", 64) + ",x", api.ErrLong},
		{times("a@b", 64) + ",", api.ErrLong},
		{"," + times("a@b", 64), api.ErrLong},
		{"x," + times("a@b", 63), api.ErrAddr},
		{times("a@b", 63) + ",x", api.ErrAddr},
		{times("a@b", 63) + ",", api.ErrAddr},
		{strings.Repeat(",", 63), api.ErrAddr},
		{strings.Repeat(",", 64), api.ErrLong},
		{strings.Repeat(",", 100), api.ErrLong},
		{times("x", 64), api.ErrAddr},
		{times("x", 65), api.ErrLong},
		{`"` + strings.Repeat(",", 100) + `"`, api.ErrAddr},
		{`"\"` + strings.Repeat(",", 100) + `"`, api.ErrAddr},
		{`"\\"` + strings.Repeat(",", 100) + `"`, api.ErrLong},
		{`"` + strings.Repeat(",", 100), api.ErrLong},
		{`"` + strings.Repeat(",", 50) + `\"` + strings.Repeat(",", 50), api.ErrLong},
		{`\"` + strings.Repeat(",", 100), api.ErrLong},
		{`\"` + strings.Repeat(",", 100) + `"`, api.ErrLong},
		{`",","` + strings.Repeat(",", 100) + `"`, api.ErrAddr},
		{`"` + strings.Repeat(",", 63), api.ErrAddr},
		{`"` + strings.Repeat(",", 64), api.ErrLong},
		{`","` + strings.Repeat(",", 63), api.ErrAddr},
		{`","` + strings.Repeat(",", 64), api.ErrLong},
	} {
		if l, e := List(c.s); e != c.want || l != nil {
			t.Errorf("List(%.40q): %q %v, not %v", c.s, l, e, c.want)
		}
	}
}

// slowList is what List must answer for a text of few commas: the one way to part it so that all can be read.
func slowList(s string) ([]api.Addr, bool) {
	if a, e := slowRead(s); e == api.OK {
		return []api.Addr{a}, true
	}
	for at := range len(s) {
		if s[at] != ',' {
			continue
		}
		if a, e := slowRead(s[:at]); e == api.OK {
			if l, ok := slowList(s[at+1:]); ok {
				return append([]api.Addr{a}, l...), true
			}
		}
	}
	return nil, false
}

func TestListAllShort(t *testing.T) { // P7.3
	check := func(s string) {
		want, ok := slowList(s)
		l, e := List(s)
		if ok && (e != api.OK || !reflect.DeepEqual(l, want)) || !ok && (e != api.ErrAddr || l != nil) {
			t.Fatalf("List(%q): %q %v, not %q", s, l, e, want)
		}
	}
	allTexts([]string{`"`, `\`, ",", "<a@b>", "a@b", `"<a@b>`, " "}, 5, func(s string) {
		if s != "" {
			check(s)
		}
	})
	allTexts([]string{`"`, `\`, ",", "A"}, 7, func(s string) { check(`"` + s + `"<a@b>,c@d`) })
}

// someName is a name that may be.
func someName(r *rand.Rand) string {
	switch r.Intn(4) {
	case 0:
		return ""
	case 1:
		return strings.TrimSpace(someText(r, []string{"a", "B", "1", "'", " b"}, r.Intn(20)))
	case 2:
		return someText(r, []string{`"`, `\`, ",", " ", "a"}, r.Intn(40))
	}
	return someText(r, printable(), r.Intn(129))
}

// someAddr is an address that may be.
func someAddr(r *rand.Rand) api.Addr {
	words := func(from []string, longest int) string {
		out := someText(r, from, 1+r.Intn(longest))
		for range r.Intn(3) {
			out += "." + someText(r, from, 1+r.Intn(longest))
		}
		return out
	}
	local := words(append(strings.Split("!#$%&'*+-/=?^_{|}\x60", ""), "a", "B", "c", "D", "0", "z", "Z"), 20)
	return of(someName(r), local, words([]string{"a", "Z", "b-c", "x--Y", "0"}, 12))
}

func TestThereAndBack(t *testing.T) { // P7.4
	r := rand.New(rand.NewSource(7))
	for range 5000 {
		checkAddr(t, someAddr(r))
	}
}

func TestLibraryReadsWhatIsWritten(t *testing.T) { // P7.1
	r := rand.New(rand.NewSource(8))
	for range 3000 {
		a := someAddr(r)
		if strings.Contains(a.Name, "=?") {
			continue
		}
		s, _ := Write(a)
		got, err := mail.ParseAddress(s)
		if err != nil || got.Name != a.Name || got.Address != a.Local+"@"+a.Domain {
			t.Fatalf("%q is read as %v, %v", s, got, err)
		}
	}
}

func TestListThereAndBack(t *testing.T) { // P7.6
	r := rand.New(rand.NewSource(9))
	for n := range api.MaxAddrs + 2 {
		for range 20 {
			var l []api.Addr
			var texts []string
			for range n {
				a := someAddr(r)
				s, _ := Write(a)
				l, texts = append(l, a), append(texts, s)
			}
			for _, between := range []string{",", ", ", "  ,  "} {
				got, e := List(strings.Join(texts, between))
				if n > api.MaxAddrs {
					if got != nil || e != api.ErrLong {
						t.Fatalf("%d addresses: %q %v", n, got, e)
					}
				} else if e != api.OK || len(got) != n || n > 0 && !reflect.DeepEqual(got, l) {
					t.Fatalf("List of %q: %q %v", texts, got, e)
				}
			}
		}
	}
}

func TestLongTextsEnd(t *testing.T) { // P1
	for _, piece := range []string{`"`, `\`, `\"`, `",`, `"\",`, ",", " ", "<", ">", "a", ".", "@", "a@b,", `" <`, "\x00", "\xff", `",",`} {
		s := strings.Repeat(piece, api.MaxText/len(piece))
		for _, s := range []string{s, `"` + s, s + ">", `"` + s + `" <a@b>`, s + "<a@b>"} {
			if a, e := Read(s); a != (api.Addr{}) || e != api.ErrAddr {
				t.Errorf("Read of many %q: %q %v", piece, a, e)
			}
			if a, e := Plain(s); a != (api.Addr{}) || e != api.ErrAddr {
				t.Errorf("Plain of many %q: %q %v", piece, a, e)
			}
			if l, e := List(s); l != nil || e != api.ErrAddr && e != api.ErrLong {
				t.Errorf("List of many %q: %q %v", piece, l, e)
			}
			for _, a := range []api.Addr{of(s, "a", "b"), of("", s, "b"), of("", "a", s)} {
				if Right(a) || Normal(a) != "" {
					t.Errorf("Right or Normal of many %q", piece)
				}
			}
		}
	}
}
