package kind

import (
	"math/rand"
	"mime"
	"reflect"
	"regexp"
	"slices"
	"strconv"
	"strings"
	"testing"

	"posthorn/api"
)

// allTexts calls see with each text of at most n pieces of those given.
func allTexts(from []string, n int, see func(s string)) {
	var grow func(s string, n int)
	grow = func(s string, n int) {
		see(s)
		for i := 0; i < len(from) && n > 0; i++ {
			grow(s+from[i], n-1)
		}
	}
	grow("", n)
}

// someText is a text of n pieces of those given.
func someText(r *rand.Rand, from []string, n int) string {
	var s strings.Builder
	for range n {
		s.WriteString(from[r.Intn(len(from))])
	}
	return s.String()
}

// some is so many times a.
func some(n int) string { return strings.Repeat("a", n) }

// of is a kind, with its parameters' Names and Values in turn.
func of(kind, sub string, l ...string) api.Kind {
	k := api.Kind{Type: kind, Sub: sub}
	for at := 0; at < len(l); at += 2 {
		k.Params = append(k.Params, api.Param{Name: l[at], Value: l[at+1]})
	}
	return k
}

// many is so many parameters, of their Names and Values in turn.
func many(n int) []string {
	var l []string
	for i := range n {
		l = append(l, "n"+strconv.Itoa(i), strconv.Itoa(i))
	}
	return l
}

// same tells whether kinds are alike, with lists that are nil or empty, too.
func same(a, b api.Kind) bool {
	return a.Type == b.Type && a.Sub == b.Sub && slices.Equal(a.Params, b.Params)
}

// none tells whether nothing is answered but the error.
func none(k api.Kind, e api.Errno) bool { return reflect.DeepEqual(k, api.Kind{}) && e == api.ErrKind }

// The document's words as patterns.
const (
	tokens = "[!#-'*+\\-.0-9A-Z^-~]+"
	values = `"(?:[^"\\]|\\.)*"`
	param  = `(` + tokens + `)=(` + tokens + `|` + values + `)`
)

var (
	tokenPattern = regexp.MustCompile(`^` + tokens + `$`)
	valuePattern = regexp.MustCompile(`^[ -~]*$`)
	kindPattern  = regexp.MustCompile(`(?s)^[ \t]*(` + tokens + `)/(` + tokens + `)((?:[ \t]*;[ \t]*` + param + `)*)[ \t]*;?[ \t]*$`)
	paramPattern = regexp.MustCompile(`(?s)^[ \t]*;[ \t]*` + param)
	escape       = regexp.MustCompile(`(?s)\\(.)`)
)

func slowToken(s string) bool { return len(s) <= 64 && tokenPattern.MatchString(s) }

func slowName(s string) bool {
	return slowToken(s) && !strings.ContainsAny(s, "ABCDEFGHIJKLMNOPQRSTUVWXYZ")
}

// slowRight is what Right must answer, by the patterns.
func slowRight(k api.Kind) bool {
	for i, p := range k.Params {
		for _, q := range k.Params[:i] {
			if p.Name == q.Name {
				return false
			}
		}
		if !slowName(p.Name) || len(p.Value) > 256 || !valuePattern.MatchString(p.Value) {
			return false
		}
	}
	return slowName(k.Type) && slowName(k.Sub) && len(k.Params) <= 16
}

// slowWrite is how a kind that may be is written, by the patterns.
func slowWrite(k api.Kind) string {
	s := k.Type + "/" + k.Sub
	for _, p := range k.Params {
		s += "; " + p.Name + "="
		if slowToken(p.Value) {
			s += p.Value
		} else {
			s += `"` + strings.NewReplacer(`"`, `\"`, `\`, `\\`).Replace(p.Value) + `"`
		}
	}
	return s
}

// slowRead is what Read must answer, by the patterns.
func slowRead(s string) (api.Kind, api.Errno) {
	m := kindPattern.FindStringSubmatch(s)
	if m == nil {
		return api.Kind{}, api.ErrKind
	}
	k := of(strings.ToLower(m[1]), strings.ToLower(m[2]))
	for left := m[3]; left != ""; {
		p := paramPattern.FindStringSubmatch(left)
		left = left[len(p[0]):]
		value := p[2]
		if value[0] == '"' {
			value = escape.ReplaceAllString(value[1:len(value)-1], "$1")
		} else if !slowToken(value) {
			return api.Kind{}, api.ErrKind
		}
		k.Params = append(k.Params, api.Param{Name: strings.ToLower(p[1]), Value: value})
	}
	if !slowRight(k) {
		return api.Kind{}, api.ErrKind
	}
	return k, api.OK
}

// checkText holds Read of a text against the patterns, and writes what is read, and reads it again.
func checkText(t *testing.T, s string) {
	t.Helper()
	want, code := slowRead(s)
	k, e := Read(s)
	if e != code || !same(k, want) || e != api.OK && !none(k, e) {
		t.Fatalf("Read(%q): %q %v, not %q %v", s, k, e, want, code)
	}
	if e == api.OK { // P8.4
		if !Right(k) {
			t.Fatalf("Read(%q): %q may not be", s, k)
		}
		checkKind(t, k)
	}
}

// checkKind holds Right and Write of a kind against the patterns, and reads what is written.
func checkKind(t *testing.T, k api.Kind) {
	t.Helper()
	right := slowRight(k)
	if Right(k) != right {
		t.Fatalf("Right(%q): %v", k, !right)
	}
	s, e := Write(k)
	if !right {
		if s != "" || e != api.ErrKind {
			t.Fatalf("Write(%q): %q %v", k, s, e)
		}
		return
	}
	if want := slowWrite(k); s != want || e != api.OK {
		t.Fatalf("Write(%q): %q %v, not %q", k, s, e, want)
	}
	if back, e := Read(s); e != api.OK || !same(back, k) { // P8.3
		t.Fatalf("Read(%q): %q %v, not %q", s, back, e, k)
	}
}

func TestRightEveryByte(t *testing.T) { // P8.1
	for c := range 256 {
		b := string([]byte{byte(c)})
		token := c >= 33 && c <= 126 && !strings.Contains(`()<>@,;:\"/[]?=`, b)
		name := token && (c < 'A' || c > 'Z')
		value := c >= 32 && c <= 126
		for _, s := range []string{b, "a" + b, b + "a", "a" + b + "a"} {
			if Right(of(s, "b")) != name || Right(of("b", s)) != name || Right(of("b", "b", s, "")) != name {
				t.Errorf("Right of the name %q: not %v", s, name)
			}
			if Right(of("b", "b", "c", s)) != value {
				t.Errorf("Right of the value %q: not %v", s, value)
			}
			want := ""
			switch {
			case token:
				want = "b/b; c=" + s
			case c == '"' || c == '\\':
				want = `b/b; c="` + strings.ReplaceAll(s, b, `\`+b) + `"`
			case value:
				want = `b/b; c="` + s + `"`
			}
			if got, e := Write(of("b", "b", "c", s)); got != want || (e == api.OK) != value || (e == api.ErrKind) == value {
				t.Errorf("Write of the value %q: %q %v", s, got, e)
			}
		}
	}
}

func TestRightLimits(t *testing.T) { // P8.1
	for _, c := range []struct {
		k    api.Kind
		want bool
	}{
		{of("a", "b"), true},
		{of("", "b"), false},
		{of("a", ""), false},
		{of("a", "b", "", "c"), false},
		{of("a", "b", "c", ""), true},
		{of(some(64), some(64), some(64), some(256)), true},
		{of(some(65), "b"), false},
		{of("a", some(65)), false},
		{of("a", "b", some(65), "c"), false},
		{of("a", "b", "c", some(257)), false},
		{of("a", "b", "c", strings.Repeat(`"`, 256)), true},
		{of("a", "b", "c", strings.Repeat(`"`, 257)), false},
		{of("a", "b", many(16)...), true},
		{of("a", "b", many(17)...), false},
		{of("a", "b", many(1000)...), false},
		{of("a", "b", "c", "1", "c", "2"), false},
		{of("a", "b", "c", "1", "c", "1"), false},
		{of("a", "b", "c", "1", "d", "1", "e", "1", "c", "3"), false},
		{of("a", "b", "c", "1", "d", "1"), true},
		{of("a", "b", "c", "1", "C", "2"), false},
		{of("a", "b", "type", "1", "a", "2", "b", "3"), true},
		{of("A", "b"), false},
		{of("a", "B"), false},
		{of("a", "b", "C", "d"), false},
		{of("a", "b", "c", "D"), true},
		{of("a", "b", append(many(15), "n0", "x")...), false},
		{of("a/b", "c"), false},
		{of("a", "é"), false},
		{of("a", "b", "c", "é"), false},
		{of("a", "b", "c", "\t"), false},
		{of("a", "b", "c", "\x7f"), false},
		{api.Kind{}, false},
		{api.Kind{Type: "a", Sub: "b", Params: []api.Param{}}, true},
	} {
		if Right(c.k) != c.want {
			t.Errorf("Right(%.40q): %v", c.k, !c.want)
		}
		checkKind(t, c.k)
	}
}

func TestWriteExamples(t *testing.T) { // P8.1
	for _, c := range []struct {
		k    api.Kind
		want string
	}{
		{of("text", "plain"), "text/plain"},
		{of("text", "calendar", "method", "REPLY"), "text/calendar; method=REPLY"},
		{of("a", "b", "c", "d", "e", "f g"), `a/b; c=d; e="f g"`},
		{of("a", "b", "c", ""), `a/b; c=""`},
		{of("a", "b", "c", `"`, "d", `\`), `a/b; c="\""; d="\\"`},
		{of("a", "b", "c", "x/y", "d", "x;y"), `a/b; c="x/y"; d="x;y"`},
		{of("a", "b", "c", some(64)), "a/b; c=" + some(64)},
		{of("a", "b", "c", some(65)), `a/b; c="` + some(65) + `"`},
		{of("a", "b", "z", "1", "y", "2", "x", "3"), "a/b; z=1; y=2; x=3"},
	} {
		if s, e := Write(c.k); s != c.want || e != api.OK {
			t.Errorf("Write(%q): %q %v", c.k, s, e)
		}
	}
	for _, k := range []api.Kind{{}, of("Text", "plain"), of("text", "plain", "c", "1", "c", "1"), of("a", "b", many(17)...), of("a", "b", "c", "\n")} {
		if s, e := Write(k); s != "" || e != api.ErrKind {
			t.Errorf("Write(%q): %q %v", k, s, e)
		}
	}
}

func TestGet(t *testing.T) { // P8.1
	k := of("text", "calendar", "method", "REPLY", "charset", "", "x", "1")
	for _, c := range []struct {
		name, value string
		there       bool
	}{
		{"method", "REPLY", true},
		{"charset", "", true},
		{"x", "1", true},
		{"", "", false},
		{"y", "", false},
		{"METHOD", "", false},
		{"metho", "", false},
		{"method ", "", false},
		{"text", "", false},
	} {
		if v, there := Get(k, c.name); v != c.value || there != c.there {
			t.Errorf("Get(%q): %q %v", c.name, v, there)
		}
	}
	if v, there := Get(api.Kind{}, "a"); v != "" || there {
		t.Errorf("Get of none: %q %v", v, there)
	}
	if v, there := Get(of("a", "b", "c", "1", "c", "2"), "c"); v != "1" || !there {
		t.Errorf("Get of two: %q %v", v, there)
	}
	// What lies behind the list's length is not read.
	k.Params = k.Params[:1]
	if v, there := Get(k, "x"); v != "" || there {
		t.Errorf("Get behind the length: %q %v", v, there)
	}
}

func TestIs(t *testing.T) { // P8.1
	k := of("text", "calendar", "method", "REPLY")
	for text, want := range map[string]bool{
		"text/calendar": true, "": false, "/": false, "text": false, "text/": false, "/calendar": false, "textcalendar": false, "text/calenda": false,
		"text/calendars": false, "Text/Calendar": false, "text/calendar; method=REPLY": false, " text/calendar": false, "text/calendar ": false, "text/plain": false, "a/calendar": false,
		"text//calendar": false, "calendar/text": false,
	} {
		if Is(k, text) != want {
			t.Errorf("Is(%q): %v", text, !want)
		}
	}
	if !Is(api.Kind{}, "/") || Is(api.Kind{}, "") {
		t.Errorf("Is of none")
	}
}

func TestReadExamples(t *testing.T) { // P8.2
	for s, want := range map[string]api.Kind{
		`Text/Calendar; METHOD="REPLY"`:             of("text", "calendar", "method", "REPLY"),
		"text/plain":                                of("text", "plain"),
		" \t TEXT/pLAIN \t ":                        of("text", "plain"),
		"text/plain;":                               of("text", "plain"),
		"text/plain \t ; \t ":                       of("text", "plain"),
		"a/b;c=d":                                   of("a", "b", "c", "d"),
		"a/b ;\tC=D":                                of("a", "b", "c", "D"),
		"a/b\t \t;\t \tc=d\t \t;\t \te=f\t;\t":      of("a", "b", "c", "d", "e", "f"),
		`a/b;c="";d=" "`:                            of("a", "b", "c", "", "d", " "),
		`a/b;c="x;y, z=\"1\"\\";d=e`:                of("a", "b", "c", `x;y, z="1"\`, "d", "e"),
		`a/b;c="\x\;\ \\\""`:                        of("a", "b", "c", `x; \"`),
		`a/b;c="X";`:                                of("a", "b", "c", "X"),
		`a/b;c="X" ;`:                               of("a", "b", "c", "X"),
		"a/b;c=" + some(64):                         of("a", "b", "c", some(64)),
		`a/b;c="` + some(64) + `"`:                  of("a", "b", "c", some(64)),
		`a/b;c="` + some(65) + `"`:                  of("a", "b", "c", some(65)),
		`a/b;c="` + some(256) + `"`:                 of("a", "b", "c", some(256)),
		`a/b;c="` + strings.Repeat(`\a`, 256) + `"`: of("a", "b", "c", some(256)),
		"A1/B-2.x+Y;!#$%&'*+-.^_\x60{|}~=!#$%&'*+-.^_\x60{|}~": of("a1", "b-2.x+y", "!#$%&'*+-.^_\x60{|}~", "!#$%&'*+-.^_\x60{|}~"),
	} {
		if k, e := Read(s); e != api.OK || !same(k, want) {
			t.Errorf("Read(%q): %q %v", s, k, e)
		}
		checkText(t, s)
	}
}

func TestReadWrong(t *testing.T) { // P8.2
	for _, s := range []string{
		"", " ", "\t", ";", "/", "a", "a/", "/b", "a//b", "a/b/c", "a /b", "a/ b", "a b", "a/b c", "a/b,", "a/b=c", "a;c=d", "a/;c=d", "/b;c=d",
		"a/b;;", "a/b; ;", "a/b;;c=d", "; a/b", "a/b;c=d;;", "a/b;c=d; ;", "a/b;c=d;;e=f", "a/b;c", "a/b;=d", "a/b;c=", "a/b;c=;", "a/b;c =d", "a/b;c= d", "a/b;c==d", "a/b;c=d=e", "a/b;c=d e", "a/b c=d",
		"a/b;c=d/e", "a/b;c=d,e", "a/b;c=[d]", "a/b;c:d", "a/b,c=d", `a/b;"c"=d`, `"a"/b`, `a/"b"`, "a/b\n", "\ra/b", "a/b;\nc=d", "a/b;\r\n c=d", "é/b", "a/é", "a/b;é=c", "a/b;c=é", `a/b;c="é"`, "a/b\u00a0",
		`a/b;c="`, `a/b;c="d`, `a/b;c="d\"`, `a/b;c="d\`, `a/b;c="d"e`, `a/b;c=d"e"`, `a/b;c="d""e"`, `a/b;c="d" "e"`, `a/b;c="d" e`, `a/b;c="d\\"e"`, `a/b;c=\d`, `a/b;c=d\;`, "a/b;c=\"\t\"", "a/b;c=\"\\\t\"", "a/b;c=\"\x7f\"", "a/b;c=\"\\\x00\"", "a/b;c=\"\\é\"",
		"a/b;c=1;c=2", "a/b;c=1;C=2", "a/b;C=1;c=1", "a/b;Cd=1;e=2;cD=3", "a/b;c=1;c=1;", "a/b(x)", "a/b;c=d(x)", "a/?", "a/*;c=?", "<a/b>", "a@b/c",
		some(65) + "/b", "a/" + some(65), "a/b;" + some(65) + "=c", "a/b;c=" + some(65), `a/b;c="` + some(257) + `"`, `a/b;c="` + strings.Repeat(`\"`, 257) + `"`,
	} {
		if k, e := Read(s); !none(k, e) {
			t.Errorf("Read(%q): %q %v", s, k, e)
		}
		checkText(t, s)
	}
}

func TestReadHowMany(t *testing.T) { // P8.2
	for _, n := range []int{0, 1, 15, 16, 17, 18, 100} {
		s := "a/b"
		for i := range n {
			s += ";N" + strconv.Itoa(i) + "=" + strconv.Itoa(i)
		}
		for _, end := range []string{"", ";", " ; ", "\t"} {
			k, e := Read(s + end)
			if n <= api.MaxParams && (e != api.OK || !same(k, of("a", "b", many(n)...))) {
				t.Errorf("Read of %d: %q %v", n, k, e)
			}
			if n > api.MaxParams && !none(k, e) {
				t.Errorf("Read of %d: %q %v", n, k, e)
			}
		}
		if k, e := Read(s + ";;"); !none(k, e) {
			t.Errorf("Read of %d and ;;: %q %v", n, k, e)
		}
	}
}

func TestReadAllShort(t *testing.T) { // P8.2, P8.4
	allTexts([]string{"a", "B", "/", ";", "=", " ", "\t", `"`}, 6, func(s string) { checkText(t, s) })
	allTexts([]string{"a", ";", "=", " ", "c=d", `"`, "C"}, 6, func(s string) { checkText(t, "a/b"+s) })
	allTexts([]string{"a", ";", `\`, `"`, " ", "\n"}, 6, func(s string) { checkText(t, "a/b;c="+s) })
	allTexts([]string{"a", ";", `\`, `"`, "=", "\x7f"}, 6, func(s string) { checkText(t, `a/b;c="`+s+`"`) })
}

func TestReadEveryByte(t *testing.T) { // P8.2
	for c := range 256 {
		b := string([]byte{byte(c)})
		for _, s := range []string{
			b + "a/b", "a" + b + "/b", "a/" + b + "b", "a/b" + b, "a" + b + "b", "a/b" + b + ";c=d", "a/b;" + b + "c=d", "a/b;c" + b + "=d", "a/b;c" + b + "d", "a/b;c=" + b + "d", "a/b;c=d" + b, "a/b;c=d" + b + ";e=f",
			`a/b;c="` + b + `"`, `a/b;c="d` + b + `e"`, `a/b;c="\` + b + `"`, `a/b;c="d"` + b, `a/b;c=` + b + `"d"`, `a/b;c="d"` + b + ";e=f",
		} {
			// The patterns speak of points, not of bytes.
			if c < 128 {
				checkText(t, s)
			} else if k, e := Read(s); !none(k, e) {
				t.Errorf("Read(%q): %q %v", s, k, e)
			}
		}
	}
}

// someKind is a kind that may be.
func someKind(r *rand.Rand) api.Kind {
	signs := strings.Split("abcdefghijklmnopqrstuvwxyz0123456789!#$%&'*+-.^_\x60{|}~", "")
	printable := strings.Split(strings.Join(signs, "")+"ABCXYZ"+` "\()<>@,;:/[]?=`, "")
	name := func() string { return someText(r, signs, 1+r.Intn(64)) }
	k := of(name(), name())
	for i := range r.Intn(api.MaxParams + 1) {
		n := (strconv.Itoa(i) + name())
		value := someText(r, signs, r.Intn(70))
		if r.Intn(2) == 0 {
			value = someText(r, printable, r.Intn(257))
		}
		k.Params = append(k.Params, api.Param{Name: n[:min(64, len(n))], Value: value})
	}
	return k
}

func TestThereAndBack(t *testing.T) { // P8.3
	r := rand.New(rand.NewSource(3))
	for range 3000 {
		k := someKind(r)
		if !Right(k) {
			t.Fatalf("%q may not be", k)
		}
		checkKind(t, k)
	}
	allTexts([]string{"a", `"`, `\`, " ", ";", "=", "B"}, 6, func(s string) { checkKind(t, of("a", "b", "c", s, "d", s)) })
}

func TestReadHoweverWritten(t *testing.T) { // P8.2, P8.4
	r := rand.New(rand.NewSource(4))
	blank := func() string { return someText(r, []string{" ", "\t"}, r.Intn(3)) }
	size := func(s string) string {
		if r.Intn(2) == 0 {
			return strings.ToUpper(s)
		}
		return s
	}
	for range 3000 {
		k := someKind(r)
		s := blank() + size(k.Type) + "/" + size(k.Sub) + blank()
		for _, p := range k.Params {
			s += ";" + blank() + size(p.Name) + "="
			if slowToken(p.Value) && r.Intn(2) == 0 {
				s += p.Value + blank()
				continue
			}
			s += `"`
			for _, c := range p.Value {
				if c == '"' || c == '\\' || r.Intn(3) == 0 {
					s += `\`
				}
				s += string(c)
			}
			s += `"` + blank()
		}
		if r.Intn(2) == 0 {
			s += ";" + blank()
		}
		if got, e := Read(s); e != api.OK || !same(got, k) {
			t.Fatalf("Read(%q): %q %v, not %q", s, got, e, k)
		}
		checkText(t, s)
	}
}

func TestLibraryReadsWhatIsWritten(t *testing.T) { // P8.1
	r := rand.New(rand.NewSource(5))
	for range 2000 {
		k := someKind(r)
		want := map[string]string{}
		for i := range k.Params {
			// A * has a meaning of its own for the library.
			k.Params[i].Name = strings.ReplaceAll(k.Params[i].Name, "*", "-")
			want[k.Params[i].Name] = k.Params[i].Value
		}
		s, _ := Write(k)
		kind, params, err := mime.ParseMediaType(s)
		if err != nil || !Is(k, kind) || !reflect.DeepEqual(params, want) {
			t.Fatalf("%q is read as %q %q, %v", s, kind, params, err)
		}
	}
}

func TestNothingIsChangedOrKept(t *testing.T) { // Rules 4 and 5
	all := of("a", "b", "c", "d", "e", "f g", "c", "x", "\n", "\n").Params
	k := api.Kind{Type: "a", Sub: "b", Params: all[:2]}
	if s, e := Write(k); s != `a/b; c=d; e="f g"` || e != api.OK || !Right(k) {
		t.Errorf("Write: %q %v", s, e)
	}
	if !slices.Equal(all, of("a", "b", "c", "d", "e", "f g", "c", "x", "\n", "\n").Params) {
		t.Errorf("changed: %q", all)
	}
	one, _ := Read("a/b;c=d")
	two, _ := Read("a/b;c=d")
	one.Params[0].Value = "x"
	if two.Params[0].Value != "d" {
		t.Errorf("two answers share memory")
	}
}

func TestLongTextsEnd(t *testing.T) { // P1
	for _, piece := range []string{`"`, `\`, ";", " ", "a", "/", "=", ";a=b", `;a="`, "a/b;", "\x00", "\xff", `\"`} {
		s := strings.Repeat(piece, api.MaxText/len(piece))
		for _, s := range []string{s, "a/b" + s, "a/b;c=" + s, `a/b;c="` + s, `a/b;c="` + s + `"`} {
			k, e := Read(s)
			if strings.HasPrefix(s, "a/b ") && piece == " " {
				if e != api.OK || !same(k, of("a", "b")) {
					t.Errorf("Read of many blanks: %q %v", k, e)
				}
			} else if !none(k, e) {
				t.Errorf("Read of many %q: %q %v", piece, k, e)
			}
		}
		for _, k := range []api.Kind{of(s, "a"), of("a", s), of("a", "b", s, "c"), of("a", "b", "c", s)} {
			if Right(k) {
				t.Errorf("Right of many %q", piece)
			}
		}
	}
	if Right(of("a", "b", many(100000)...)) {
		t.Errorf("Right of many parameters")
	}
}
