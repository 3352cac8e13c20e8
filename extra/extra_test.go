package extra

import (
	"math/rand"
	"net/url"
	"regexp"
	"slices"
	"strconv"
	"strings"
	"testing"
	"unicode/utf8"

	"posthorn/api"
	"posthorn/charset"
	"posthorn/kind"
)

// some is so many times a.
func some(n int) string { return strings.Repeat("a", n) }

// of is a kind a/b, with its parameters' Names and Values in turn.
func of(l ...string) api.Kind {
	k := api.Kind{Type: "a", Sub: "b"}
	for at := 0; at < len(l); at += 2 {
		k.Params = append(k.Params, api.Param{Name: l[at], Value: l[at+1]})
	}
	return k
}

// same tells whether kinds are alike, with lists that are nil or empty, too.
func same(a, b api.Kind) bool {
	return a.Type == b.Type && a.Sub == b.Sub && slices.Equal(a.Params, b.Params)
}

// empty tells whether nothing is answered beside an error.
func empty(k api.Kind) bool { return same(k, api.Kind{}) }

// joins asks what is made of parameters.
func joins(t testing.TB, k, want api.Kind) {
	t.Helper()
	kept := slices.Clone(k.Params)
	if got, e := Join(k); !same(got, want) || e != api.OK {
		t.Errorf("Join(%q): %q %v, not %q", k, got, e, want)
	}
	if !slices.Equal(k.Params, kept) {
		t.Errorf("Join(%q) changes it: it was %q", k.Params, kept)
	}
}

// noJoin asks why nothing is made of parameters.
func noJoin(t testing.TB, k api.Kind, code api.Errno) {
	t.Helper()
	if got, e := Join(k); !empty(got) || e != code {
		t.Errorf("Join(%q): %q %v, not %v", k, got, e, code)
	}
}

// splitsTo asks how parameters are split.
func splitsTo(t testing.TB, k, want api.Kind) {
	t.Helper()
	kept := slices.Clone(k.Params)
	if got, e := Split(k); !same(got, want) || e != api.OK {
		t.Errorf("Split(%q): %q %v, not %q", k, got, e, want)
	}
	if !slices.Equal(k.Params, kept) {
		t.Errorf("Split(%q) changes it: it was %q", k.Params, kept)
	}
}

// noSplit asks why parameters are not split.
func noSplit(t testing.TB, k api.Kind, code api.Errno) {
	t.Helper()
	if got, e := Split(k); !empty(got) || e != code {
		t.Errorf("Split(%.200q): %.200q %v, not %v", k, got, e, code)
	}
}

func TestExamples(t *testing.T) { // P19.2
	joins(t, of("name*0*", "utf-8''a%20", "name*1", "b"), of("name", "a b"))
	joins(t, of("name*1", "b", "name*0*", "utf-8''a%20"), of("name", "a b"))
}

func TestCodeOfEveryByte(t *testing.T) { // P19.1
	const plain = "ABCDEFGHIJKLMNOPQRSTUVWXYZabcdefghijklmnopqrstuvwxyz0123456789-._"
	const hex = "0123456789ABCDEF"
	for i := range 256 {
		c := string([]byte{byte(i)})
		want := "%" + hex[i/16:i/16+1] + hex[i%16:i%16+1]
		if strings.Contains(plain, c) {
			want = c
		}
		for _, around := range []string{"", "x", "é"} {
			if got := Code([]byte(around + c + "z")); got != strings.ReplaceAll(around, "é", "%C3%A9")+want+"z" {
				t.Errorf("Code(%q): %q, not %q", around+c+"z", got, want)
			}
		}
	}
	if Code(nil) != "" || Code([]byte{}) != "" {
		t.Error("Code of nothing")
	}
	b := []byte("a b")
	if Code(b[:1]) != "a" || string(b) != "a b" {
		t.Error("Code of a piece")
	}
}

func TestDecode(t *testing.T) { // P19.1
	for s, want := range map[string]string{
		"": "", "a": "a", "%20": " ", "%2f%2F%fA%Fa": "//\xfa\xfa", "%00%ff": "\x00\xff", "a%25b": "a%b", "%2525": "%25", "+": "+", " \x00\xff'\"é": " \x00\xff'\"é", "%0a1": "\n1", "*": "*", "a=b": "a=b",
	} {
		if got, e := Decode(s); string(got) != want || e != api.OK {
			t.Errorf("Decode(%q): %q %v, not %q", s, got, e, want)
		}
	}
	for _, s := range []string{"%", "%4", "a%", "a%2", "%%20", "%2%20", "%g0", "%0g", "%G0", "%0G", "% 1", "%1 ", "%-1", "%+1", "%0x", "%@1", "%`1", "%:1", "%/1", "%1:", "%1/", "%é", "%20%", "%20%2", "%zz%20", "%\x00\x00", "%١"} {
		if got, e := Decode(s); len(got) != 0 || e != api.ErrForm {
			t.Errorf("Decode(%q): %q %v", s, got, e)
		}
	}
	for i := range 256 * 256 {
		s := "%" + string([]byte{byte(i >> 8), byte(i)})
		n, wrong := strconv.ParseUint(s[1:], 16, 8)
		got, e := Decode(s)
		if wrong != nil && e != api.ErrForm || wrong == nil && (e != api.OK || string(got) != string([]byte{byte(n)})) {
			t.Errorf("Decode(%q): %q %v", s, got, e)
		}
	}
}

func TestCodeThereAndBack(t *testing.T) { // P19.5
	r := rand.New(rand.NewSource(1))
	for range 20000 {
		b := make([]byte, r.Intn(40))
		for i := range b {
			b[i] = byte(r.Intn(256))
		}
		s := Code(b)
		if got, e := Decode(s); string(got) != string(b) || e != api.OK {
			t.Fatalf("Decode(%q): %q %v, not %q", s, got, e, b)
		}
		if un, wrong := url.PathUnescape(s); wrong != nil || un != string(b) {
			t.Fatalf("Code(%q): %q", b, s)
		}
	}
}

func TestJoin(t *testing.T) { // P19.2
	joins(t, of(), of())
	joins(t, of("x", "y"), of("x", "y"))
	// One piece that is coded.
	joins(t, of("n*", "utf-8'en'%e2%82%ac%20r"), of("n", "€ r"))
	joins(t, of("n*", "'' "), of("n", " "))
	joins(t, of("n*", "''"), of("n", ""))
	joins(t, of("n*", "'any %zz * language\"'a"), of("n", "a"))
	joins(t, of("n*", "'''a'b"), of("n", "'a'b"))
	joins(t, of("n*", "''%27%00"), of("n", "'\x00"))
	joins(t, of("n*", "US-ascii''%7f"), of("n", "\x7f"))
	joins(t, of("n*", "LATIN1'de'%E9"), of("n", "é"))
	joins(t, of("n*", "windows-1252''%80"), of("n", "€"))
	joins(t, of("n*", "utf-16''%00a%20%AC"), of("n", "a€"))
	joins(t, of("n*", "utf-16le''a%00%ac%20"), of("n", "a€"))
	// Pieces that are not coded.
	joins(t, of("n*0", "a%20"), of("n", "a%20"))
	joins(t, of("n*0", ""), of("n", ""))
	joins(t, of("n*0", "utf-8''a", "n*1", "", "n*2", " b"), of("n", "utf-8''a b"))
	// Some that are, in any order.
	joins(t, of("n*2*", "%21'", "n*0*", "''%e2", "n*1*", "%82%ac"), of("n", "€!'"))
	joins(t, of("n*0*", "iso-8859-15'x'%a4", "n*1", "%a4", "n*2*", "%a4"), of("n", "€%a4€"))
	joins(t, of("n*0*", "utf-16be''%00", "n*1", "a", "n*2*", "%20", "n*3*", "%ac"), of("n", "a€"))
	joins(t, of("n*0*", "utf-16be''%D8%3D", "n*1*", "%DE%00"), of("n", "\U0001f600"))
	joins(t, of("n*0*", "''a", "n*1*", "utf-8''b"), of("n", "autf-8''b"))
	// In the place of the first piece; others stay where they are.
	joins(t, of("x", "1", "n*1", "b", "y", "2", "m*", "''c", "n*0", "a", "z", "3"), of("x", "1", "n", "ab", "y", "2", "m", "c", "z", "3"))
	joins(t, of("a*1", "1", "b*1", "3", "b*0", "2", "a*0", "0"), of("a", "01", "b", "23"))
	joins(t, of("aa*", "''1", "a*", "''2", "aaa", "3"), of("aa", "1", "a", "2", "aaa", "3"))
}

func TestJoinOfManyPieces(t *testing.T) { // P19.2
	var l []string
	want := ""
	for i := range api.MaxParams {
		at := api.MaxParams - 1 - i
		l = append(l, "n*"+strconv.Itoa(at), strings.Repeat(strconv.Itoa(at%10), 256))
		want += strings.Repeat(strconv.Itoa(i%10), 256)
	}
	joins(t, of(l...), of("n", want))
	noJoin(t, of(append(l, "n*16", "x")...), api.ErrKind)
	l[len(l)-2] = "n*99"
	noJoin(t, of(l...), api.ErrForm)
	l[len(l)-2] = "n*16"
	noJoin(t, of(l...), api.ErrForm)
}

func TestNoPieces(t *testing.T) { // P19.2, P19.6
	for _, name := range []string{"n", "n*100", "n*00", "n*01", "n*0a", "n*a", "n*-1", "n*+1", "n*1.", "n*0x1", "*a", "n*999999999999999999999", "n**a", "*00", "n*0*1a", "n*" + some(62), "n*1e1"} {
		joins(t, of(name, "''%41"), of(name, "''%41"))
	}
	for _, name := range []string{"n*1", "n*9", "n*10", "n*99", "n*1*", "n*99*"} {
		noJoin(t, of(name, "''a"), api.ErrForm)
	}
	// A base is what stands ahead of the last star and number, whatever it is.
	joins(t, of("n**", "''%41"), of("n*", "A"))
	joins(t, of("n*00*", "''%41"), of("n*00", "A"))
	joins(t, of("n*100*", "''%41"), of("n*100", "A"))
	joins(t, of("n*0*0", "a", "n*0*1", "b"), of("n*0", "ab"))
	joins(t, of("n*0**", "''%41"), of("n*0*", "A"))
}

func TestNotWhole(t *testing.T) { // P19.2
	for _, l := range [][]string{
		{"n*0", "a", "n*2", "b"},
		{"n*1", "a", "n*2", "b"},
		{"n*0", "a", "n*0*", "''b"},
		{"n*0", "a", "n*1", "b", "n*1*", "c"},
		{"n*0", "a", "n*1*", "b"},
		{"n*1*", "b", "n*0", "a"},
		{"n*0", "a", "n*1", "b", "n*2*", "c"},
		{"n*", "''a", "n*0", "b"},
		{"n*", "''a", "n*0*", "''b"},
		{"n*0*", "''b", "n*", "''a"},
		{"n*", "''a", "n*1*", "b"},
		{"n*0", "a", "n*1", "b", "n*99", "c"},
		// The base is empty.
		{"*", "''a"}, {"*0", "a"}, {"*0*", "''a"}, {"*0", "a", "*1", "b"}, {"x", "y", "*", "''a"},
		// The parameter is there as well.
		{"n", "a", "n*", "''a"}, {"n*", "''a", "n", "a"}, {"n*0", "a", "n", "b", "n*1", "c"}, {"n*0", "a", "n*1", "c", "n", "a"},
		{"n**", "''a", "n*", "''b"},
		// What is coded can't be read.
		{"n*", "''%"}, {"n*", "''%4"}, {"n*", "''%g0"}, {"n*", "''%%41"}, {"n*0*", "''%4", "n*1", "1"}, {"n*0*", "''%", "n*1*", "41"}, {"n*0*", "''a", "n*1*", "%"}, {"n*0*", "''a", "n*1", "%41", "n*2*", "%4"},
		// There is no set's name, or no language.
		{"n*", ""}, {"n*", "a"}, {"n*", "'"}, {"n*", "utf-8'a"}, {"n*", "utf-8%27%27a"}, {"n*0*", "utf-8'", "n*1*", "'a"}, {"n*0*", "", "n*1*", "''a"},
		// The set is none, or its text can't be read.
		{"n*", "utf-9''a"}, {"n*", " utf-8''a"}, {"n*", "utf%2D8''a"}, {"n*", "utf-9''"},
		{"n*", "''%80"}, {"n*", "utf-8''%e2%82"}, {"n*", "us-ascii''%80"}, {"n*", "windows-1252''%81"}, {"n*", "utf-16''a"}, {"n*", "utf-16be''%d8%00"}, {"n*0*", "''%e2%82", "n*1", "b"}, {"n*0*", "utf-16be''%00", "n*1", "ab"},
		// One base is whole, and another one is not.
		{"m*", "''a", "n*1", "b"}, {"n*1", "b", "m*", "''a"}, {"x", "y", "m*0", "a", "n*", "a"},
	} {
		noJoin(t, of(l...), api.ErrForm)
	}
}

func TestJoinOfNoKind(t *testing.T) { // P19.2
	many := of()
	for i := range api.MaxParams + 1 {
		many.Params = append(many.Params, api.Param{Name: "n" + strconv.Itoa(i)})
	}
	noJoin(t, many, api.ErrKind)
	noJoin(t, api.Kind{}, api.ErrKind)
	noJoin(t, api.Kind{Type: "A", Sub: "b"}, api.ErrKind)
	noJoin(t, api.Kind{Type: "a"}, api.ErrKind)
	for _, l := range [][]string{{"", "x"}, {"N*", "''a"}, {"n*", "''é"}, {"n*", "''\n"}, {"n*0", some(257)}, {some(64) + "*", "''a"}, {"n*0", "a", "n*0", "b"}, {"n*1", "a", "n*1", "a"}, {"n*0 ", "a"}, {"n*=", "a"}, {"x", "\x7f"}} {
		noJoin(t, of(l...), api.ErrKind)
	}
	// A base of 63 bytes, and Values of 256, are none too long.
	joins(t, of(some(63)+"*", "''a"), of(some(63), "a"))
	joins(t, of("n*", "''"+some(254)), of("n", some(254)))
}

// numbered is a Name with a number, without a star behind it; coded is a first coded Value.
var (
	numbered = regexp.MustCompile(`^(.*)\*(0|[1-9][0-9]?)$`)
	coded    = regexp.MustCompile(`^([^']*)'[^']*'(.*)$`)
)

// slowJoin is Join by another way: each base for itself, by its pieces in the order of their numbers.
func slowJoin(k api.Kind) (api.Kind, api.Errno) {
	if !kind.Right(k) {
		return api.Kind{}, api.ErrKind
	}
	type bit struct {
		number int
		coded  bool
		value  string
	}
	bits := map[string][]bit{}
	base := func(name string) (string, bit, bool) {
		star := strings.HasSuffix(name, "*")
		bare := strings.TrimSuffix(name, "*")
		if m := numbered.FindStringSubmatch(bare); m != nil {
			n, _ := strconv.Atoi(m[2])
			return m[1], bit{number: n, coded: star}, true
		}
		return bare, bit{number: -1, coded: true}, star
	}
	for _, p := range k.Params {
		if b, one, is := base(p.Name); is {
			one.value = p.Value
			bits[b] = append(bits[b], one)
		}
	}
	texts := map[string]string{}
	for b, l := range bits {
		slices.SortFunc(l, func(x, y bit) int { return x.number - y.number })
		raw, set := "", "utf-8"
		for i, one := range l {
			if one.number != i && (one.number != -1 || len(l) != 1) || one.coded && !l[0].coded {
				return api.Kind{}, api.ErrForm
			}
			v := one.value
			if one.coded {
				if i == 0 {
					m := coded.FindStringSubmatch(v)
					if m == nil {
						return api.Kind{}, api.ErrForm
					}
					if m[1] != "" {
						set = m[1]
					}
					v = m[2]
				}
				plain, wrong := url.PathUnescape(v)
				if wrong != nil {
					return api.Kind{}, api.ErrForm
				}
				v = plain
			}
			raw += v
		}
		text, f := charset.Decode(set, []byte(raw))
		if _, twice := kind.Get(k, b); twice || b == "" || f.Code != api.OK {
			return api.Kind{}, api.ErrForm
		}
		texts[b] = string(text)
	}
	out := api.Kind{Type: k.Type, Sub: k.Sub}
	for _, p := range k.Params {
		b, _, is := base(p.Name)
		if !is {
			out.Params = append(out.Params, p)
		} else if text, there := texts[b]; there {
			out.Params = append(out.Params, api.Param{Name: b, Value: text})
			delete(texts, b)
		}
	}
	return out, api.OK
}

func TestJoinAsSlowly(t *testing.T) { // P19.2
	r := rand.New(rand.NewSource(2))
	bases := []string{"n", "n", "n", "m", "n*", "n*0", ""}
	ends := []string{"", "*", "*0", "*0*", "*0*", "*1", "*1*", "*1*", "*2", "*2*", "*3", "*01", "*99", "**"}
	values := []string{"''a", "utf-8'en'%c3%a9", "utf-8''%c3", "%a9", "x", "", "latin1''%e9", "%e9", "%4", "utf-16''%00x", "'", "nope''x", "é"}
	good := 0
	for range 300000 {
		var l []string
		if r.Intn(2) == 0 {
			for range r.Intn(5) {
				l = append(l, bases[r.Intn(len(bases))]+ends[r.Intn(len(ends))], values[r.Intn(len(values))])
			}
		} else {
			// Whole ones, in some order.
			n := 1 + r.Intn(4)
			for _, i := range r.Perm(n) {
				v, end := values[r.Intn(len(values))], ""
				if r.Intn(2) == 0 {
					end = "*"
				}
				if i == 0 && r.Intn(3) > 0 {
					v, end = values[r.Intn(2)], "*"
				}
				l = append(l, "n*"+strconv.Itoa(i)+end, v)
				if r.Intn(4) == 0 {
					l = append(l, "x"+strconv.Itoa(i), "y")
				}
			}
		}
		k := of(l...)
		want, code := slowJoin(k)
		if code == api.OK && len(l) > 2 {
			good++
		}
		if got, e := Join(k); !same(got, want) || e != code {
			t.Fatalf("Join(%q): %q %v, not %q %v", k.Params, got.Params, e, want.Params, code)
		}
	}
	if good < 5000 {
		t.Errorf("just %d are whole", good)
	}
}

func TestSplit(t *testing.T) { // P19.3
	splitsTo(t, of(), of())
	// What stands as it is.
	for _, v := range []string{"", "a", " ~", "%41'*", some(60), strings.Repeat("\"", 60)} {
		splitsTo(t, of("n", v), of("n", v))
	}
	// One piece: of at most 60 bytes, with the set's name.
	splitsTo(t, of("n", "é"), of("n*", "utf-8''%C3%A9"))
	splitsTo(t, of("n", "\x1f"), of("n*", "utf-8''%1F"))
	splitsTo(t, of("n", "\x7f"), of("n*", "utf-8''%7F"))
	splitsTo(t, of("n", "a b\t'*%"), of("n*", "utf-8''a%20b%09%27%2A%25"))
	splitsTo(t, of("n", "\x00-._"), of("n*", "utf-8''%00-._"))
	splitsTo(t, of("n", some(50)+"\n"), of("n*", "utf-8''"+some(50)+"%0A"))
	splitsTo(t, of("n", some(47)+"é"), of("n*", "utf-8''"+some(47)+"%C3%A9"))
	splitsTo(t, of("n", some(41)+"😀"), of("n*", "utf-8''"+some(41)+"%F0%9F%98%80"))
	// More pieces: of at most 45 bytes of code each.
	splitsTo(t, of("n", some(61)), of("n*0*", "utf-8''"+some(45), "n*1*", some(16)))
	splitsTo(t, of("n", some(90)), of("n*0*", "utf-8''"+some(45), "n*1*", some(45)))
	splitsTo(t, of("n", some(91)), of("n*0*", "utf-8''"+some(45), "n*1*", some(45), "n*2*", "a"))
	splitsTo(t, of("n", some(51)+"\n"), of("n*0*", "utf-8''"+some(45), "n*1*", some(6)+"%0A"))
	splitsTo(t, of("n", some(48)+"é"), of("n*0*", "utf-8''"+some(45), "n*1*", "aaa%C3%A9"))
	splitsTo(t, of("n", some(40)+"é"+some(10)), of("n*0*", "utf-8''"+some(40), "n*1*", "%C3%A9"+some(10)))
	splitsTo(t, of("n", some(39)+"é"+some(10)), of("n*0*", "utf-8''"+some(39)+"%C3%A9", "n*1*", some(10)))
	splitsTo(t, of("n", some(43)+" "+some(20)), of("n*0*", "utf-8''"+some(43), "n*1*", "%20"+some(20)))
	splitsTo(t, of("n", some(42)+" "+some(20)), of("n*0*", "utf-8''"+some(42)+"%20", "n*1*", some(20)))
	splitsTo(t, of("n", strings.Repeat("😀", 7)), of("n*0*", "utf-8''"+strings.Repeat("%F0%9F%98%80", 3), "n*1*", strings.Repeat("%F0%9F%98%80", 3), "n*2*", "%F0%9F%98%80"))
	splitsTo(t, of("n", strings.Repeat("€", 6)), of("n*0*", "utf-8''"+strings.Repeat("%E2%82%AC", 5), "n*1*", "%E2%82%AC"))
	// Each one for itself, in its place.
	splitsTo(t, of("x", "1", "n", "é", "y", some(61), "z", ""), of("x", "1", "n*", "utf-8''%C3%A9", "y*0*", "utf-8''"+some(45), "y*1*", some(16), "z", ""))
}

func TestSplitAtLimits(t *testing.T) { // P19.3
	// A hundred pieces, and one more.
	k := of("n", strings.Repeat("\n", 1500))
	got, e := Split(k)
	if e != api.OK || len(got.Params) != 100 || got.Params[99] != (api.Param{Name: "n*99*", Value: strings.Repeat("%0A", 15)}) {
		t.Errorf("a hundred pieces: %d %v", len(got.Params), e)
	}
	noSplit(t, of("n", strings.Repeat("\n", 1501)), api.ErrForm)
	noSplit(t, of("n", strings.Repeat("😀", 301)), api.ErrForm)
	if got, e := Split(of("n", strings.Repeat("😀", 300))); e != api.OK || len(got.Params) != 100 {
		t.Errorf("three hundred points: %d %v", len(got.Params), e)
	}
	noSplit(t, of("n", strings.Repeat("\n", 2048)), api.ErrForm)
	if got, e := Split(of("n", some(2048))); e != api.OK || len(got.Params) != 46 || got.Params[45].Value != some(2048-45*45) {
		t.Errorf("2048 bytes: %d %v", len(got.Params), e)
	}
	// More bytes than may be, and ones that are not valid, are told as no kind, ahead of the rest.
	noSplit(t, of("n", some(2049)), api.ErrKind)
	noSplit(t, of("n", strings.Repeat("\n", 2049)), api.ErrKind)
	for _, v := range []string{"\xff", "a\xc3", "\xed\xa0\x80", "é\x80", "\xc0\x80", some(61) + "\xe2\x82"} {
		noSplit(t, of("n", v), api.ErrKind)
		noSplit(t, of(some(64), "é", "x", v), api.ErrKind)
	}
	// Names: of 60 bytes at most, where the Value is in pieces.
	splitsTo(t, of(some(60), "é"), of(some(60)+"*", "utf-8''%C3%A9"))
	splitsTo(t, of(some(60), some(61)), of(some(60)+"*0*", "utf-8''"+some(45), some(60)+"*1*", some(16)))
	noSplit(t, of(some(61), "é"), api.ErrForm)
	noSplit(t, of(some(61), some(61)), api.ErrForm)
	noSplit(t, of("n", "é", some(61), some(61)), api.ErrForm)
	splitsTo(t, of(some(64), some(60)), of(some(64), some(60)))
	noSplit(t, of(some(65), "a"), api.ErrKind)
	// As many parameters as may be: more may come of them, and none may be given.
	var l, want []string
	for i := range api.MaxParams {
		l = append(l, "n"+strconv.Itoa(i), some(61))
		want = append(want, "n"+strconv.Itoa(i)+"*0*", "utf-8''"+some(45), "n"+strconv.Itoa(i)+"*1*", some(16))
	}
	splitsTo(t, of(l...), of(want...))
	noSplit(t, of(append(l, "x", "y")...), api.ErrKind)
}

func TestSplitOfNoKind(t *testing.T) { // P19.3
	noSplit(t, api.Kind{}, api.ErrKind)
	noSplit(t, api.Kind{Type: "a", Sub: "B"}, api.ErrKind)
	noSplit(t, of("", "a"), api.ErrKind)
	noSplit(t, of("N", "é"), api.ErrKind)
	noSplit(t, of("n", "a", "n", "b"), api.ErrKind)
	noSplit(t, of("n é", "a"), api.ErrKind)
}

// someValue is a valid text of some sort.
func someValue(r *rand.Rand) string {
	from := []string{"a", "a", "a", "Z9-._", " ", "%41", "'", "*", "\"", "é", "€", "😀", "\x00", "\x7f", "\n"}
	if r.Intn(2) == 0 {
		from = from[:1+r.Intn(len(from))]
	}
	var s strings.Builder
	for range r.Intn(1 << r.Intn(9)) {
		s.WriteString(from[r.Intn(len(from))])
	}
	return s.String()
}

func TestSplitAndJoined(t *testing.T) { // P19.4, P19.3
	r := rand.New(rand.NewSource(3))
	names := []string{"n", "m", "name", "a-b", "n0", "0", "n.1"}
	may, parted := 0, 0
	for range 50000 {
		k := of()
		for _, i := range r.Perm(len(names))[:r.Intn(4)] {
			k.Params = append(k.Params, api.Param{Name: names[i], Value: someValue(r)})
		}
		s, e := Split(k)
		if e != api.OK {
			continue
		}
		for _, p := range s.Params {
			if len(p.Value) > 60 || !slices.Contains(k.Params, p) && strings.ContainsFunc(p.Value, func(c rune) bool {
				return !strings.ContainsRune("abcdefghijklmnopqrstuvwxyzABCDEFZ0123456789-._%'", c)
			}) {
				t.Fatalf("Split(%q): %q", k.Params, p)
			}
			// Each piece is points by itself.
			if _, behind, coded := strings.Cut(p.Name, "*"); coded {
				b, _ := Decode(strings.TrimPrefix(p.Value, "utf-8''"))
				if !utf8.Valid(b) || behind != "" && len(strings.TrimPrefix(p.Value, "utf-8''")) > 45 {
					t.Fatalf("Split(%q): the piece %q", k.Params, p)
				}
			}
		}
		if !kind.Right(s) {
			continue
		}
		may++
		if len(s.Params) > len(k.Params) {
			parted++
		}
		joins(t, s, k)
		text, e := kind.Write(s)
		read, f := kind.Read(text)
		if e != api.OK || f != api.OK || !same(read, s) {
			t.Fatalf("%q is written %q", s, text)
		}
	}
	if may < 10000 || parted < 3000 {
		t.Errorf("just %d may be, %d of them parted", may, parted)
	}
	// A Name that is a piece's is joined behind it, too, if its Value is parted.
	for _, name := range []string{"n*", "n*0", "n*0*", "*", "*0"} {
		k := of(name, "é"+some(70))
		s, e := Split(k)
		if e != api.OK || !kind.Right(s) {
			t.Fatalf("Split(%q): %q %v", k, s, e)
		}
		joins(t, s, k)
	}
}

func TestWithoutStars(t *testing.T) { // P19.6
	r := rand.New(rand.NewSource(4))
	for range 20000 {
		k := api.Kind{Type: "text", Sub: "calendar"}
		for i := range r.Intn(api.MaxParams + 1) {
			k.Params = append(k.Params, api.Param{Name: "n" + strconv.Itoa(i), Value: []string{"", "''a", "%4", "utf-8''%c3%a9", "x y", some(256)}[r.Intn(6)]})
		}
		joins(t, k, k)
	}
}

func TestNewMemory(t *testing.T) { // DOC: what is handed out is new memory
	room := append(make([]api.Param, 0, 8), api.Param{Name: "x", Value: "y"})
	k := api.Kind{Type: "a", Sub: "b", Params: room}
	for _, call := range []func(api.Kind) (api.Kind, api.Errno){Join, Split} {
		got, e := call(k)
		if e != api.OK || !same(got, k) {
			t.Fatalf("%q %v", got, e)
		}
		got.Params[0].Value = "z"
		if k.Params[0].Value != "y" || room[:2][1] != (api.Param{}) {
			t.Error("what is answered is what was given")
		}
	}
}

func TestNeverPanics(t *testing.T) { // P1
	r := rand.New(rand.NewSource(5))
	from := []string{"", "a", "*", "0", "1", "99", "'", "%", "utf-8", "\xff", "é", "\x00", "*0*", "''", "%00", some(60), some(300)}
	text := func() string {
		s := ""
		for range r.Intn(6) {
			s += from[r.Intn(len(from))]
		}
		return s
	}
	for range 100000 {
		k := api.Kind{Type: "a", Sub: "b"}
		if r.Intn(8) == 0 {
			k.Type, k.Sub = text(), text()
		}
		for range r.Intn(5) {
			k.Params = append(k.Params, api.Param{Name: text(), Value: text()})
		}
		for _, call := range []func(api.Kind) (api.Kind, api.Errno){Join, Split} {
			if got, e := call(k); e != api.OK && (!empty(got) || e != api.ErrKind && e != api.ErrForm) {
				t.Fatalf("%q: %q %v", k, got, e)
			}
		}
	}
	huge := api.Kind{Type: "a", Sub: "b", Params: make([]api.Param, 1<<20)}
	noJoin(t, huge, api.ErrKind)
	noSplit(t, huge, api.ErrKind)
	noSplit(t, of("n", strings.Repeat("é", 1<<20)), api.ErrKind)
}
