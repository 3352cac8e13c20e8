package utf

import (
	"bytes"
	"cmp"
	"math"
	"math/rand"
	"slices"
	"testing"
	"unicode/utf8"

	"posthorn/api"
)

func fault(at int, e api.Errno) api.Fault { return api.Fault{At: at, Code: e} }

const last = 1114111

// isPoint tells it by the document's words.
func isPoint(p int32) bool { return p >= 0 && p <= last && !(p >= 55296 && p <= 57343) }

// noPoints are numbers beside and beyond the limits.
func noPoints() []int32 {
	return []int32{-1, -128, math.MinInt32, 55296, 55297, 56320, 57342, 57343, last + 1, last + 2, 2097151, 2097152, math.MaxInt32}
}

// edges are the least and the greatest points of each size, and those beside the gap.
func edges() []int32 {
	return []int32{0, 1, 127, 128, 2047, 2048, 55295, 57344, 65533, 65535, 65536, last - 1, last}
}

// somePoints is n points of all sizes.
func somePoints(r *rand.Rand, n int) []int32 {
	l := []int32{}
	for len(l) < n {
		p := r.Int31n([]int32{128, 2048, 65536, last + 1}[r.Intn(4)])
		if r.Intn(8) == 0 {
			p = edges()[r.Intn(len(edges()))]
		}
		if isPoint(p) {
			l = append(l, p)
		}
	}
	return l
}

func TestPutExamples(t *testing.T) { // P2.1
	for _, c := range []struct {
		p    int32
		want []byte
	}{
		{0, []byte{0}},
		{127, []byte{127}},
		{128, []byte{194, 128}},
		{2047, []byte{223, 191}},
		{2048, []byte{224, 160, 128}},
		{8364, []byte{226, 130, 172}},
		{55295, []byte{237, 159, 191}},
		{57344, []byte{238, 128, 128}},
		{65535, []byte{239, 191, 191}},
		{65536, []byte{240, 144, 128, 128}},
		{last, []byte{244, 143, 191, 191}},
	} {
		if b, e := Put(c.p); !bytes.Equal(b, c.want) || e != api.OK {
			t.Errorf("Put(%d): %v %v, want %v", c.p, b, e, c.want)
		}
	}
	for _, p := range noPoints() {
		if b, e := Put(p); len(b) != 0 || e != api.ErrUtf {
			t.Errorf("Put(%d): %v %v", p, b, e)
		}
	}
}

func TestEveryPoint(t *testing.T) { // P2.1, P2.4, P2.5
	var ahead []byte
	for p := int32(-1000); p <= last+70000; p++ {
		b, e := Put(p)
		if !isPoint(p) {
			if len(b) != 0 || e != api.ErrUtf {
				t.Fatalf("Put(%d): %v %v", p, b, e)
			}
			continue
		}
		if want := utf8.AppendRune(nil, p); e != api.OK || !bytes.Equal(b, want) {
			t.Fatalf("Put(%d): %v %v, want %v", p, b, e, want)
		}
		if q, n, e := Next(b); q != p || n != len(b) || e != api.OK {
			t.Fatalf("Next(%v): %d %d %v, want %d", b, q, n, e, p)
		}
		if p > 0 && bytes.Compare(ahead, b) >= 0 {
			t.Fatalf("the bytes of %d are not behind those of the point ahead: %v, %v", p, b, ahead)
		}
		ahead = b
	}
}

// asTold holds Next against the library's reader.
func asTold(t *testing.T, b []byte) {
	p, n, e := Next(b)
	r, size := utf8.DecodeRune(b)
	switch {
	case len(b) == 0:
		if p != 0 || n != 0 || e != api.ErrShort {
			t.Fatalf("Next of nothing: %d %d %v", p, n, e)
		}
	case r == utf8.RuneError && size == 1:
		if p != 0 || n != 0 || e != api.ErrUtf {
			t.Fatalf("Next(%v): %d %d %v", b, p, n, e)
		}
	case p != r || n != size || e != api.OK:
		t.Fatalf("Next(%v): %d %d %v, want %d %d", b, p, n, e, r, size)
	}
}

func TestNextExamples(t *testing.T) { // P2.1
	for _, c := range []struct {
		in string
		p  int32
		n  int
		e  api.Errno
	}{
		{"", 0, 0, api.ErrShort},
		{"a", 'a', 1, api.OK},
		{"\x00", 0, 1, api.OK},
		{"ab\xff", 'a', 1, api.OK},
		{"\xe2\x82\xacx", 8364, 3, api.OK},
		{"\xef\xbf\xbd", 65533, 3, api.OK},
		{"\xc0\x80", 0, 0, api.ErrUtf},
		{"\xc1\xbf", 0, 0, api.ErrUtf},
		{"\xe0\x9f\xbf", 0, 0, api.ErrUtf},
		{"\xf0\x8f\xbf\xbf", 0, 0, api.ErrUtf},
		{"\xed\xa0\x80", 0, 0, api.ErrUtf},
		{"\xed\xbf\xbf", 0, 0, api.ErrUtf},
		{"\xf4\x90\x80\x80", 0, 0, api.ErrUtf},
		{"\xf7\xbf\xbf\xbf", 0, 0, api.ErrUtf},
		{"\xf8\x88\x80\x80\x80", 0, 0, api.ErrUtf},
		{"\xfe", 0, 0, api.ErrUtf},
		{"\xff", 0, 0, api.ErrUtf},
		{"\x80", 0, 0, api.ErrUtf},
		{"\xbf\x80", 0, 0, api.ErrUtf},
		{"\xe2", 0, 0, api.ErrUtf},
		{"\xe2\x82", 0, 0, api.ErrUtf},
		{"\xe2\x82a", 0, 0, api.ErrUtf},
		{"\xe2a\xac", 0, 0, api.ErrUtf},
		{"\xf0\x90\x80", 0, 0, api.ErrUtf},
		{"\xf0\x90\x80\xc0", 0, 0, api.ErrUtf},
	} {
		if p, n, e := Next([]byte(c.in)); p != c.p || n != c.n || e != c.e {
			t.Errorf("Next(%q): %d %d %v, want %d %d %v", c.in, p, n, e, c.p, c.n, c.e)
		}
	}
	if p, n, e := Next(nil); p != 0 || n != 0 || e != api.ErrShort {
		t.Errorf("Next of nil: %d %d %v", p, n, e)
	}
}

// edgeBytes are the bytes at which what a byte may be changes.
func edgeBytes() []byte {
	return []byte{0, 127, 128, 143, 144, 159, 160, 191, 192, 193, 194, 223, 224, 225, 237, 239, 240, 241, 244, 245, 247, 248, 255}
}

func TestNextOfAllFronts(t *testing.T) { // P2.1, P2.4
	asTold(t, nil)
	for a := range 256 {
		asTold(t, []byte{byte(a)})
		for b := range 256 {
			asTold(t, []byte{byte(a), byte(b)})
			for _, c := range edgeBytes() {
				asTold(t, []byte{byte(a), byte(b), c})
				for _, d := range edgeBytes() {
					asTold(t, []byte{byte(a), byte(b), c, d})
				}
			}
		}
	}
}

// slowPoints is Points by the library's reader.
func slowPoints(b []byte) ([]int32, api.Fault) {
	l := []int32{}
	for at := 0; at < len(b); {
		p, n := utf8.DecodeRune(b[at:])
		if p == utf8.RuneError && n == 1 {
			return nil, fault(at, api.ErrUtf)
		}
		l = append(l, p)
		at += n
	}
	return l, api.Fault{}
}

func TestPointsExamples(t *testing.T) { // P2.2
	for _, c := range []struct {
		in   string
		want []int32
		f    api.Fault
	}{
		{"", nil, api.Fault{}},
		{"ab", []int32{97, 98}, api.Fault{}},
		{"a\xc3\xa9\xe2\x82\xac\xf0\x90\x80\x80", []int32{97, 233, 8364, 65536}, api.Fault{}},
		{"\x80", nil, fault(0, api.ErrUtf)},
		{"a\x80", nil, fault(1, api.ErrUtf)},
		{"\xc3\xa9\xc3", nil, fault(2, api.ErrUtf)},
		{"\xe2\x82\xac\xe2\x82", nil, fault(3, api.ErrUtf)},
		{"ab\xc0\x80\xff", nil, fault(2, api.ErrUtf)},
		{"\xed\xa0\x80\xed\xb0\x80", nil, fault(0, api.ErrUtf)},
	} {
		if l, f := Points([]byte(c.in)); !slices.Equal(l, c.want) || f != c.f {
			t.Errorf("Points(%q): %v %v, want %v %v", c.in, l, f, c.want, c.f)
		}
		if v := Valid([]byte(c.in)); v != (c.f == api.Fault{}) {
			t.Errorf("Valid(%q): %v", c.in, v)
		}
	}
}

func TestTextExamples(t *testing.T) { // P2.2
	for _, c := range []struct {
		in   []int32
		want string
		f    api.Fault
	}{
		{nil, "", api.Fault{}},
		{[]int32{97, 233, 8364, 65536}, "a\xc3\xa9\xe2\x82\xac\xf0\x90\x80\x80", api.Fault{}},
		{[]int32{-1}, "", fault(0, api.ErrUtf)},
		// The place is one in the list, not in the bytes.
		{[]int32{8364, 8364, 55296, -1}, "", fault(2, api.ErrUtf)},
		{[]int32{0, last, last + 1}, "", fault(2, api.ErrUtf)},
	} {
		if b, f := Text(c.in); string(b) != c.want || f != c.f {
			t.Errorf("Text(%v): %q %v, want %q %v", c.in, b, f, c.want, c.f)
		}
	}
	for _, p := range noPoints() {
		if b, f := Text([]int32{97, p, 98}); len(b) != 0 || f != fault(1, api.ErrUtf) {
			t.Errorf("Text with %d: %q %v", p, b, f)
		}
	}
}

// TestThereAndBack writes points, and reads them, and turns a byte of them.
func TestThereAndBack(t *testing.T) { // P2.2, P2.4
	r := rand.New(rand.NewSource(1))
	for range 5000 {
		l := somePoints(r, r.Intn(20))
		was := slices.Clone(l)
		b, f := Text(l)
		if string(b) != string([]rune(l)) || f != (api.Fault{}) || !slices.Equal(l, was) {
			t.Fatalf("Text(%v): %q %v", was, b, f)
		}
		if back, f := Points(b); !slices.Equal(back, l) || f != (api.Fault{}) {
			t.Fatalf("Points(%v): %v %v, want %v", b, back, f, l)
		}
		if !Valid(b) {
			t.Fatalf("Valid(%v) is false", b)
		}
		if len(b) == 0 {
			continue
		}
		b[r.Intn(len(b))] = edgeBytes()[r.Intn(len(edgeBytes()))]
		readAsTold(t, b[:r.Intn(len(b)+1)])
	}
}

func readAsTold(t *testing.T, b []byte) {
	t.Helper()
	was := bytes.Clone(b)
	l, f := Points(b)
	want, fw := slowPoints(b)
	if !slices.Equal(l, want) || f != fw {
		t.Fatalf("Points(%v): %v %v, want %v %v", b, l, f, want, fw)
	}
	if v := Valid(b); v != utf8.Valid(b) {
		t.Fatalf("Valid(%v): %v", b, v)
	}
	if !bytes.Equal(b, was) {
		t.Fatalf("bytes were changed: %v, were %v", b, was)
	}
	if f.Code == api.OK { // one way alone
		if again, f := Text(l); !bytes.Equal(again, b) || f != (api.Fault{}) {
			t.Fatalf("Text of Points(%v): %v %v", b, again, f)
		}
	}
}

func TestPointsOfAnyBytes(t *testing.T) { // P2.2, P2.4
	r := rand.New(rand.NewSource(2))
	for range 50000 {
		b := make([]byte, r.Intn(9))
		for i := range b {
			b[i] = edgeBytes()[r.Intn(len(edgeBytes()))]
		}
		readAsTold(t, b)
	}
}

func TestOrder(t *testing.T) { // P2.5
	r := rand.New(rand.NewSource(3))
	for range 20000 {
		a, b := somePoints(r, r.Intn(4)), somePoints(r, r.Intn(4))
		if r.Intn(2) == 0 && len(a) > 0 {
			b = append(slices.Clone(a[:r.Intn(len(a)+1)]), b...)
		}
		x, _ := Text(a)
		y, _ := Text(b)
		if bytes.Compare(x, y) != slices.CompareFunc(a, b, cmp.Compare[int32]) {
			t.Fatalf("%v and %v have bytes in another order", a, b)
		}
	}
}

func TestCutExamples(t *testing.T) { // P2.3
	for _, c := range []struct {
		in         string
		most, want int
	}{
		{"", 0, 0},
		{"", 5, 0},
		{"", -1, 0},
		{"abc", 0, 0},
		{"abc", 2, 2},
		{"abc", 3, 3},
		{"abc", 4, 3},
		{"abc", math.MaxInt, 3},
		{"abc", -1, 0},
		{"abc", math.MinInt, 0},
		{"\xe2\x82\xac", 0, 0},
		{"\xe2\x82\xac", 1, 0},
		{"\xe2\x82\xac", 2, 0},
		{"\xe2\x82\xac", 3, 3},
		{"\xe2\x82\xac", 4, 3},
		{"\xe2\x82\xac", -7, 0},
		{"a\xf0\x90\x80\x80b", 4, 1},
		{"a\xf0\x90\x80\x80b", 5, 5},
		{"a\xf0\x90\x80\x80b", 6, 6},
		// Of bytes that are not valid, wherever the fault is, no byte is given away.
		{"\xe2\x82", 1, 1},
		{"\xe2\x82", 2, 2},
		{"\xe2\x82", 9, 2},
		{"\xe2\x82", -1, 0},
		{"\xe2\x82", math.MinInt, 0},
		{"\x80\x80\x80", 2, 2},
		{"\x80", 0, 0},
		{"\xe2\x82\xac\xff", 1, 1},
		{"\xe2\x82\xac\xff", 2, 2},
		{"\xff\xe2\x82\xac", 3, 3},
	} {
		if n := Cut([]byte(c.in), c.most); n != c.want {
			t.Errorf("Cut(%q, %d): %d, want %d", c.in, c.most, n, c.want)
		}
	}
	if n := Cut(nil, 3); n != 0 {
		t.Errorf("Cut of nil: %d", n)
	}
}

// slowCut tries all places from above.
func slowCut(b []byte, most int) int {
	for n := min(most, len(b)); n >= 0; n-- {
		if !utf8.Valid(b) || utf8.Valid(b[:n]) {
			return n
		}
	}
	return 0
}

func TestCutEverywhere(t *testing.T) { // P2.3, P2.6
	r := rand.New(rand.NewSource(4))
	for range 3000 {
		b, _ := Text(somePoints(r, r.Intn(8)))
		valid := true
		if len(b) > 0 && r.Intn(4) == 0 {
			b[r.Intn(len(b))] = edgeBytes()[r.Intn(len(edgeBytes()))]
			valid = utf8.Valid(b)
		}
		for most := -2; most <= len(b)+5; most++ {
			n := Cut(b, most)
			if want := slowCut(b, most); n != want {
				t.Fatalf("Cut(%v, %d): %d, want %d", b, most, n, want)
			}
			if valid && !(Valid(b[:n]) && Valid(b[n:])) {
				t.Fatalf("Cut(%v, %d): %d parts a point", b, most, n)
			}
			if min(most, len(b))-n > 3 {
				t.Fatalf("Cut(%v, %d): %d gives too much away", b, most, n)
			}
		}
	}
}

func TestNewMemory(t *testing.T) { // DOC.md, rule 5
	a, _ := Put(8364)
	b, _ := Put(8364)
	a[0] = 0
	if string(b) != "\xe2\x82\xac" {
		t.Errorf("two answers share their bytes: %v", b)
	}
	// A point whose bytes go on behind the length is not there.
	room := []byte("a\xe2\x82\xac")
	if l, f := Points(room[:3]); len(l) != 0 || f != fault(1, api.ErrUtf) {
		t.Errorf("Points looked behind the length: %v %v", l, f)
	}
	if n := Cut(room[:3], 2); n != 2 {
		t.Errorf("Cut looked behind the length: %d", n)
	}
}
