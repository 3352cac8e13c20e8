// Package bits is layer 1: bytes as signs of six digits (shared/doc/01-bits.md).
package bits

import (
	"strings"

	"posthorn/api"
)

const (
	signs = "ABCDEFGHIJKLMNOPQRSTUVWXYZabcdefghijklmnopqrstuvwxyz0123456789+/"
	pad   = '='
)

// Sign is the sign of a number.
func Sign(v int) (byte, bool) {
	if v < 0 || v >= len(signs) {
		return 0, false
	}
	return signs[v], true
}

// Encode writes bytes as signs, in lines of width signs if width is not 0.
func Encode(b []byte, width int) (string, api.Errno) {
	n, e := Length(len(b), width)
	if e != api.OK {
		return "", e
	}
	out := make([]byte, 0, n)
	line := 0
	for len(b) > 0 {
		if width > 0 && line == width {
			out = append(out, 13, 10)
			line = 0
		}
		var three [3]byte
		took := copy(three[:], b)
		b = b[took:]
		out = appendFour(out, three, took)
		line += 4
	}
	return string(out), api.OK
}

// appendFour puts the four signs of three bytes behind out; of these, only the first took were given.
func appendFour(out []byte, three [3]byte, took int) []byte {
	digits := uint32(0)
	for _, c := range three {
		digits = digits<<8 | uint32(c)
	}
	for i := range 4 {
		if i > took {
			out = append(out, pad)
			continue
		}
		out = append(out, signs[byte(digits>>(18-6*i))&63])
	}
	return out
}

// Length is how many bytes Encode of n bytes has.
func Length(n, width int) (int, api.Errno) {
	if width < 0 || width > api.MaxFold || width%4 != 0 || n < 0 {
		return 0, api.ErrArg
	}
	if n > api.MaxText {
		return 0, api.ErrLong
	}
	length := (n + 2) / 3 * 4
	if width > 0 && length > 0 {
		length += (length - 1) / width * 2
	}
	return length, api.OK
}

// Decode reads signs, in lines of any width.
func Decode(s string) ([]byte, api.Fault) {
	if len(s) > 2*api.MaxText {
		return nil, api.Fault{At: 0, Code: api.ErrLong}
	}
	r := reader{out: make([]byte, 0, len(s)/4*3)}
	for i := 0; i < len(s); i++ {
		if strings.HasPrefix(s[i:], "\r\n") {
			i++
			continue
		}
		if f := r.take(s[i], i); f.Code != api.OK {
			return nil, f
		}
	}
	if r.count > 0 {
		return nil, api.Fault{At: len(s), Code: api.ErrPad}
	}
	return r.out, api.Fault{}
}

// reader gathers signs till there are four of them.
type reader struct {
	out    []byte
	digits uint32
	places [4]int
	count  int
	pads   int
	closed bool
}

// take reads the byte c, which stands at the place at.
func (r *reader) take(c byte, at int) api.Fault {
	v := strings.IndexByte(signs, c)
	switch {
	case v < 0 && c != pad:
		return api.Fault{At: at, Code: api.ErrByte}
	case r.closed, c == pad && r.count < 2:
		return api.Fault{At: at, Code: api.ErrPad}
	case c == pad:
		v = 0
		r.pads++
	case r.pads > 0:
		// The = ahead is neither the last of its four nor, with this sign, one of the last two:
		// it is at fault, and its place is less than the sign's.
		return api.Fault{At: r.places[2], Code: api.ErrPad}
	}
	r.digits = r.digits<<6 | uint32(v)
	r.places[r.count] = at
	r.count++
	if r.count < 4 {
		return api.Fault{}
	}
	return r.finish()
}

// finish turns four signs into the bytes that they are.
func (r *reader) finish() api.Fault {
	left := uint32(1)<<(8*r.pads) - 1
	if r.digits&left != 0 {
		return api.Fault{At: r.places[3-r.pads], Code: api.ErrTail}
	}
	for i := range 3 - r.pads {
		r.out = append(r.out, byte(r.digits>>(16-8*i)))
	}
	*r = reader{out: r.out, closed: r.pads > 0}
	return api.Fault{}
}
