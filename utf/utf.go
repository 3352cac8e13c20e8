// Package utf is layer 2: points of Unicode as bytes (shared/doc/02-utf.md).
package utf

import (
	"posthorn/api"
)

// Put is a point's bytes.
func Put(p int32) ([]byte, api.Errno) {
	if size(p) == 0 {
		return nil, api.ErrUtf
	}
	return appendPoint(nil, p), api.OK
}

// size is how many bytes a point has: none, if it is no point.
func size(p int32) int {
	switch {
	case p < 0 || p > 1114111 || p >= 55296 && p <= 57343:
		return 0
	case p < 128:
		return 1
	case p < 2048:
		return 2
	case p < 65536:
		return 3
	}
	return 4
}

// appendPoint puts the bytes of p, which is a point, behind b.
func appendPoint(b []byte, p int32) []byte {
	switch size(p) {
	case 1:
		return append(b, byte(p))
	case 2:
		return append(b, 192|byte(p>>6), behind(p))
	case 3:
		return append(b, 224|byte(p>>12), behind(p>>6), behind(p))
	}
	return append(b, 240|byte(p>>18), behind(p>>12), behind(p>>6), behind(p))
}

// behind is the byte of the lower six digits, as it stands behind a point's first byte.
func behind(p int32) byte { return 128 | byte(p&63) }

// Next is the point at a text's front, and how many bytes it takes.
func Next(b []byte) (int32, int, api.Errno) {
	if len(b) == 0 {
		return 0, 0, api.ErrShort
	}
	p, n := first(b[0])
	if n == 0 || n > len(b) {
		goto fault
	}
	for _, c := range b[1:n] {
		if c>>6 != 2 {
			goto fault
		}
		p = p<<6 | int32(c&63)
	}
	// A point that would do with fewer bytes has another size: it is written in one way alone.
	if size(p) != n {
		goto fault
	}
	return p, n, api.OK
fault:
	return 0, 0, api.ErrUtf
}

// first is what a point's first byte tells: its uppermost digits, and how many bytes the point has
// (none, if it is no first byte).
func first(c byte) (int32, int) {
	switch {
	case c < 128:
		return int32(c), 1
	case c>>5 == 6:
		return int32(c & 31), 2
	case c>>4 == 14:
		return int32(c & 15), 3
	case c>>3 == 30:
		return int32(c & 7), 4
	}
	return 0, 0
}

// Points is a text's points.
func Points(b []byte) ([]int32, api.Fault) {
	var l []int32
	at := 0
	for at < len(b) {
		p, n, e := Next(b[at:])
		if e != api.OK {
			goto fault
		}
		l = append(l, p)
		at += n
	}
	return l, api.Fault{}
fault:
	return nil, api.Fault{At: at, Code: api.ErrUtf}
}

// Text is points' bytes.
func Text(l []int32) ([]byte, api.Fault) {
	var b []byte
	for at, p := range l {
		if size(p) == 0 {
			return nil, api.Fault{At: at, Code: api.ErrUtf}
		}
		b = appendPoint(b, p)
	}
	return b, api.Fault{}
}

// Valid tells whether bytes are points'.
func Valid(b []byte) bool {
	for len(b) > 0 {
		_, n, e := Next(b)
		if e != api.OK {
			return false
		}
		b = b[n:]
	}
	return true
}

// Cut is the greatest place, at most most, at which a text can be cut.
func Cut(b []byte, most int) int {
	most = max(0, min(most, len(b)))
	if !Valid(b) {
		return most
	}
	for most < len(b) && b[most]>>6 == 2 {
		most--
	}
	return most
}
