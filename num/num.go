// Package num is layer 1: numbers as bytes, the lowest byte first.
package num

import "breakwater/api"

// byteWidth is how many bytes a number takes.
type byteWidth int

const (
	narrowest byteWidth = 1
	widest    byteWidth = 6
)

func (w byteWidth) may() bool { return narrowest <= w && w <= widest }

// greatest is asked of widths that may be alone: a shift by less than 0 panics.
func (w byteWidth) greatest() int {
	most := int(1)<<(8*w) - 1
	return min(most, api.MaxNumber) // six bytes could say more than the device takes
}

func (w byteWidth) fits(n int) bool { return w.may() && 0 <= n && n <= w.greatest() }

func (w byteWidth) put(b []byte, n int) []byte {
	for range w {
		b = append(b, byte(n))
		n >>= 8
	}
	return b
}

// get takes the first bytes of s, of which there must be enough.
func (w byteWidth) get(s string) (n int, ok bool) {
	for i := range w {
		n |= int(s[i]) << (8 * i)
	}
	return n, w.fits(n)
}

// Fits: P1.1.
func Fits(n, width int) bool { return byteWidth(width).fits(n) }

// Put: P1.1.
func Put(b []byte, width int, l ...int) ([]byte, api.Errno) {
	w := byteWidth(width)
	if !w.may() { // asked apart, as there may be no number that does not fit
		return nil, api.ErrArg
	}
	for _, n := range l {
		if !w.fits(n) {
			return nil, api.ErrArg
		}
	}
	// Never behind b itself: the room there may be somebody else's.
	out := make([]byte, len(b), len(b)+width*len(l))
	copy(out, b)
	for _, n := range l {
		out = w.put(out, n)
	}
	return out, api.OK
}

// Get: P1.2.
func Get(s string, at, width int) (int, api.Errno) {
	w := byteWidth(width)
	if !w.may() {
		return 0, api.ErrArg
	}
	if at < 0 || len(s)-at < width { // at+width could wrap round
		return 0, api.ErrNumber
	}
	n, ok := w.get(s[at:])
	if !ok {
		return 0, api.ErrNumber
	}
	return n, api.OK
}

// Row: P1.2.
func Row(s string, width int) ([]int, api.Errno) {
	w := byteWidth(width)
	if !w.may() {
		return nil, api.ErrArg
	}
	if len(s)%width != 0 {
		return nil, api.ErrNumber
	}
	row := make([]int, 0, len(s)/width)
	for at := 0; at < len(s); at += width {
		n, ok := w.get(s[at:])
		if !ok {
			return nil, api.ErrNumber
		}
		row = append(row, n)
	}
	return row, api.OK
}
