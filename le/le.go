// Package le is layer 1: integers and texts as bytes, the least significant byte first.
package le

import "vivarium/api"

const (
	minWidth  = 1
	maxWidth  = 8
	textWidth = 2 // bytes that tell how long a text is
)

// Put tells b and, behind it, width bytes of n, the lowest first.
func Put(b []byte, width, n int) []byte {
	width = nearest(width, minWidth, maxWidth)
	return addNum(roomy(b, width), width, n)
}

// Get tells the number of width bytes that stands at the place at; false, if these bytes are not there.
func Get(b []byte, at, width int) (n int, ok bool) {
	p, ok := part(b, at, nearest(width, minWidth, maxWidth))
	if !ok {
		return 0, false
	}
	var sum uint64
	for i := range len(p) {
		sum |= uint64(p[i]) << (8 * i)
	}
	return int(sum), true
}

// PutText tells b and, behind it, how long s is, and s, of which no more than api.MaxText bytes are put.
func PutText(b []byte, s string) []byte {
	s = s[:min(len(s), api.MaxText)]
	return append(addNum(roomy(b, textWidth+len(s)), textWidth, len(s)), s...)
}

// Cut tells n bytes, those of b as far as there are any, and then bytes 0.
func Cut(b []byte, n int) []byte {
	out := make([]byte, nearest(n, 0, api.MaxText))
	copy(out, b)
	return out
}

// Reader goes over bytes from the first one on.
type Reader struct {
	rest   []byte
	missed bool
}

// Read makes a Reader of b, of which it keeps a copy: the list that is handed in stays the caller's.
func Read(b []byte) *Reader {
	return &Reader{rest: roomy(b, 0)}
}

// Num tells the next number of width bytes.
func (r *Reader) Num(width int) int {
	width = nearest(width, minWidth, maxWidth)
	n, _ := Get(r.take(width), 0, width)
	return n
}

// Text tells the next text.
func (r *Reader) Text() string {
	if r == nil {
		return ""
	}
	// The length is taken together with the text, because a text that is cut short takes no byte.
	n, _ := Get(r.rest, 0, textWidth)
	if p := r.take(textWidth + n); len(p) > textWidth {
		return string(p[textWidth:])
	}
	return ""
}

// Bytes tells the next n bytes, none if n is below 0.
func (r *Reader) Bytes(n int) []byte {
	return append([]byte(nil), r.take(max(n, 0))...)
}

// Left tells how many bytes were not taken yet.
func (r *Reader) Left() int {
	if r == nil {
		return 0
	}
	return len(r.rest)
}

// OK tells whether all that was asked for up to now was there.
func (r *Reader) OK() bool {
	return r != nil && !r.missed
}

// take tells the next n bytes and goes behind them; where they are missing, it stays, and tells nothing ever after.
func (r *Reader) take(n int) []byte {
	if !r.OK() {
		return nil
	}
	p, ok := part(r.rest, 0, n)
	if !ok {
		r.missed = true
		return nil
	}
	r.rest = r.rest[n:]
	return p
}

// part tells the n bytes at the place at, n not below 0. It ends the part's room with the part, so that nothing that grows it writes over what stands behind.
func part(b []byte, at, n int) ([]byte, bool) {
	// Not at+n > len(b): the sum could go round.
	if at < 0 || at > len(b)-n {
		return nil, false
	}
	return b[at : at+n : at+n], true
}

// addNum puts width bytes of n behind b, in b's own spare room.
func addNum(b []byte, width, n int) []byte {
	for i := range width {
		b = append(b, byte(n>>(8*i)))
	}
	return b
}

// roomy copies b, with room for more bytes: neither b nor its spare room may be written or handed out.
func roomy(b []byte, more int) []byte {
	return append(make([]byte, 0, len(b)+more), b...)
}

// nearest tells the number from low to high that is nearest to n.
func nearest(n, low, high int) int {
	return min(max(n, low), high)
}
