// Package octet is layer 1: numbers as bytes; see shared/doc/01-octet.md.
package octet

// Reader takes bytes from the front.
type Reader struct {
	// All calls share this one method value, so that bytes are taken in one place alone; a reader that New did not make has none.
	next func(n int) (piece []byte, left int, ok bool)
}

// source is what a reader has not taken yet.
type source struct{ rest []byte }

// New makes a reader of s.
func New(s string) *Reader {
	from := &source{rest: []byte(s)}
	return &Reader{next: from.next}
}

// Number takes a number of that width.
func (r *Reader) Number(width int) (uint32, bool) {
	if !isWidth(width) {
		return 0, false
	}
	piece, _, ok := r.take(width)
	return number(piece), ok
}

// Take takes n bytes.
func (r *Reader) Take(n int) (string, bool) {
	piece, _, ok := r.take(n)
	return string(piece), ok
}

// Left tells how many bytes are not taken.
func (r *Reader) Left() int {
	_, left, _ := r.take(0)
	return left
}

// Put tells s, and v behind it.
func Put(s string, width int, v uint32) string {
	if !isWidth(width) {
		return s
	}
	piece := make([]byte, width)
	lay(piece, v)
	return s + string(piece)
}

// Get tells the number at that place.
func Get(b []byte, at int, width int) (uint32, bool) {
	piece, ok := field(b, at, width)
	return number(piece), ok
}

// Set lays v at that place.
func Set(b []byte, at int, width int, v uint32) bool {
	piece, ok := field(b, at, width)
	lay(piece, v)
	return ok
}

// take goes by the shared method value. A reader that New did not make refuses all, an empty text too.
func (r *Reader) take(n int) (piece []byte, left int, ok bool) {
	if r == nil || r.next == nil {
		return nil, 0, false
	}
	return r.next(n)
}

// next cuts n bytes off; what is refused is cut as an empty piece, so that nothing is taken.
func (s *source) next(n int) (piece []byte, left int, ok bool) {
	piece, ok = cut(s.rest, 0, n)
	s.rest = s.rest[len(piece):]
	return piece, len(s.rest), ok
}

func isWidth(n int) bool { return n == 1 || n == 2 || n == 4 }

// field cuts a number of that width out of b.
func field(b []byte, at, width int) ([]byte, bool) {
	if !isWidth(width) {
		return nil, false
	}
	return cut(b, at, width)
}

// cut tells n bytes of b from at on. The piece ends where its bytes do, so that nobody reaches what stands behind it. The lengths are subtracted, as at and n may be too great to be added.
func cut(b []byte, at, n int) ([]byte, bool) {
	if at < 0 || n < 0 || n > len(b)-at {
		return nil, false
	}
	return b[at : at+n : at+n], true
}

// number reckons what the bytes of a piece are; of an empty one 0.
func number(piece []byte) (v uint32) {
	switch len(piece) {
	case 4:
		v = uint32(piece[3])<<24 | uint32(piece[2])<<16
		fallthrough
	case 2:
		v |= uint32(piece[1]) << 8
		fallthrough
	case 1:
		v |= uint32(piece[0])
	}
	return v
}

// lay puts v's lower bytes into a piece; into an empty one nothing.
func lay(piece []byte, v uint32) {
	switch len(piece) {
	case 4:
		piece[3], piece[2] = byte(v>>24), byte(v>>16)
		fallthrough
	case 2:
		piece[1] = byte(v >> 8)
		fallthrough
	case 1:
		piece[0] = byte(v)
	}
}
