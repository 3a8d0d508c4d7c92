package octet_test

import (
	"bytes"
	"math"
	"strings"
	"testing"

	"fallow/octet"
)

var (
	widths = []int{1, 2, 4}
	wrong  = []int{0, 3, 5, 6, 7, 8, 16, 32, -1, -2, -4, 257, 1<<32 + 1, math.MaxInt, math.MinInt}
	values = []uint32{0, 1, 127, 128, 255, 256, 258, 65535, 65536, 1 << 24, 1 << 31, 0xdeadbeef, 0x01020304, math.MaxUint32}
)

// low is v's lower bytes, so many as the width says, reckoned by division alone.
func low(v uint32, width int) string {
	out := []byte{}
	for range width {
		out = append(out, byte(v%256))
		v /= 256
	}
	return string(out)
}

func kept(v uint32, width int) uint32 {
	return uint32(uint64(v) % (uint64(1) << (8 * width)))
}

// P1.1: what stood there stays, and the number is behind it, its lowest byte first.
func TestPut(t *testing.T) {
	for _, x := range []struct {
		s     string
		width int
		v     uint32
		want  string
	}{
		{"", 1, 258, "\x02"},
		{"", 2, 258, "\x02\x01"},
		{"x", 4, math.MaxUint32, "x\xff\xff\xff\xff"},
		{"x", 3, 7, "x"},
		{"", 4, 0x01020304, "\x04\x03\x02\x01"},
		{"\x00\xff", 2, 0, "\x00\xff\x00\x00"},
		{"", 0, 1, ""},
	} {
		if got := octet.Put(x.s, x.width, x.v); got != x.want {
			t.Errorf("Put(%q, %d, %d): %q, want %q", x.s, x.width, x.v, got, x.want)
		}
	}
	long := strings.Repeat("ab", 5000)
	for _, s := range []string{"", "x", "\x00\x80\xff", long} {
		for _, v := range values {
			for _, w := range widths {
				if octet.Put(s, w, v) != s+low(v, w) {
					t.Errorf("Put behind %d bytes: width %d, %d", len(s), w, v)
				}
			}
			for _, w := range wrong {
				if octet.Put(s, w, v) != s {
					t.Errorf("Put behind %d bytes: width %d is none", len(s), w)
				}
			}
		}
	}
}

// P1.1: a number is told of the bytes that are within, and of no others.
func TestGet(t *testing.T) {
	b := []byte{1, 2, 3, 4, 5}
	for _, x := range []struct {
		at, width int
		v         uint32
		ok        bool
	}{
		{0, 1, 1, true}, {4, 1, 5, true}, {1, 2, 770, true}, {3, 2, 0x0504, true},
		{0, 4, 0x04030201, true}, {1, 4, 84148994, true},
		{5, 1, 0, false}, {4, 2, 0, false}, {5, 2, 0, false}, {2, 4, 0, false}, {4, 4, 0, false},
		{6, 1, 0, false}, {-1, 1, 0, false}, {-1, 4, 0, false}, {-4, 4, 0, false},
		{math.MaxInt, 1, 0, false}, {math.MaxInt, 4, 0, false}, {math.MaxInt - 3, 4, 0, false},
		{math.MinInt, 1, 0, false}, {math.MinInt, 4, 0, false},
	} {
		if v, ok := octet.Get(b, x.at, x.width); v != x.v || ok != x.ok {
			t.Errorf("Get(%d, %d): %d, %v", x.at, x.width, v, ok)
		}
	}
	for _, w := range wrong {
		for at := -1; at <= len(b); at++ {
			if v, ok := octet.Get(b, at, w); v != 0 || ok {
				t.Errorf("Get(%d, %d): %d, %v", at, w, v, ok)
			}
		}
	}
	if !bytes.Equal(b, []byte{1, 2, 3, 4, 5}) {
		t.Errorf("changed: %v", b)
	}
}

// P1.1: high bytes are no signs.
func TestGetHigh(t *testing.T) {
	b := []byte{0xff, 0xfe, 0x80, 0xff}
	for i, want := range []uint32{0xff, 0xfeff, 0xff80feff} {
		if v, ok := octet.Get(b, 0, widths[i]); v != want || !ok {
			t.Errorf("width %d: %x, %v", widths[i], v, ok)
		}
	}
}

// P1.1: no byte is within none, and those in the room behind a list's end are not within it.
func TestBeyondTheEnd(t *testing.T) {
	room := []byte{1, 2, 3, 4, 5, 6, 7, 8}
	for _, b := range [][]byte{nil, {}, room[:0], room[:1], room[:3]} {
		for _, w := range widths {
			at := len(b) - w + 1
			if v, ok := octet.Get(b, at, w); v != 0 || ok {
				t.Errorf("Get of %d bytes (%d, %d): %d, %v", len(b), at, w, v, ok)
			}
			if octet.Set(b, at, w, math.MaxUint32) {
				t.Errorf("Set of %d bytes (%d, %d)", len(b), at, w)
			}
		}
	}
	if !bytes.Equal(room, []byte{1, 2, 3, 4, 5, 6, 7, 8}) {
		t.Errorf("changed: %v", room)
	}
}

// P1.1: just the bytes of the number are changed; none, if the answer is false.
func TestSet(t *testing.T) {
	b := []byte{1, 2, 3}
	if !octet.Set(b, 1, 2, 256) || !bytes.Equal(b, []byte{1, 0, 1}) {
		t.Errorf("Set(1, 2, 256): %v", b)
	}
	if octet.Set(b, 2, 2, 0) || !bytes.Equal(b, []byte{1, 0, 1}) {
		t.Errorf("Set(2, 2, 0): %v", b)
	}
	for _, w := range append(append([]int{}, widths...), wrong...) {
		good := w == 1 || w == 2 || w == 4
		for _, at := range []int{math.MinInt, -4, -1, 0, 1, 2, 5, 6, 7, 8, 9, 10, math.MaxInt - 1, math.MaxInt} {
			checkSet(t, at, w, good && at >= 0 && at <= 9-w)
		}
	}
}

// checkSet sets a number in 9 bytes, that have room behind them.
func checkSet(t *testing.T, at, width int, want bool) {
	t.Helper()
	for _, v := range values {
		room := []byte("abcdefghi....")
		ahead := string(room)
		if ok := octet.Set(room[:9], at, width, v); ok != want {
			t.Errorf("Set(%d, %d, %d): %v", at, width, v, ok)
		}
		if want {
			ahead = ahead[:at] + low(v, width) + ahead[at+width:]
		}
		if string(room) != ahead {
			t.Errorf("Set(%d, %d, %d): %q, want %q", at, width, v, room, ahead)
		}
	}
}

// P1.2: the document's example, and what is left behind each call.
func TestReader(t *testing.T) {
	r := octet.New("\x01\x02\x03")
	if r.Left() != 3 || r.Left() != 3 {
		t.Errorf("Left: %d", r.Left())
	}
	if v, ok := r.Number(2); v != 513 || !ok || r.Left() != 1 {
		t.Errorf("Number(2): %d, %v, %d left", v, ok, r.Left())
	}
	if v, ok := r.Number(2); v != 0 || ok || r.Left() != 1 {
		t.Errorf("Number(2) of 1: %d, %v, %d left", v, ok, r.Left())
	}
	if s, ok := r.Take(1); s != "\x03" || !ok || r.Left() != 0 {
		t.Errorf("Take(1): %q, %v, %d left", s, ok, r.Left())
	}
	checkEmpty(t, r)
}

// checkEmpty asks a reader that has nothing left.
func checkEmpty(t *testing.T, r *octet.Reader) {
	t.Helper()
	for _, n := range []int{1, 2, 4, -1} {
		if v, ok := r.Number(n); v != 0 || ok {
			t.Errorf("Number(%d) of none: %d, %v", n, v, ok)
		}
		if s, ok := r.Take(n); s != "" || ok {
			t.Errorf("Take(%d) of none: %q, %v", n, s, ok)
		}
	}
	if s, ok := r.Take(0); s != "" || !ok || r.Left() != 0 {
		t.Errorf("Take(0) of none: %q, %v", s, ok)
	}
}

// P1.2: what is refused takes nothing.
func TestReaderRefuses(t *testing.T) {
	r := octet.New("abcdefg")
	for _, w := range wrong {
		if v, ok := r.Number(w); v != 0 || ok || r.Left() != 7 {
			t.Errorf("Number(%d): %d, %v, %d left", w, v, ok, r.Left())
		}
	}
	for _, n := range []int{-1, -7, 8, 9, 1 << 32, 1 << 62, math.MaxInt, math.MinInt} {
		if s, ok := r.Take(n); s != "" || ok || r.Left() != 7 {
			t.Errorf("Take(%d): %q, %v, %d left", n, s, ok, r.Left())
		}
	}
	if s, ok := r.Take(0); s != "" || !ok || r.Left() != 7 {
		t.Errorf("Take(0): %q, %v", s, ok)
	}
	if s, ok := r.Take(4); s != "abcd" || !ok {
		t.Errorf("Take(4): %q, %v", s, ok)
	}
	if v, ok := r.Number(4); v != 0 || ok || r.Left() != 3 {
		t.Errorf("Number(4) of 3: %d, %v", v, ok)
	}
	if s, ok := r.Take(3); s != "efg" || !ok {
		t.Errorf("Take(3): %q, %v", s, ok)
	}
}

// P1.2: an empty text is read, too.
func TestReaderOfNothing(t *testing.T) {
	r := octet.New("")
	if r == nil || r.Left() != 0 {
		t.Fatal("no reader of an empty text")
	}
	checkEmpty(t, r)
}

// P1.2: each reader goes its own way.
func TestReadersApart(t *testing.T) {
	a, b := octet.New("same"), octet.New("same")
	if s, ok := a.Take(3); s != "sam" || !ok || a.Left() != 1 || b.Left() != 4 {
		t.Errorf("%q, %v, %d, %d", s, ok, a.Left(), b.Left())
	}
	if s, ok := b.Take(4); s != "same" || !ok || a.Left() != 1 {
		t.Errorf("%q, %v, %d", s, ok, a.Left())
	}
}

// R3: one that is nil, or that New did not make, answers zero values, also where an empty text would be taken.
func TestReaderThatIsNone(t *testing.T) {
	for _, r := range []*octet.Reader{nil, {}} {
		if r.Left() != 0 {
			t.Errorf("Left: %d", r.Left())
		}
		for _, n := range []int{-1, 0, 1, 2, 4, math.MaxInt} {
			if v, ok := r.Number(n); v != 0 || ok {
				t.Errorf("Number(%d): %d, %v", n, v, ok)
			}
			if s, ok := r.Take(n); s != "" || ok {
				t.Errorf("Take(%d): %q, %v", n, s, ok)
			}
		}
	}
}

// P1.3: what was put is read back, one behind the other, numbers and texts mixed.
func TestPutIsRead(t *testing.T) {
	s := ""
	for _, v := range values {
		for _, w := range widths {
			s = octet.Put(s, w, v) + "mark"
		}
	}
	r := octet.New(s)
	for _, v := range values {
		for _, w := range widths {
			got, ok := r.Number(w)
			mark, is := r.Take(4)
			if got != kept(v, w) || !ok || mark != "mark" || !is {
				t.Fatalf("width %d: %d of %d, %v, %q", w, got, v, ok, mark)
			}
		}
	}
	if r.Left() != 0 {
		t.Errorf("%d left", r.Left())
	}
}

// P1.3: what was set is got back; what was put is got at its place, too.
func TestSetIsGot(t *testing.T) {
	for _, v := range values {
		for _, w := range widths {
			b := bytes.Repeat([]byte{0x5a}, 12)
			for at := 0; at+w <= len(b); at++ {
				if !octet.Set(b, at, w, v) {
					t.Fatalf("Set(%d, %d)", at, w)
				}
				if got, ok := octet.Get(b, at, w); got != kept(v, w) || !ok {
					t.Errorf("Get(%d, %d): %d of %d, %v", at, w, got, v, ok)
				}
			}
			if got, ok := octet.Get([]byte(octet.Put("abc", w, v)), 3, w); got != kept(v, w) || !ok {
				t.Errorf("Get behind Put, width %d: %d of %d, %v", w, got, v, ok)
			}
		}
	}
}

// P1.3: numbers that lie beside one another do not touch.
func TestSetBeside(t *testing.T) {
	b := make([]byte, 7)
	octet.Set(b, 0, 1, 0x1ff)
	octet.Set(b, 3, 4, 0xa1a2a3a4)
	octet.Set(b, 1, 2, 0xffeeddcc)
	if want := []byte{0xff, 0xcc, 0xdd, 0xa4, 0xa3, 0xa2, 0xa1}; !bytes.Equal(b, want) {
		t.Errorf("%x, want %x", b, want)
	}
}
