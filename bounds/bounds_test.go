package bounds_test

import (
	"math"
	"slices"
	"testing"

	"fallow/api"
	"fallow/bounds"
)

const end = 1 << 32

// parts are an exponent and two mantissas.
type parts struct {
	e    uint8
	b, t uint16
}

// span is a base and a top.
type span struct {
	base uint32
	top  uint64
}

// power is 2^e, by doubling.
func power(e int) int64 {
	p := int64(1)
	for range e {
		p *= 2
	}
	return p
}

// told is what the document's Words say of the parts at a cursor, by whole numbers; false, if they may not be, or these are no bounds.
func told(p parts, cursor uint32) (base, top int64, is bool) {
	if p.e > 21 || p.b > 4095 || p.t > 4095 {
		return 0, 0, false
	}
	unit := power(int(p.e))
	high, mid := int64(cursor)/(unit*4096), int64(cursor)/unit%4096
	edge := (int64(p.b) + 3072) % 4096
	turn := func(x int64) int64 {
		if x < edge {
			return 1
		}
		return 0
	}
	base = (high+turn(int64(p.b))-turn(mid))*unit*4096 + int64(p.b)*unit
	top = (high+turn(int64(p.t))-turn(mid))*unit*4096 + int64(p.t)*unit
	return base, top, 0 <= base && base <= top && top <= end
}

// ruled is what the Words say of a base and a top: their exponent, and both rounded.
func ruled(base uint32, top uint64) (e int, low, high int64) {
	for {
		unit := power(e)
		low = int64(base) / unit * unit
		high = (int64(top) + unit - 1) / unit * unit
		if high-low <= 2048*unit {
			return e, low, high
		}
		e++
	}
}

// sample tells numbers below 2^32, the same ones each time.
func sample(n int) []uint32 {
	out, seed := []uint32{}, uint64(n)
	for range n {
		seed = seed*6364136223846793005 + 1442695040888963407
		out = append(out, uint32(seed>>32)>>(seed>>27&31))
	}
	return out
}

// near tells the addresses at, just below and just above each power of 2, its half as much again, and the end.
func near() []uint32 {
	out := []uint32{}
	for e := range 33 {
		for d := int64(-2); d <= 2; d++ {
			for _, v := range []int64{power(e) + d, power(e)/2*3 + d} {
				if v >= 0 && v < end {
					out = append(out, uint32(v))
				}
			}
		}
	}
	slices.Sort(out)
	return slices.Compact(out)
}

// spans tells bases and tops that may be: of all sizes, at the edges of what an exponent can tell, and at both ends of the addresses.
func spans() []span {
	out := []span{{0, 0}, {0, end}, {1, end}, {math.MaxUint32, end}, {math.MaxUint32, math.MaxUint32}}
	add := func(base, size int64) {
		if base >= 0 && base < end && size >= 0 && base+size <= end {
			out = append(out, span{uint32(base), uint64(base + size)})
		}
	}
	bases := append(sample(40), 0, 1, 255, 2048, 4095, 4096, 4097, 1<<31-1, 1<<31, 1<<31+1)
	for e := range 22 {
		for d := int64(-2); d <= 2; d++ {
			for _, units := range []int64{1024, 1025, 2047, 2048, 2049, 4095, 4096} {
				size := units*power(e) + d
				add(end-size, size)
				add(end-size-1, size)
				for _, b := range bases {
					add(int64(b), size)
					add(int64(b)/power(e)*power(e), size)
				}
			}
		}
	}
	for i, b := range bases {
		for _, size := range sample(40 + i) {
			add(int64(b), int64(size))
		}
	}
	return out
}

func checkDecode(t *testing.T, p parts, cursor uint32, base uint32, top uint64) {
	t.Helper()
	if b, u := bounds.Decode(p.e, p.b, p.t, cursor); b != base || u != top {
		t.Fatalf("Decode(%d, %d, %d, %d): %d, %d, want %d, %d", p.e, p.b, p.t, cursor, b, u, base, top)
	}
}

func checkKeeps(t *testing.T, p parts, cursor, next uint32, want bool) {
	t.Helper()
	if got := bounds.Keeps(p.e, p.b, p.t, cursor, next); got != want {
		t.Fatalf("Keeps(%d, %d, %d, %d, %d): %v", p.e, p.b, p.t, cursor, next, got)
	}
}

// P3.1: the examples of the document.
func TestDecodeExamples(t *testing.T) {
	for _, x := range []struct {
		p      parts
		cursor uint32
		want   span
	}{
		{parts{0, 0, 4}, 4096, span{4096, 4100}},
		{parts{0, 0, 4}, 4099, span{4096, 4100}},
		{parts{0, 0, 4}, 3072, span{4096, 4100}},
		{parts{0, 0, 4}, 3071, span{0, 4}},
		{parts{22, 0, 1}, 0, span{}},
		{parts{0, 5, 4}, 5, span{}},
		{parts{0, 4000, 10}, 5, span{}},
		{parts{0, 256, 320}, 256, span{256, 320}},
		{parts{21, 0, 2048}, 0, span{0, end}},
		{parts{21, 0, 2048}, math.MaxUint32, span{0, end}},
		{parts{2, 1024, 2049}, 4097, span{4096, 8196}},
		{parts{0, 4000, 10}, 4096, span{4000, 4106}},
	} {
		checkDecode(t, x.p, x.cursor, x.want.base, x.want.top)
	}
	checkKeeps(t, parts{0, 0, 4}, 4096, 3072, true)
	checkKeeps(t, parts{0, 0, 4}, 4096, 3071, false)
	checkKeeps(t, parts{0, 5, 4}, 5, 5, false)
}

// someParts tells parts at the edges of what they may be, and of the turns.
func someParts() []parts {
	mantissas := []uint16{0, 1, 5, 1023, 1024, 1025, 2047, 2048, 2049, 3071, 3072, 3073, 4094, 4095}
	out := []parts{}
	for e := range 22 {
		for _, b := range mantissas {
			for _, t := range mantissas {
				out = append(out, parts{uint8(e), b, t})
			}
		}
	}
	return out
}

// P3.1: parts that may be tell at each cursor what the Words say, or 0 and 0.
func TestDecode(t *testing.T) {
	cursors := append(near(), sample(60)...)
	for _, p := range someParts() {
		for _, c := range cursors {
			base, top, is := told(p, c)
			if !is || base == end {
				base, top = 0, 0
			}
			checkDecode(t, p, c, uint32(base), uint64(top))
		}
	}
}

// P3.1: every pair of mantissas, at the cursors at which a turn changes.
func TestDecodeMantissas(t *testing.T) {
	for b := uint16(0); b < 4096; b += 3 {
		edge := (uint32(b) + 3072) % 4096
		for u := uint16(0); u < 4096; u += 7 {
			p := parts{uint8(b+u) % 22, b, u}
			for _, units := range []uint32{edge, edge + 4095, edge + 4096} {
				cursor := uint32(uint64(units) << p.e)
				base, top, is := told(p, cursor)
				if !is || base == end {
					base, top = 0, 0
				}
				checkDecode(t, p, cursor, uint32(base), uint64(top))
			}
		}
	}
}

// P3.1: parts that may not be tell nothing, and keep nothing.
func TestPartsThatMayNotBe(t *testing.T) {
	for _, p := range []parts{
		{22, 0, 1}, {22, 0, 0}, {23, 1, 2}, {32, 0, 2048}, {52, 0, 1}, {64, 0, 1}, {128, 0, 1}, {255, 4095, 4095},
		{0, 4096, 4097}, {0, 4096, 4096}, {0, 4095, 4096}, {0, 0, 4096}, {0, 4096, 4}, {21, 0, 4096},
		{0, 8192, 8196}, {0, 65535, 65535}, {3, 0, 65535}, {3, 65535, 4}, {255, 65535, 65535},
	} {
		for _, c := range append(near(), sample(30)...) {
			checkDecode(t, p, c, 0, 0)
			checkKeeps(t, p, c, c, false)
			checkKeeps(t, p, c, 0, false)
		}
	}
}

// P3.1: what is told, but is no bounds: a base below 0, a base above the top, a top above 2^32.
func TestNoBounds(t *testing.T) {
	for _, x := range []struct {
		p      parts
		cursor uint32
	}{
		{parts{0, 4000, 10}, 5},
		{parts{0, 4095, 4095}, 0},
		{parts{21, 4095, 0}, 0},
		{parts{0, 5, 4}, 5},
		{parts{0, 1, 0}, 4096},
		{parts{0, 4095, 3072}, 4096},
		{parts{0, 4095, 1}, math.MaxUint32},
		{parts{0, 1, 2}, math.MaxUint32},
		{parts{0, 0, 1}, math.MaxUint32},
		{parts{21, 0, 2049}, 0},
		{parts{21, 2048, 2049}, math.MaxUint32},
		{parts{20, 4095, 1}, math.MaxUint32},
	} {
		checkDecode(t, x.p, x.cursor, 0, 0)
		checkKeeps(t, x.p, x.cursor, x.cursor, false)
		checkKeeps(t, x.p, x.cursor, 0, false)
	}
}

// P3.1: a base and a top of 2^32 are told as 0 and 0; but they are bounds, and other ones than 0 and 0.
func TestBaseAtTheEnd(t *testing.T) {
	for e := range 21 {
		p, lowest := parts{uint8(e), 0, 0}, uint32(end-1024*power(e))
		for _, c := range []uint32{math.MaxUint32, lowest} {
			checkDecode(t, p, c, 0, 0)
			checkKeeps(t, p, c, math.MaxUint32, true)
			checkKeeps(t, p, c, lowest, true)
			checkKeeps(t, p, c, lowest-1, false)
			checkKeeps(t, p, c, 0, false)
			checkKeeps(t, p, 0, c, false)
		}
		checkKeeps(t, p, 0, 0, true)
	}
	whole := parts{21, 2048, 2048}
	checkDecode(t, whole, math.MaxUint32, 0, 0)
	checkKeeps(t, whole, 0, math.MaxUint32, false)
	checkKeeps(t, whole, 1<<31, math.MaxUint32, true)
}

// P3.1: Keeps asks for bounds at the cursor, and for the same ones at next.
func TestKeeps(t *testing.T) {
	cursors := slices.Concat(sample(12), []uint32{0, 1, 1023, 1024, 3071, 3072, 4095, 4096, 1 << 31, math.MaxUint32 - 1024, math.MaxUint32 - 1023, math.MaxUint32})
	for _, p := range someParts() {
		for _, c := range cursors {
			base, top, is := told(p, c)
			for _, n := range cursors {
				low, high, _ := told(p, n)
				checkKeeps(t, p, c, n, is && low == base && high == top)
			}
		}
	}
}

// P3.2: the examples of the document.
func TestEncodeExamples(t *testing.T) {
	for _, x := range []struct {
		s     span
		p     parts
		exact bool
	}{
		{span{4096, 4100}, parts{0, 0, 4}, true},
		{span{0, end}, parts{21, 0, 2048}, true},
		{span{1, end}, parts{21, 0, 2048}, false},
		{span{4097, 4097 + 4096}, parts{2, 1024, 2049}, false},
		{span{256, 320}, parts{0, 256, 320}, true},
		{span{0, 0}, parts{0, 0, 0}, true},
		{span{0, 2048}, parts{0, 0, 2048}, true},
		{span{0, 2049}, parts{1, 0, 1025}, false},
		{span{1, 2049}, parts{0, 1, 2049}, true},
		{span{1, 4096}, parts{1, 0, 2048}, false},
		{span{1, 4097}, parts{2, 0, 1025}, false},
		{span{math.MaxUint32, end}, parts{0, 4095, 0}, true},
		{span{math.MaxUint32, math.MaxUint32}, parts{0, 4095, 4095}, true},
		{span{1 << 31, end}, parts{20, 2048, 0}, true},
	} {
		checkEncode(t, x.s, x.p, x.exact)
	}
	for _, x := range []struct {
		base uint32
		top  uint64
		low  uint32
		high uint64
		is   bool
	}{
		{4097, 8193, 4096, 8196, true}, {5, 4, 0, 0, false}, {0, end + 1, 0, 0, false}, {1, end, 0, end, true}, {7, 7, 7, 7, true},
	} {
		if low, high, is := bounds.Round(x.base, x.top); low != x.low || high != x.high || is != x.is {
			t.Errorf("Round(%d, %d): %d, %d, %v", x.base, x.top, low, high, is)
		}
	}
}

func checkEncode(t *testing.T, s span, want parts, exact bool) {
	t.Helper()
	e, b, u, same, is := bounds.Encode(s.base, s.top)
	if (parts{e, b, u}) != want || same != exact || !is {
		t.Errorf("Encode(%d, %d): %d, %d, %d, %v, %v, want %v, %v", s.base, s.top, e, b, u, same, is, want, exact)
	}
}

// P3.2: the least exponent, the mantissas, and whether nothing was changed, at all sizes.
func TestEncode(t *testing.T) {
	for _, s := range spans() {
		e, low, high := ruled(s.base, s.top)
		mantissa := func(v int64) uint16 { return uint16(v / power(e) % 4096) }
		checkEncode(t, s, parts{uint8(e), mantissa(low), mantissa(high)}, low == int64(s.base) && high == int64(s.top))
		if b, u, is := bounds.Round(s.base, s.top); int64(b) != low || u != uint64(high) || !is {
			t.Errorf("Round(%d, %d): %d, %d, %v, want %d, %d", s.base, s.top, b, u, is, low, high)
		}
	}
}

// P3.2: a base above the top, a top above 2^32, and no other, are refused; then all else is 0.
func TestEncodeRefuses(t *testing.T) {
	for _, s := range []span{
		{5, 4}, {1, 0}, {math.MaxUint32, 0}, {math.MaxUint32, math.MaxUint32 - 1},
		{0, end + 1}, {math.MaxUint32, end + 1}, {0, end * 2}, {1, 1 << 33}, {0, 1 << 62},
		{0, 1<<63 - 1}, {0, 1 << 63}, {5, 1<<63 + 9}, {0, math.MaxUint64}, {math.MaxUint32, math.MaxUint64}, {0, math.MaxUint64 - end},
	} {
		if e, b, u, exact, is := bounds.Encode(s.base, s.top); e != 0 || b != 0 || u != 0 || exact || is {
			t.Errorf("Encode(%d, %d): %d, %d, %d, %v, %v", s.base, s.top, e, b, u, exact, is)
		}
		if b, u, is := bounds.Round(s.base, s.top); b != 0 || u != 0 || is {
			t.Errorf("Round(%d, %d): %d, %d, %v", s.base, s.top, b, u, is)
		}
	}
}

// P3.3: the examples of the document, and the ends of what can be padded.
func TestPadExamples(t *testing.T) {
	for _, x := range [][3]uint32{
		{0, 0, 1}, {1, 1, 1}, {2047, 2047, 1}, {2048, 2048, 1}, {2049, 2050, 2}, {2050, 2050, 2}, {4096, 4096, 2}, {4097, 4100, 4},
		{1 << 31, 1 << 31, 1 << 20}, {1<<31 + 1, 1<<31 + 1<<21, 1 << 21},
		{1<<32 - 1<<21, 1<<32 - 1<<21, 1 << 21}, {1<<32 - 1<<21 - 1, 1<<32 - 1<<21, 1 << 21},
		{1<<32 - 1<<21 + 1, 0, 0}, {math.MaxUint32 - 1, 0, 0}, {math.MaxUint32, 0, 0},
	} {
		if padded, align := bounds.Pad(x[0]); padded != x[1] || align != x[2] {
			t.Errorf("Pad(%d): %d, %d, want %d, %d", x[0], padded, align, x[1], x[2])
		}
	}
}

// sizes tells sizes at the edges of what an exponent can tell, and some between.
func sizes() []uint32 {
	out := append(near(), sample(2000)...)
	for e := range 21 {
		for d := int64(-3); d <= 3; d++ {
			out = append(out, uint32(2048*power(e)+d), uint32(3001*power(e)+d), uint32(end-power(e)+d))
		}
	}
	return out
}

// P3.3: the least multiple by the least exponent, or 0 and 0.
func TestPad(t *testing.T) {
	for _, size := range sizes() {
		e, _, padded := ruled(0, uint64(size))
		align := power(e)
		if padded == end {
			padded, align = 0, 0
		}
		if p, a := bounds.Pad(size); int64(p) != padded || int64(a) != align {
			t.Errorf("Pad(%d): %d, %d, want %d, %d", size, p, a, padded, align)
		}
	}
}

// coded is a base and a top that are encoded, and rounded.
type coded struct {
	span
	p     parts
	exact bool
	low   uint32
	high  uint64
}

func codedOf(t *testing.T, s span) coded {
	t.Helper()
	e, b, u, exact, is := bounds.Encode(s.base, s.top)
	low, high, ok := bounds.Round(s.base, s.top)
	if !is || !ok {
		t.Fatalf("Encode, Round(%d, %d): %v, %v", s.base, s.top, is, ok)
	}
	return coded{s, parts{e, b, u}, exact, low, high}
}

// P3.4: at the base, at the top, and at cursors between, what Encode makes tells what Round says.
func TestEncodedIsTold(t *testing.T) {
	for _, s := range spans() {
		c, size := codedOf(t, s), s.top-uint64(s.base)
		for _, part := range []uint64{0, 1, size / 4, size / 3, size / 2, size / 3 * 2, size - 1, size} {
			if at := uint64(s.base) + part; part <= size && at < end {
				checkDecode(t, c.p, uint32(at), c.low, c.high)
				checkKeeps(t, c.p, uint32(at), s.base, true)
			}
		}
	}
}

// P3.4: less than 2^e more at each side, and nothing more of up to 2048 bytes.
func TestRoundedIsNear(t *testing.T) {
	for _, s := range spans() {
		c := codedOf(t, s)
		more := power(int(c.p.e))
		if below, above := int64(s.base)-int64(c.low), int64(c.high)-int64(s.top); below < 0 || below >= more || above < 0 || above >= more {
			t.Errorf("%d to %d: rounded to %d, %d by %d", s.base, s.top, c.low, c.high, more)
		}
		if small := s.top-uint64(s.base) <= 2048; small && !c.exact || c.exact != (c.low == s.base && c.high == s.top) {
			t.Errorf("%d to %d: exact: %v, rounded to %d, %d", s.base, s.top, c.exact, c.low, c.high)
		}
	}
}

// P3.4: each span of up to 2048 bytes at some bases is exact, and is told at each of its cursors.
func TestSmallIsExact(t *testing.T) {
	for _, base := range []uint32{0, 1, 1024, 3000, 4095, 1<<31 - 1000, math.MaxUint32 - 2047} {
		for size := uint64(0); size <= 2048; size++ {
			c := codedOf(t, span{base, uint64(base) + size})
			if !c.exact || c.p.e != 0 {
				t.Fatalf("%d bytes from %d on: %v, %v", size, base, c.p, c.exact)
			}
			for at := uint64(base); at <= c.top && at < end; at += 61 {
				checkDecode(t, c.p, uint32(at), base, c.top)
			}
		}
	}
}

// P3.5: a cursor may go as far as that, and (by the Words) 2^e - 1 further above, but not one address more.
func TestCursorGoesBeyond(t *testing.T) {
	for _, s := range spans() {
		c := codedOf(t, s)
		unit := power(int(c.p.e))
		for _, x := range []struct {
			away  int64
			keeps bool
		}{
			{-1024*unit - 1, false}, {-1024 * unit, true}, {-1024*unit + 1, true}, {-unit, true}, {-1, true}, {0, true}, {2048 * unit, true},
			{3071*unit - 1, true}, {3071 * unit, true}, {3072*unit - 1, true}, {3072 * unit, false},
		} {
			next := int64(c.low) + x.away
			if next < 0 || next >= end {
				continue
			}
			checkKeeps(t, c.p, s.base, uint32(next), x.keeps)
			checkKeeps(t, c.p, uint32(next), s.base, x.keeps)
			if x.keeps {
				checkDecode(t, c.p, uint32(next), c.low, c.high)
			}
		}
	}
}

// P3.6: padded bytes from each multiple of align on are exact.
func TestPaddedIsExact(t *testing.T) {
	for _, size := range sizes() {
		padded, align := bounds.Pad(size)
		if align == 0 {
			continue
		}
		room := (end - uint64(padded)) / uint64(align)
		for _, n := range []uint64{0, 1, 2, 3, 1023, 1024, 2047, 2048, 4095, room / 3, room / 2, room - 1, room} {
			base := n * uint64(align)
			if n > room || base == end {
				continue
			}
			c := codedOf(t, span{uint32(base), base + uint64(padded)})
			if !c.exact || c.low != uint32(base) || c.high != base+uint64(padded) {
				t.Fatalf("%d bytes, padded to %d, from %d on: %+v", size, padded, base, c)
			}
		}
	}
}

// P3.1, P3.2: the limits are api's.
func TestLimits(t *testing.T) {
	checkDecode(t, parts{api.MaxE, 0, 1}, 0, 0, 1<<api.MaxE)
	checkDecode(t, parts{api.MaxE + 1, 0, 1}, 0, 0, 0)
	checkDecode(t, parts{0, 0, 1<<api.Mantissa - 1}, 0, 0, 0)
	checkDecode(t, parts{0, 0, 1<<api.Mantissa - 1025}, 0, 0, 3071)
}
