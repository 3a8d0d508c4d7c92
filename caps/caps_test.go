package caps_test

import (
	"math"
	"strings"
	"testing"

	"fallow/api"
	"fallow/bounds"
	"fallow/caps"
)

const end = 1 << 32

var numbers = []uint32{0, 1, 5, 15, 16, 255, 256, 258, 4095, 4096, 65535, 65536, 1 << 24, 1<<31 - 1, 1 << 31, 0xdeadbeef, math.MaxUint32 - 1, math.MaxUint32}

// low is v's lower bytes, so many as the width says, reckoned by division alone.
func low(v uint32, width int) string {
	out := []byte{}
	for range width {
		out = append(out, byte(v%256))
		v /= 256
	}
	return string(out)
}

// laid is what the document's Words say of a capability's bytes.
func laid(c api.Cap) string {
	return low(c.Cursor, 4) + low(uint32(c.E), 1) + low(uint32(c.B), 2) + low(uint32(c.T), 2) +
		low(uint32(c.Perms), 2) + low(uint32(c.Type), 2) + low(c.Rest, 3)
}

// told is what layer 3 says of the bounds of c, as numbers with signs.
func told(c api.Cap) (base, top int64) {
	from, to := bounds.Decode(c.E, c.B, c.T, c.Cursor)
	return int64(from), int64(to)
}

// sample tells n numbers, small and great, the same ones each time.
func sample(n int) []uint32 {
	out, seed := []uint32{}, uint64(n)
	for range n {
		seed = seed*6364136223846793005 + 1442695040888963407
		out = append(out, uint32(seed>>32)>>(seed>>27&31))
	}
	return out
}

// sound is what the Words say of a sound capability.
func sound(c api.Cap) bool {
	return c.E <= 21 && c.B <= 4095 && c.T <= 4095 && c.Perms <= 255 && c.Type <= 4095 && c.Rest <= 1<<24-1
}

// edges tells capabilities one of whose fields is at, just above or far above the greatest that a sound one may have.
func edges() []api.Cap {
	return []api.Cap{
		{}, {Cursor: math.MaxUint32},
		{E: 21}, {E: 22}, {E: 64}, {E: 255},
		{B: 4095}, {B: 4096}, {B: 8192}, {B: 65535},
		{T: 4095}, {T: 4096}, {T: 65535},
		{Perms: 255}, {Perms: 256}, {Perms: 32768}, {Perms: 65535},
		{Type: 4095}, {Type: 4096}, {Type: 65535},
		{Rest: 1<<24 - 1}, {Rest: 1 << 24}, {Rest: 1 << 31}, {Rest: math.MaxUint32},
		{B: 5, T: 4}, {B: 4000, T: 10}, {E: 21, B: 4095, T: 4095},
		{Cursor: math.MaxUint32, E: 21, B: 4095, T: 4095, Perms: 255, Type: 4095, Rest: 1<<24 - 1},
		{Cursor: math.MaxUint32, E: 22, B: 4095, T: 4095, Perms: 255, Type: 4095, Rest: 1<<24 - 1},
		{Cursor: math.MaxUint32, E: 21, B: 4096, T: 4095, Perms: 255, Type: 4095, Rest: 1<<24 - 1},
		{Cursor: math.MaxUint32, E: 21, B: 4095, T: 4096, Perms: 255, Type: 4095, Rest: 1<<24 - 1},
		{Cursor: math.MaxUint32, E: 21, B: 4095, T: 4095, Perms: 256, Type: 4095, Rest: 1<<24 - 1},
		{Cursor: math.MaxUint32, E: 21, B: 4095, T: 4095, Perms: 255, Type: 4096, Rest: 1<<24 - 1},
		{Cursor: math.MaxUint32, E: 21, B: 4095, T: 4095, Perms: 255, Type: 4095, Rest: 1 << 24},
	}
}

// some tells capabilities of all sorts: sound ones and others, valid ones and others.
func some() []api.Cap {
	out := []api.Cap{}
	for _, c := range edges() {
		v := c
		v.Valid = true
		out = append(out, c, v)
	}
	n := sample(7 * 200)
	for i := 0; i < len(n); i += 7 {
		c := api.Cap{Cursor: n[i], E: uint8(n[i+1]), B: uint16(n[i+2]), T: uint16(n[i+3]), Perms: uint16(n[i+4]), Type: uint16(n[i+5]), Rest: n[i+6], Valid: n[i]%2 == 0}
		s := c
		s.E, s.B, s.T, s.Perms, s.Type, s.Rest = s.E%22, s.B%4096, s.T%4096, s.Perms%256, s.Type%4096, s.Rest%(1<<24)
		out = append(out, c, s)
	}
	return out
}

// made is Make's capability, that there must be.
func made(t *testing.T, at, size uint32, perms uint16) api.Cap {
	t.Helper()
	c, ok := caps.Make(api.Region{At: at, Size: size}, perms)
	if !ok {
		t.Fatalf("Make(At %d, Size %d, %d): false", at, size, perms)
	}
	return c
}

// P4.1: a number has its value as its cursor, and nothing else.
func TestNumber(t *testing.T) {
	for _, v := range append(sample(100), numbers...) {
		c := caps.Number(v)
		if c != (api.Cap{Cursor: v}) || !caps.IsNumber(c) {
			t.Errorf("Number(%d): %v, IsNumber %v", v, c, caps.IsNumber(c))
		}
	}
}

// P4.1: what is valid, or has another field than the cursor, is no number.
func TestIsNumber(t *testing.T) {
	for _, v := range numbers {
		for _, c := range []api.Cap{
			{Valid: true}, {E: 1}, {E: 128}, {B: 1}, {B: 1 << 15}, {T: 1}, {T: 1 << 15}, {Perms: 1}, {Perms: 256}, {Perms: 1 << 15},
			{Type: 1}, {Type: 1 << 15}, {Rest: 1}, {Rest: 1 << 23}, {Rest: 1 << 24}, {Rest: 1 << 31}, {E: 1, Valid: true},
		} {
			c.Cursor = v
			if caps.IsNumber(c) {
				t.Errorf("%v is no number", c)
			}
		}
	}
}

// P4.1: each field of a sound capability is at most its greatest; whether it is valid counts for nothing.
func TestSound(t *testing.T) {
	for _, c := range some() {
		if caps.Sound(c) != sound(c) {
			t.Errorf("Sound(%v) is not %v", c, sound(c))
		}
	}
}

// P4.1: a capability's bounds are what its parts tell at its cursor; nothing else of it counts.
func TestRange(t *testing.T) {
	for _, x := range []struct {
		c    api.Cap
		base uint32
		top  uint64
	}{
		{api.Cap{T: 4, Cursor: 4096}, 4096, 4100},
		{api.Cap{T: 4, Cursor: 3071}, 0, 4},
		{api.Cap{E: 21, T: 2048, Cursor: 77}, 0, end},
		{api.Cap{E: 2, B: 1024, T: 2049, Cursor: 4097}, 4096, 8196},
		{api.Cap{B: 4095, Cursor: math.MaxUint32}, math.MaxUint32, end},
		{api.Cap{Cursor: 77}, 0, 0},
		{api.Cap{Cursor: math.MaxUint32}, 0, 0},
		{api.Cap{B: 5, T: 4, Cursor: 5}, 0, 0},
		{api.Cap{E: 22, T: 1}, 0, 0},
		{api.Cap{B: 4096, T: 4097}, 0, 0},
	} {
		if base, top := caps.Range(x.c); base != x.base || top != x.top {
			t.Errorf("Range(%v): %d, %d", x.c, base, top)
		}
	}
	for _, c := range some() {
		base, top := caps.Range(c)
		if b, u := told(c); b != int64(base) || uint64(u) != top {
			t.Errorf("Range(%v): %d, %d, want %d, %d", c, base, top, b, u)
		}
		c.Perms, c.Type, c.Rest, c.Valid = ^c.Perms, ^c.Type, ^c.Rest, !c.Valid
		if b, u := caps.Range(c); b != base || u != top {
			t.Errorf("Range(%v): %d, %d, want %d, %d", c, b, u, base, top)
		}
	}
}

// P4.2: each field has its bytes, the lowest one first; of a rest too great its lowest 24 bits.
func TestBytes(t *testing.T) {
	for _, x := range []struct {
		c    api.Cap
		want string
	}{
		{caps.Number(258), "\x02\x01" + strings.Repeat("\x00", 14)},
		{api.Cap{}, strings.Repeat("\x00", 16)},
		{api.Cap{Valid: true}, strings.Repeat("\x00", 16)},
		{api.Cap{Cursor: 0x04030201, E: 5, B: 0x0706, T: 0x0908, Perms: 0x0b0a, Type: 0x0d0c, Rest: 0x100f0e}, "\x01\x02\x03\x04\x05\x06\x07\x08\x09\x0a\x0b\x0c\x0d\x0e\x0f\x10"},
		{api.Cap{Rest: 1 << 24}, strings.Repeat("\x00", 16)},
		{api.Cap{Rest: 0xfe010203}, strings.Repeat("\x00", 13) + "\x03\x02\x01"},
		{api.Cap{Cursor: math.MaxUint32, E: 255, B: 65535, T: 65535, Perms: 65535, Type: 65535, Rest: math.MaxUint32}, strings.Repeat("\xff", 16)},
	} {
		if got := caps.Bytes(x.c); got != x.want {
			t.Errorf("Bytes(%v): %x, want %x", x.c, got, x.want)
		}
	}
	for _, c := range some() {
		if got := caps.Bytes(c); got != laid(c) {
			t.Errorf("Bytes(%v): %x, want %x", c, got, laid(c))
		}
	}
}

// P4.2: only 16 bytes are a capability's.
func TestOfRefuses(t *testing.T) {
	for n := range 70 {
		for _, fill := range []string{"\x00", "\xff", "\x07"} {
			for _, valid := range []bool{false, true} {
				c, ok := caps.Of(strings.Repeat(fill, n), valid)
				if ok != (n == 16) || !ok && c != (api.Cap{}) {
					t.Errorf("Of %d bytes %x: %v, %v", n, fill, c, ok)
				}
			}
		}
	}
	if c, ok := caps.Of(strings.Repeat("a", 1<<20), true); ok || c != (api.Cap{}) {
		t.Errorf("Of a long text: %v, %v", c, ok)
	}
}

// P4.2: what is told of 16 bytes has all their bits, sound or not; it is valid, if it is asked for and sound.
func TestOf(t *testing.T) {
	for _, x := range []struct {
		s     string
		valid bool
		want  api.Cap
	}{
		{strings.Repeat("\xff", 16), true, api.Cap{Cursor: math.MaxUint32, E: 255, B: 65535, T: 65535, Perms: 65535, Type: 65535, Rest: 1<<24 - 1}},
		{strings.Repeat("\x00", 16), true, api.Cap{Valid: true}},
		{strings.Repeat("\x00", 16), false, api.Cap{}},
		{"\x01\x02\x03\x04\x05\x06\x07\x08\x09\x0a\x00\x0c\x0d\x0e\x0f\x10", true, api.Cap{Cursor: 0x04030201, E: 5, B: 0x0706, T: 0x0908, Perms: 0x0a, Type: 0x0d0c, Rest: 0x100f0e, Valid: true}},
		{"\x01\x02\x03\x04\x05\x06\x07\x08\x09\x0a\x01\x0c\x0d\x0e\x0f\x10", true, api.Cap{Cursor: 0x04030201, E: 5, B: 0x0706, T: 0x0908, Perms: 0x10a, Type: 0x0d0c, Rest: 0x100f0e}},
	} {
		if c, ok := caps.Of(x.s, x.valid); c != x.want || !ok {
			t.Errorf("Of(%x, %v): %v, %v, want %v", x.s, x.valid, c, ok, x.want)
		}
	}
	for _, c := range edges() {
		c.Rest %= 1 << 24
		for _, valid := range []bool{false, true} {
			c.Valid = valid && sound(c)
			if got, ok := caps.Of(laid(c), valid); got != c || !ok {
				t.Errorf("Of the bytes of %v, %v: %v, %v", c, valid, got, ok)
			}
		}
	}
}

// P4.2: each bit of the bytes is one of a field, and no other.
func TestOfBits(t *testing.T) {
	zero, _ := caps.Of(strings.Repeat("\x00", 16), false)
	seen := map[api.Cap]int{zero: -1}
	for bit := range 128 {
		b := make([]byte, 16)
		b[bit/8] = 1 << (bit % 8)
		c, ok := caps.Of(string(b), false)
		if before, twice := seen[c]; twice || !ok {
			t.Errorf("bit %d: %v, %v, as bit %d", bit, c, ok, before)
		}
		seen[c] = bit
		if laid(c) != string(b) {
			t.Errorf("bit %d: %v", bit, c)
		}
	}
}

// spans tells capabilities whose bounds are these, with all permissions: small ones next to one another, empty ones, great ones, and both ends of the addresses.
func spans(t *testing.T) []api.Cap {
	out := []api.Cap{{}, caps.Number(300), {B: 5, T: 4, Cursor: 5}, {E: 22, T: 1}, {Cursor: 20, E: 21, T: 2048}}
	for _, base := range []uint32{0, 255, 256, 257, math.MaxUint32 - 2, math.MaxUint32 - 1, math.MaxUint32} {
		for size := range uint32(4) {
			if uint64(base)+uint64(size) <= end {
				out = append(out, made(t, base, size, api.AllPerms))
			}
		}
	}
	for _, r := range []api.Region{{At: 0, Size: 1 << 31}, {At: 1 << 31, Size: 1 << 31}, {At: 4096, Size: 4096}, {At: 256, Size: 64}, {At: 0, Size: 256}} {
		out = append(out, made(t, r.At, r.Size, api.AllPerms))
	}
	for i := range out {
		out[i].Perms = api.AllPerms
	}
	return out
}

// regions tells regions near the bounds of spans, some beyond all addresses.
func regions() []api.Region {
	out := []api.Region{}
	for _, at := range []uint32{0, 1, 254, 255, 256, 257, 258, 259, 260, 319, 320, 4095, 4096, 8191, 8192, 1<<31 - 1, 1 << 31, math.MaxUint32 - 3, math.MaxUint32 - 2, math.MaxUint32 - 1, math.MaxUint32} {
		for _, size := range []uint32{0, 1, 2, 3, 4, 64, 65, 4096, 1 << 31, math.MaxUint32 - 1, math.MaxUint32} {
			out = append(out, api.Region{At: at, Size: size})
		}
	}
	return out
}

// P4.3: bounds within bounds, or none at all.
func TestWithinBounds(t *testing.T) {
	all := spans(t)
	for _, a := range all {
		for _, b := range all {
			low, high := told(a)
			base, top := told(b)
			want := low == high || low >= base && high <= top
			if caps.Within(a, b) != want {
				t.Errorf("Within(%v, %v) is not %v: %d to %d, %d to %d", a, b, want, low, high, base, top)
			}
		}
	}
}

// P4.3: permissions among permissions, of all 16 bits; also where there are no bytes.
func TestWithinPerms(t *testing.T) {
	both := api.Cap{Cursor: 256, B: 256, T: 320}
	none := caps.Number(9)
	for _, x := range []struct {
		a, b uint16
		want bool
	}{
		{api.PermLoad, api.PermLoad | api.PermStore, true}, {api.PermLoad | api.PermStore, api.PermLoad, false},
		{0, 0, true}, {0, api.AllPerms, true}, {api.AllPerms, api.AllPerms, true}, {api.AllPerms, api.AllPerms - 1, false},
		{api.PermInvoke, api.AllPerms - api.PermInvoke, false}, {1, 2, false}, {2, 1, false}, {256, 255, false}, {256, 256, true}, {1 << 15, 1 << 14, false}, {255, 65535, true},
	} {
		for _, c := range []api.Cap{both, none} {
			a, b := c, c
			a.Perms, b.Perms = x.a, x.b
			if caps.Within(a, b) != x.want {
				t.Errorf("Within(%v, %v) is not %v", a, b, x.want)
			}
		}
	}
}

// P4.3: whether they are valid, or sealed, where their cursors are, and what their rest is, counts for nothing.
func TestWithinCountsNothingElse(t *testing.T) {
	a, b, other := made(t, 256, 32, api.PermLoad), made(t, 256, 64, api.PermLoad), made(t, 256, 16, api.PermLoad)
	for _, c := range []*api.Cap{&a, &other} {
		c.Valid, c.Type, c.Rest, c.Cursor = false, 9, 1<<24-1, 1000
	}
	if !caps.Within(a, b) || caps.Within(b, other) || !caps.Within(other, b) || !caps.Holds(a, api.Region{At: 256, Size: 32}) || !caps.Meets(a, api.Region{At: 287, Size: 1}) || caps.Meets(a, api.Region{At: 288, Size: 1}) {
		t.Error("sealed ones, that are not valid")
	}
}

// P4.3: the examples of the document.
func TestExamples(t *testing.T) {
	c := made(t, 256, 64, api.PermLoad)
	if base, top := caps.Range(c); base != 256 || top != 320 {
		t.Errorf("Range: %d to %d", base, top)
	}
	for _, x := range []struct {
		r            api.Region
		holds, meets bool
	}{
		{api.Region{At: 256, Size: 64}, true, true}, {api.Region{At: 319, Size: 2}, false, true}, {api.Region{At: 320, Size: 9}, false, false},
		{api.Region{At: 256, Size: 65}, false, true}, {api.Region{At: 255, Size: 65}, false, true}, {api.Region{At: 255, Size: 1}, false, false},
		{api.Region{At: 256, Size: 0}, true, false}, {api.Region{At: 320, Size: 0}, true, false}, {api.Region{At: 300, Size: 0}, true, false}, {api.Region{At: 255, Size: 0}, false, false}, {api.Region{At: 321, Size: 0}, false, false},
		{api.Region{At: 319, Size: math.MaxUint32}, false, true}, {api.Region{At: 300, Size: math.MaxUint32 - 299}, false, true}, {api.Region{At: 300, Size: math.MaxUint32 - 280}, false, true},
	} {
		if caps.Holds(c, x.r) != x.holds || caps.Meets(c, x.r) != x.meets {
			t.Errorf("%v: Holds %v, Meets %v", x.r, caps.Holds(c, x.r), caps.Meets(c, x.r))
		}
	}
}

// P4.3: a region is held as a whole, and met by one byte; it may end above all addresses.
func TestHoldsAndMeets(t *testing.T) {
	for _, c := range spans(t) {
		base, top := told(c)
		for _, r := range regions() {
			from, to := int64(r.At), int64(r.At)+int64(r.Size)
			holds := from >= base && to <= top
			meets := from < to && base < top && from < top && base < to
			if caps.Holds(c, r) != holds || caps.Meets(c, r) != meets {
				t.Errorf("%d to %d, region %v: Holds %v, Meets %v", base, top, r, caps.Holds(c, r), caps.Meets(c, r))
			}
		}
	}
}

// P4.4: what can be told exactly is made: with the cursor at its first byte, valid, and nothing else.
func TestMake(t *testing.T) {
	for _, x := range []struct {
		r    api.Region
		want api.Cap
	}{
		{api.Region{At: 256, Size: 64}, api.Cap{Cursor: 256, B: 256, T: 320}},
		{api.Region{}, api.Cap{}},
		{api.Region{At: 77}, api.Cap{Cursor: 77, B: 77, T: 77}},
		{api.Region{At: 4097, Size: 2048}, api.Cap{Cursor: 4097, B: 1, T: 2049}},
		{api.Region{At: 4096, Size: 2050}, api.Cap{Cursor: 4096, E: 1, B: 2048, T: 3073}},
		{api.Region{At: 4096, Size: 4100}, api.Cap{Cursor: 4096, E: 2, B: 1024, T: 2049}},
		{api.Region{At: 0, Size: 1 << 31}, api.Cap{E: 20, T: 2048}},
		{api.Region{At: 1 << 31, Size: 1 << 31}, api.Cap{Cursor: 1 << 31, E: 20, B: 2048}},
		{api.Region{At: math.MaxUint32, Size: 1}, api.Cap{Cursor: math.MaxUint32, B: 4095}},
		{api.Region{At: math.MaxUint32, Size: 0}, api.Cap{Cursor: math.MaxUint32, B: 4095, T: 4095}},
	} {
		for _, perms := range []uint16{0, 1, api.PermLoad | api.PermInvoke, api.AllPerms} {
			x.want.Perms, x.want.Valid = perms, true
			c, ok := caps.Make(x.r, perms)
			if c != x.want || !ok {
				t.Errorf("Make(%v, %d): %v, %v, want %v", x.r, perms, c, ok, x.want)
			}
			if base, top := caps.Range(c); base != x.r.At || top != uint64(x.r.At)+uint64(x.r.Size) {
				t.Errorf("Make(%v, %d): %d to %d", x.r, perms, base, top)
			}
		}
	}
}

// P4.4: permissions that there are not, regions that end above all addresses, and such as no capability has just the bounds of, are refused.
func TestMakeRefuses(t *testing.T) {
	for _, x := range []struct {
		r     api.Region
		perms uint16
	}{
		{api.Region{At: 1, Size: 1<<31 + 1}, api.PermLoad},
		{api.Region{At: 256, Size: 64}, api.AllPerms + 1},
		{api.Region{At: 256, Size: 64}, math.MaxUint16},
		{api.Region{At: 256, Size: 64}, 1 << 15},
		{api.Region{At: math.MaxUint32, Size: 2}, api.PermLoad},
		{api.Region{At: math.MaxUint32, Size: math.MaxUint32}, api.PermLoad},
		{api.Region{At: 1 << 31, Size: 1<<31 + 1}, api.PermLoad},
		{api.Region{At: 1 << 31, Size: 1<<31 + 1<<20}, api.PermLoad},
		{api.Region{At: 1<<31 + 1<<21, Size: 1 << 31}, api.PermLoad},
		{api.Region{At: 0, Size: math.MaxUint32}, api.PermLoad},
		{api.Region{At: 0, Size: 2049}, api.PermLoad},
		{api.Region{At: 4097, Size: 2050}, api.PermLoad},
		{api.Region{At: 4098, Size: 4100}, api.PermLoad},
		{api.Region{At: 2, Size: 4098}, api.PermLoad},
	} {
		if c, ok := caps.Make(x.r, x.perms); ok || c != (api.Cap{}) {
			t.Errorf("Make(%v, %d): %v, %v", x.r, x.perms, c, ok)
		}
	}
}

// exact is whether chapter 3 has parts that tell just these bounds, with a base and a top of at most 2048 times 2^e between.
func exact(from, to int64) bool {
	for e := range 22 {
		unit := int64(1) << e
		if to-from <= 2048*unit && from%unit == 0 && to%unit == 0 {
			return to <= end
		}
	}
	return false
}

// P4.4: there is a capability for just those regions that are multiples of what their size asks for.
func TestMakeAsExact(t *testing.T) {
	n := append(sample(300), numbers...)
	for i, at := range n {
		size := n[(i*7+3)%len(n)]
		for e := range 22 {
			r := api.Region{At: at >> e << e, Size: size >> e << e}
			from, to := int64(r.At), int64(r.At)+int64(r.Size)
			c, ok := caps.Make(r, api.PermStore)
			if ok != exact(from, to) {
				t.Fatalf("Make(%v): %v", r, ok)
			}
			if base, top := told(c); ok && (base != from || top != to || c.Cursor != r.At || !c.Valid || !caps.Sound(c) || c.Perms != api.PermStore || c.Type != 0 || c.Rest != 0) {
				t.Fatalf("Make(%v): %v", r, c)
			}
		}
	}
}

// P4.5 (W11): what was laid as bytes is read back; only of what is not sound it is not valid, and a rest too great is cut.
func TestBackFromBytes(t *testing.T) {
	for _, c := range some() {
		got, ok := caps.Of(caps.Bytes(c), c.Valid)
		want := c
		want.Rest %= 1 << 24
		want.Valid = c.Valid && sound(want)
		if !ok || got != want || sound(c) && got != c {
			t.Errorf("Of the bytes of %v: %v, %v", c, got, ok)
		}
	}
}

// P4.5 (W11): what was read of bytes is laid as those.
func TestBackToBytes(t *testing.T) {
	n := sample(4000)
	for i := 0; i+4 <= len(n); i++ {
		s := low(n[i], 4) + low(n[i+1], 4) + low(n[i+2], 4) + low(n[i+3], 4)
		for _, valid := range []bool{false, true} {
			if c, ok := caps.Of(s, valid); !ok || caps.Bytes(c) != s {
				t.Fatalf("Of(%x): %v, %v", s, c, ok)
			}
		}
	}
}

// P4.5: a number's bytes are those of a number, if they are not valid, and of no other.
func TestBytesOfNumbers(t *testing.T) {
	for _, v := range append(sample(100), numbers...) {
		s := low(v, 4) + strings.Repeat("\x00", 12)
		if got := caps.Bytes(caps.Number(v)); got != s {
			t.Errorf("Number(%d): %x", v, got)
		}
		if c, _ := caps.Of(s, false); c != caps.Number(v) || !caps.IsNumber(c) {
			t.Errorf("Of(%x, false): %v", s, c)
		}
		if c, _ := caps.Of(s, true); caps.IsNumber(c) || !c.Valid {
			t.Errorf("Of(%x, true): %v", s, c)
		}
		for at := 4; at < 16; at++ {
			other := []byte(s)
			other[at] = 128
			if c, _ := caps.Of(string(other), false); caps.IsNumber(c) {
				t.Errorf("Of(%x, false) is no number", other)
			}
		}
	}
}

// P4.6: Within goes on, and holds of each capability and itself.
func TestWithinGoesOn(t *testing.T) {
	all := append(spans(t), some()[50:100]...)
	for i := range all {
		for _, perms := range []uint16{1, 3} {
			c := all[i]
			c.Perms &= perms
			all = append(all, c)
		}
	}
	inside := make([][]bool, len(all))
	for i, a := range all {
		for _, b := range all {
			inside[i] = append(inside[i], caps.Within(a, b))
		}
		if !inside[i][i] {
			t.Errorf("%v does not lie within itself", a)
		}
	}
	for i := range all {
		for j := range all {
			for k := range all {
				if inside[i][j] && inside[j][k] && !inside[i][k] {
					t.Fatalf("%v lies within %v, this within %v, but not the first within it", all[i], all[j], all[k])
				}
			}
		}
	}
}

// P4.6: what meets a region and lies within another one is met by it there, too.
func TestMeetsGoesOn(t *testing.T) {
	all, where := append(spans(t), some()[20:120]...), regions()
	for _, a := range all {
		for _, b := range all {
			if !caps.Within(a, b) {
				continue
			}
			for _, r := range where {
				if caps.Meets(a, r) && !caps.Meets(b, r) {
					t.Fatalf("%v lies within %v, but meets %v alone", a, b, r)
				}
			}
		}
	}
}

// P4.6: what Make makes holds its region, and meets no other one that does not meet that.
func TestMakeHoldsItsRegion(t *testing.T) {
	where := regions()
	for _, r := range where {
		c, ok := caps.Make(r, api.AllPerms)
		if !ok {
			continue
		}
		if !caps.Holds(c, r) {
			t.Errorf("Make(%v) does not hold it", r)
		}
		for _, o := range where {
			from, to := max(int64(r.At), int64(o.At)), min(int64(r.At)+int64(r.Size), int64(o.At)+int64(o.Size))
			if caps.Meets(c, o) != (from < to) {
				t.Errorf("Make(%v) meets %v: %v", r, o, caps.Meets(c, o))
			}
		}
	}
}

// P4.1, P4.2, P4.4: the limits are api's.
func TestLimits(t *testing.T) {
	c := api.Cap{E: api.MaxE, B: 1<<api.Mantissa - 1, T: 1<<api.Mantissa - 1, Perms: api.AllPerms}
	if !caps.Sound(c) {
		t.Error("the greatest of each")
	}
	if len(caps.Bytes(c)) != api.Granule {
		t.Error("a capability fills a granule")
	}
}
