package arena_test

import (
	"math"
	"reflect"
	"slices"
	"strings"
	"testing"

	"fallow/api"
	"fallow/arena"
	"fallow/caps"
)

const last = math.MaxUint32

// far are addresses that no arena has; the bytes of some of them would be there, if their ends were reckoned modulo 2^32.
var far = []uint32{1<<18 + 1, 1<<18 + 16, 1 << 20, 1 << 31, 1<<31 + 16, 1<<31 - 16, last - 255, last - 15, last - 3, last - 1, last}

// made is an arena of so many pages, that there must be.
func made(t *testing.T, pages int) *arena.Arena {
	t.Helper()
	a, e := arena.New(pages)
	if a == nil || e != api.OK {
		t.Fatalf("New(%d): %v", pages, e)
	}
	return a
}

// sound tells a sound capability, valid, that unlike ones come of unlike numbers; all its fields are used.
func sound(v uint32) api.Cap {
	return api.Cap{
		Cursor: v * 2654435761, E: uint8(v % 22), B: uint16(v * 7 % 4096), T: uint16(4095 - v%4096),
		Perms: uint16(v % 256), Type: uint16(v * 3 % 4096), Rest: (v * 40503) % (1 << 24), Valid: true,
	}
}

// off is c, not valid.
func off(c api.Cap) api.Cap {
	c.Valid = false
	return c
}

// filled is an arena of 16 pages, of which each byte is told apart from its neighbours, and then each granule has a capability that is valid, if so.
func filled(t *testing.T, tagged bool) *arena.Arena {
	t.Helper()
	a := made(t, api.MinPages)
	for at := uint32(0); at < 4096; at += 16 {
		if !a.StoreCap(at, sound(at)) {
			t.Fatalf("StoreCap(%d)", at)
		}
		if !tagged && !a.Untag(at) {
			t.Fatalf("Untag(%d)", at)
		}
	}
	return a
}

// all is what an arena has: its bytes, and which tags are set.
func all(t *testing.T, a *arena.Arena) (string, []uint32) {
	t.Helper()
	s, ok := a.Read(0, a.Size())
	if !ok || len(s) != a.Size() {
		t.Fatalf("Read of all: %d bytes, %v", len(s), ok)
	}
	var set []uint32
	for page := range a.Size() / api.Page {
		set = append(set, a.Tagged(page)...)
	}
	return s, set
}

// same holds an arena against what it should have.
func same(t *testing.T, what string, a *arena.Arena, s string, set []uint32) {
	t.Helper()
	got, tagged := all(t, a)
	if got != s {
		for i := range len(got) {
			if got[i] != s[i] {
				t.Fatalf("%s: the byte %d is %d, want %d", what, i, got[i], s[i])
			}
		}
	}
	if !slices.Equal(tagged, set) {
		t.Fatalf("%s: tagged %v, want %v", what, tagged, set)
	}
}

// without is set, but for the granules that n bytes from at on touch.
func without(set []uint32, at, n int) []uint32 {
	var out []uint32
	for _, g := range set {
		if int(g)+16 <= at || int(g) >= at+n || n == 0 {
			out = append(out, g)
		}
	}
	return out
}

// over is s with b laid over it.
func over(s string, at int, b string) string { return s[:at] + b + s[at+len(b):] }

// low is v's lower bytes, lowest first.
func low(v uint32, width int) string {
	out := []byte{}
	for range width {
		out = append(out, byte(v%256))
		v /= 256
	}
	return string(out)
}

// P6.1: from 16 to 1024 pages, all of them 0, no tag set.
func TestNew(t *testing.T) {
	for _, x := range []struct {
		pages int
		e     api.Errno
	}{
		{15, api.ErrArg}, {1, api.ErrArg}, {0, api.ErrArg}, {-1, api.ErrArg}, {-16, api.ErrArg}, {math.MinInt, api.ErrArg}, {-1 << 32, api.ErrArg},
		{1025, api.ErrLong}, {2048, api.ErrLong}, {1 << 32, api.ErrLong}, {1<<32 + 16, api.ErrLong}, {1 << 56, api.ErrLong}, {math.MaxInt, api.ErrLong},
	} {
		if a, e := arena.New(x.pages); a != nil || e != x.e {
			t.Errorf("New(%d): %v, %v", x.pages, a != nil, e)
		}
	}
	for _, pages := range []int{16, 17, 100, 1023, 1024} {
		a := made(t, pages)
		if a.Size() != pages*256 {
			t.Errorf("%d pages: Size %d", pages, a.Size())
		}
		same(t, "New", a, strings.Repeat("\x00", pages*256), nil)
		if v, ok := a.Load(uint32(a.Size()-4), 4); v != 0 || !ok {
			t.Errorf("%d pages: the last number is %d, %v", pages, v, ok)
		}
		if c, ok := a.LoadCap(uint32(a.Size() - 16)); c != caps.Number(0) || !ok {
			t.Errorf("%d pages: the last granule is %v, %v", pages, c, ok)
		}
	}
}

// P6.1: a copy has the same bytes and tags; what is done to one of the two is not done to the other.
func TestCopy(t *testing.T) {
	a := filled(t, true)
	s, set := all(t, a)
	b := a.Copy()
	if b == nil || b == a || b.Size() != a.Size() {
		t.Fatal("no copy")
	}
	same(t, "the copy", b, s, set)
	a.Write(100, "changed")
	a.Untag(32)
	a.StoreCap(16, sound(5))
	same(t, "the copy of what was changed", b, s, set)
	s, set = all(t, a)
	b.Zero(api.Region{At: 0, Size: 4096})
	b.StoreCap(48, sound(9))
	same(t, "whose copy was changed", a, s, set)
	c := b.Copy().Copy()
	s, set = all(t, b)
	same(t, "the copy's copy's copy", c, s, set)
	if !slices.Equal(set, []uint32{48}) {
		t.Errorf("tagged %v", set)
	}
	if n := made(t, 1024).Copy(); n == nil || n.Size() != 1<<18 {
		t.Error("the copy of the greatest one")
	}
}

// P6.2: a number is told of the bytes that are there, at any address.
func TestLoad(t *testing.T) {
	a := made(t, 16)
	a.Write(4090, "\x01\x82\x03\xff\xfe\xfd")
	a.Write(0, "\x05\x06\x07\x88")
	for _, x := range []struct {
		at    uint32
		width int
		v     uint32
		ok    bool
	}{
		{0, 1, 5, true}, {0, 2, 0x605, true}, {0, 4, 0x88070605, true}, {1, 4, 0x880706, true}, {3, 1, 0x88, true},
		{4090, 1, 1, true}, {4091, 1, 0x82, true}, {4091, 2, 0x382, true}, {4091, 4, 0xfeff0382, true}, {4092, 4, 0xfdfeff03, true},
		{4093, 4, 0, false}, {4094, 2, 0xfdfe, true}, {4094, 4, 0, false}, {4095, 1, 0xfd, true}, {4095, 2, 0, false}, {4095, 4, 0, false},
		{4096, 1, 0, false}, {4096, 2, 0, false}, {4096, 4, 0, false}, {4097, 1, 0, false},
	} {
		if v, ok := a.Load(x.at, x.width); v != x.v || ok != x.ok {
			t.Errorf("Load(%d, %d): %d, %v", x.at, x.width, v, ok)
		}
	}
	for _, at := range far {
		for _, w := range []int{1, 2, 4} {
			if v, ok := a.Load(at, w); v != 0 || ok {
				t.Errorf("Load(%d, %d): %d, %v", at, w, v, ok)
			}
		}
	}
	for _, w := range []int{0, 3, 5, 8, 16, -1, -2, -4, 1 << 32, 1<<32 + 1, math.MaxInt, math.MinInt} {
		for _, at := range []uint32{0, 2, 4095, 4096, last} {
			if v, ok := a.Load(at, w); v != 0 || ok {
				t.Errorf("Load(%d, %d): %d, %v", at, w, v, ok)
			}
		}
	}
}

// P6.2: a number's lower bytes stand there; the tags of what they touch are gone, of one granule or of two, and no other ones.
func TestStore(t *testing.T) {
	for _, at := range []int{0, 1, 12, 13, 14, 15, 16, 17, 30, 31, 47, 255, 256, 2046, 2047, 4080, 4092, 4094, 4095} {
		for _, w := range []int{1, 2, 4} {
			for _, v := range []uint32{0, 1, 515, 0x80, 0xdeadbeef, last} {
				a := filled(t, true)
				s, set := all(t, a)
				want := at+w <= 4096
				if want {
					s, set = over(s, at, low(v, w)), without(set, at, w)
				}
				if ok := a.Store(uint32(at), w, v); ok != want {
					t.Errorf("Store(%d, %d, %d): %v", at, w, v, ok)
				}
				same(t, "Store", a, s, set)
			}
		}
	}
}

// P6.2: what is no width, or is not there, is not stored: no byte, and no tag, is changed.
func TestStoreRefuses(t *testing.T) {
	a := filled(t, true)
	s, set := all(t, a)
	for _, w := range []int{0, 3, 5, 6, 8, 16, -1, -2, -4, 1<<32 + 1, math.MaxInt, math.MinInt} {
		for _, at := range []uint32{0, 1, 16, 4088, 4095, 4096, 4097, last} {
			if a.Store(at, w, last) {
				t.Errorf("Store(%d, %d)", at, w)
			}
		}
	}
	for _, at := range append([]uint32{4096, 4097}, far...) {
		for _, w := range []int{1, 2, 4} {
			if a.Store(at, w, last) {
				t.Errorf("Store(%d, %d)", at, w)
			}
		}
	}
	for _, x := range []struct {
		at    uint32
		width int
	}{{4095, 2}, {4095, 4}, {4094, 4}, {4093, 4}} {
		if a.Store(x.at, x.width, last) {
			t.Errorf("Store(%d, %d)", x.at, x.width)
		}
	}
	same(t, "refused", a, s, set)
}

// P6.2: bytes that are there are told, none of them too; no bytes are there up to the arena's end.
func TestRead(t *testing.T) {
	a := filled(t, true)
	s, set := all(t, a)
	for _, x := range []struct {
		at uint32
		n  int
		ok bool
	}{
		{0, 4096, true}, {0, 4097, false}, {1, 4095, true}, {1, 4096, false}, {0, 0, true}, {5, 0, true}, {17, 30, true}, {250, 12, true},
		{4095, 0, true}, {4095, 1, true}, {4095, 2, false}, {4096, 0, true}, {4096, 1, false}, {4097, 0, false}, {4097, 1, false},
		{0, -1, false}, {0, math.MinInt, false}, {4096, -1, false}, {16, -16, false}, {4097, -1, false}, {8192, -4096, false},
		{0, math.MaxInt, false}, {4096, math.MaxInt, false}, {last, math.MaxInt, false}, {16, 1 << 32, false}, {0, 1<<32 + 1, false}, {0, 1 << 18, false},
		{last, 0, false}, {last, 1, false}, {last, 2, false}, {last, -1, false}, {last - 15, 32, false}, {last, 4097, false},
	} {
		want := ""
		if x.ok {
			want = s[x.at:][:x.n]
		}
		if got, ok := a.Read(x.at, x.n); got != want || ok != x.ok {
			t.Errorf("Read(%d, %d): %d bytes, %v", x.at, x.n, len(got), ok)
		}
	}
	for _, at := range far {
		for _, n := range []int{0, 1, 16, 4096} {
			if got, ok := a.Read(at, n); got != "" || ok {
				t.Errorf("Read(%d, %d): %d bytes, %v", at, n, len(got), ok)
			}
		}
	}
	same(t, "read", a, s, set)
}

// spans are bytes from an address on, in an arena of 16 pages: such as are there, and such as are not.
var spans = []struct {
	at   uint32
	size int
	ok   bool
}{
	{0, 1, true}, {15, 1, true}, {15, 2, true}, {16, 16, true}, {17, 16, true}, {30, 2, true}, {31, 2, true}, {31, 18, true}, {31, 17, true}, {8, 256, true},
	{0, 4096, true}, {1, 4095, true}, {4080, 16, true}, {4095, 1, true}, {2048, 1024, true},
	{0, 0, true}, {5, 0, true}, {16, 0, true}, {31, 0, true}, {4095, 0, true}, {4096, 0, true},
	{0, 4097, false}, {1, 4096, false}, {4080, 17, false}, {4095, 2, false}, {4096, 1, false}, {4097, 0, false}, {4097, 1, false}, {4112, 0, false},
	{last, 0, false}, {last, 1, false}, {last, 2, false}, {last - 15, 16, false}, {last - 15, 32, false}, {1 << 31, 0, false}, {1 << 31, 1, false}, {1 << 18, 0, false},
}

// P6.2: a text's bytes stand there; the tags of what they touch are gone, and no other ones: no bytes touch nothing.
func TestWrite(t *testing.T) {
	for _, x := range spans {
		a := filled(t, true)
		s, set := all(t, a)
		text := strings.Repeat("\xff\x00z", x.size/3+1)[:x.size]
		if x.ok {
			s, set = over(s, int(x.at), text), without(set, int(x.at), x.size)
		}
		if ok := a.Write(x.at, text); ok != x.ok {
			t.Errorf("Write(%d, %d bytes): %v", x.at, x.size, ok)
		}
		same(t, "Write", a, s, set)
	}
}

// P6.2: Zero is a Write of bytes 0; a region of more bytes than any arena has is refused.
func TestZero(t *testing.T) {
	for _, x := range spans {
		a := filled(t, true)
		s, set := all(t, a)
		if x.ok {
			s, set = over(s, int(x.at), strings.Repeat("\x00", x.size)), without(set, int(x.at), x.size)
		}
		if ok := a.Zero(api.Region{At: x.at, Size: uint32(x.size)}); ok != x.ok {
			t.Errorf("Zero(%d, %d): %v", x.at, x.size, ok)
		}
		same(t, "Zero", a, s, set)
	}
	a := filled(t, true)
	s, set := all(t, a)
	for _, size := range []uint32{4097, 1 << 18, 1 << 30, 1 << 31, last - 15, last} {
		for _, at := range []uint32{0, 1, 16, 4095, 4096, 1 << 31, last - 15, last} {
			if a.Zero(api.Region{At: at, Size: size}) {
				t.Errorf("Zero(%d, %d)", at, size)
			}
		}
	}
	same(t, "refused", a, s, set)
}

// wrongPlaces are those where no granule of 16 pages begins.
func wrongPlaces() []uint32 {
	out := append([]uint32{1, 2, 4, 8, 15, 17, 40, 4079, 4081, 4095, 4096, 4097, 4112, 1 << 18}, far...)
	for at := uint32(4096); at != 0; at *= 2 {
		out = append(out, at, last-at+1)
	}
	return out
}

// P6.3: a valid capability that is sound is told as it was stored, and its granule is tagged; one that is not valid, without.
func TestStoreCap(t *testing.T) {
	for _, at := range []uint32{0, 16, 32, 256, 4080} {
		for v := range uint32(200) {
			for _, c := range []api.Cap{sound(v), off(sound(v)), caps.Number(v), {Valid: true}, {Cursor: last, E: 21, B: 4095, T: 4095, Perms: 255, Type: 4095, Rest: 1<<24 - 1, Valid: true}} {
				a := made(t, 16)
				a.StoreCap(at, sound(v+1))
				if !a.StoreCap(at, c) {
					t.Fatalf("StoreCap(%d, %v)", at, c)
				}
				if got, ok := a.LoadCap(at); got != c || !ok {
					t.Fatalf("LoadCap(%d): %v, %v, want %v", at, got, ok, c)
				}
				var set []uint32
				if c.Valid {
					set = []uint32{at}
				}
				same(t, "StoreCap", a, over(strings.Repeat("\x00", 4096), int(at), caps.Bytes(c)), set)
			}
		}
	}
}

// P6.3: of one that is not sound the bytes stand there, without a tag, also where one was.
func TestStoreCapNotSound(t *testing.T) {
	for i, change := range []func(*api.Cap){
		func(c *api.Cap) { c.E = 22 }, func(c *api.Cap) { c.E = 255 }, func(c *api.Cap) { c.B = 4096 }, func(c *api.Cap) { c.T = 4096 }, func(c *api.Cap) { c.T = 65535 },
		func(c *api.Cap) { c.Perms = 256 }, func(c *api.Cap) { c.Type = 4096 }, func(c *api.Cap) { c.Rest = 1 << 24 }, func(c *api.Cap) { c.Rest = last },
	} {
		for _, valid := range []bool{true, false} {
			a, c := filled(t, true), sound(33)
			s, set := all(t, a)
			c.Valid = valid
			change(&c)
			if !a.StoreCap(64, c) {
				t.Errorf("%d: StoreCap", i)
			}
			same(t, "not sound", a, over(s, 64, caps.Bytes(c)), without(set, 64, 16))
			c.Valid, c.Rest = false, c.Rest%(1<<24)
			if got, ok := a.LoadCap(64); got != c || !ok {
				t.Errorf("%d: LoadCap: %v, %v, want %v", i, got, ok, c)
			}
		}
	}
}

// P6.3: nothing is loaded or stored but at a granule that there is.
func TestCapRefuses(t *testing.T) {
	a := filled(t, true)
	s, set := all(t, a)
	for _, at := range wrongPlaces() {
		if c, ok := a.LoadCap(at); c != (api.Cap{}) || ok {
			t.Errorf("LoadCap(%d): %v, %v", at, c, ok)
		}
		for _, c := range []api.Cap{sound(1), off(sound(2)), {}, {E: 99, Valid: true}} {
			if a.StoreCap(at, c) {
				t.Errorf("StoreCap(%d, %v)", at, c)
			}
		}
	}
	same(t, "refused", a, s, set)
	for at := uint32(0); at < 4096; at += 16 {
		if c, ok := a.LoadCap(at); c != sound(at) || !ok {
			t.Errorf("LoadCap(%d): %v, %v", at, c, ok)
		}
	}
}

// P6.3: bytes that were stored are told as a capability that is not valid, whatever they are.
func TestLoadCapOfBytes(t *testing.T) {
	a := made(t, 16)
	for _, b := range []string{caps.Bytes(sound(8)), strings.Repeat("\xff", 16), strings.Repeat("\x00", 16), "0123456789abcdef"} {
		want, _ := caps.Of(b, false)
		if !a.Write(48, b) {
			t.Error("Write")
		}
		if c, ok := a.LoadCap(48); c != want || !ok {
			t.Errorf("LoadCap of %q: %v, %v", b, c, ok)
		}
	}
}

// P6.4: of each page just its own granules are told, rising; of one that there is not none.
func TestTagged(t *testing.T) {
	a := made(t, 16)
	for _, at := range []uint32{4080, 512, 240, 752, 0, 256, 496, 3840} {
		a.StoreCap(at, sound(at))
	}
	want := map[int][]uint32{0: {0, 240}, 1: {256, 496}, 2: {512, 752}, 15: {3840, 4080}}
	for page := -2; page < 20; page++ {
		if got := a.Tagged(page); !slices.Equal(got, want[page]) {
			t.Errorf("Tagged(%d): %v", page, got)
		}
	}
	for _, page := range []int{16, 1 << 24, 1 << 28, 1 << 32, 1 << 56, 1 << 60, 1<<60 + 1, math.MaxInt, math.MinInt, -1, -16, -1 << 60, -1 << 56} {
		if got := a.Tagged(page); len(got) != 0 {
			t.Errorf("Tagged(%d): %v", page, got)
		}
	}
	full := filled(t, true).Tagged(3)
	if len(full) != 16 || full[0] != 768 || full[15] != 1008 || !slices.IsSorted(full) {
		t.Errorf("Tagged of a full page: %v", full)
	}
}

// P6.4, R5: what is told is the caller's own.
func TestTaggedIsNew(t *testing.T) {
	a := filled(t, true)
	l := a.Tagged(0)
	for i := range l[:cap(l)] {
		l[:cap(l)][i] = 9999
	}
	if got := a.Tagged(0); got[0] != 0 || got[15] != 240 {
		t.Errorf("Tagged: %v", got)
	}
	if got := a.Tagged(1); got[0] != 256 {
		t.Errorf("Tagged: %v", got)
	}
}

// P6.4: one tag is taken, once; its bytes stay.
func TestUntag(t *testing.T) {
	for _, at := range []uint32{0, 16, 240, 256, 1024, 4080} {
		a := filled(t, true)
		s, set := all(t, a)
		for _, wrong := range []uint32{at + 1, at + 8, at + 15} {
			if a.Untag(wrong) {
				t.Errorf("Untag(%d)", wrong)
			}
		}
		if !a.Untag(at) || a.Untag(at) {
			t.Errorf("Untag(%d)", at)
		}
		same(t, "Untag", a, s, without(set, int(at), 16))
		if c, ok := a.LoadCap(at); c != off(sound(at)) || !ok {
			t.Errorf("LoadCap(%d): %v, %v", at, c, ok)
		}
	}
	a := filled(t, true)
	s, set := all(t, a)
	for _, at := range wrongPlaces() {
		if a.Untag(at) {
			t.Errorf("Untag(%d)", at)
		}
	}
	same(t, "refused", a, s, set)
	none := made(t, 16)
	for at := range uint32(5000) {
		if none.Untag(at) {
			t.Errorf("Untag(%d) of none", at)
		}
	}
}

// P6.5 (W5): bytes that are stored over no tags set none, not even those of a capability that was valid.
func TestNoStoreSetsATag(t *testing.T) {
	a := filled(t, false)
	b := caps.Bytes(sound(64))
	for at := uint32(0); at <= 4096; at++ {
		for _, w := range []int{1, 2, 4} {
			a.Store(at, w, last)
		}
		a.Write(at, b)
		a.Write(at, "")
		a.Zero(api.Region{At: at, Size: 20})
		a.Zero(api.Region{At: at})
		a.Write(at&^15, b)
		if _, set := all(t, a); len(set) != 0 {
			t.Fatalf("at %d: tagged %v", at, set)
		}
	}
}

// P6.5: whichever byte of a capability is stored, and be it the same again, it is not valid then; those beside it are.
func TestAnyByteUntags(t *testing.T) {
	stores := map[string]func(a *arena.Arena, at uint32) bool{
		"Store 1": func(a *arena.Arena, at uint32) bool { v, _ := a.Load(at, 1); return a.Store(at, 1, v) },
		"Write":   func(a *arena.Arena, at uint32) bool { s, _ := a.Read(at, 1); return a.Write(at, s) },
		"Zero":    func(a *arena.Arena, at uint32) bool { return a.Zero(api.Region{At: at, Size: 1}) },
	}
	for what, store := range stores {
		for i := range uint32(16) {
			a := filled(t, true)
			if !store(a, 320+i) {
				t.Errorf("%s at %d", what, 320+i)
			}
			_, set := all(t, a)
			if len(set) != 255 || slices.Contains(set, 320) {
				t.Errorf("%s at %d: %d are tagged", what, 320+i, len(set))
			}
			if c, ok := a.LoadCap(320); c.Valid || !ok || what != "Zero" && c != off(sound(320)) {
				t.Errorf("%s at %d: %v, %v", what, 320+i, c, ok)
			}
		}
	}
}

// P6.5, P6.6: whatever is done, bytes and tags are as they were stored last.
func TestAsStoredLast(t *testing.T) {
	for seed := range uint64(8) {
		a, s, tagged := made(t, 16), strings.Repeat("\x00", 4096), make([]bool, 256)
		next := func(below int) int {
			seed = seed*6364136223846793005 + 1442695040888963407
			return int(seed>>33) % below
		}
		for range 1500 {
			at, n, v := next(4120), next(70), uint32(next(1<<31))
			s = change(t, a, next(9), at, n, v, s, tagged)
			var set []uint32
			for g, is := range tagged {
				if is {
					set = append(set, uint32(g*16))
				}
			}
			same(t, "as stored last", a, s, set)
		}
	}
}

// change does one of all calls to an arena, and to what it should have.
func change(t *testing.T, a *arena.Arena, which, at, n int, v uint32, s string, tagged []bool) string {
	t.Helper()
	b, ok, g := "", false, min(at/16, 255)
	switch which {
	case 0:
		n = []int{1, 2, 4}[n%3]
		b, ok = low(v, n), a.Store(uint32(at), n, v)
	case 1:
		b = strings.Repeat("abcdefghij", 7)[:n]
		ok = a.Write(uint32(at), b)
	case 2:
		b, ok = strings.Repeat("\x00", n), a.Zero(api.Region{At: uint32(at), Size: uint32(n)})
	case 3:
		if a.Untag(uint32(g*16)) != tagged[g] {
			t.Fatalf("Untag(%d) is not %v", g*16, tagged[g])
		}
		tagged[g] = false
		return s
	case 4:
		a.Copy().Zero(api.Region{Size: 4096})
		a.Load(uint32(at), 4)
		a.Read(uint32(at), n)
		a.Untag(uint32(at) | 1)
		a.StoreCap(uint32(at)|1, sound(v))
		return s
	case 5:
		want, _ := caps.Of(s[g*16:][:16], tagged[g])
		if c, ok := a.LoadCap(uint32(g * 16)); c != want || !ok {
			t.Fatalf("LoadCap(%d): %v, %v, want %v", g*16, c, ok, want)
		}
		return s
	default:
		c := sound(v)
		c.Valid = which != 8
		if !a.StoreCap(uint32(g*16), c) {
			t.Fatalf("StoreCap(%d)", g*16)
		}
		tagged[g] = c.Valid
		return over(s, g*16, caps.Bytes(c))
	}
	if ok != (at+len(b) <= 4096) {
		t.Fatalf("call %d of %d bytes at %d: %v", which, len(b), at, ok)
	}
	if !ok {
		return s
	}
	for i := range len(b) {
		tagged[(at+i)/16] = false
	}
	return over(s, at, b)
}

// P6.6: a byte is changed by what is stored in it alone: one by one, all others stay.
func TestBytesApart(t *testing.T) {
	a := made(t, 16)
	want := make([]byte, 4096)
	for i := range want {
		want[i] = byte(i*31 + i/256)
		if !a.Store(uint32(i), 1, uint32(want[i])|0xabcdef00) {
			t.Fatalf("Store(%d)", i)
		}
	}
	same(t, "byte by byte", a, string(want), nil)
	for i := range uint32(256) {
		a.StoreCap(i*16, sound(i))
		a.Untag(i * 16)
		a.Write(i*16, string(want[i*16:][:16]))
	}
	same(t, "granule by granule", a, string(want), nil)
}

// P6.1, R6: arenas do not touch one another.
func TestApart(t *testing.T) {
	a, b := made(t, 16), made(t, 16)
	a.StoreCap(32, sound(3))
	a.Write(100, "a")
	same(t, "the other one", b, strings.Repeat("\x00", 4096), nil)
}

// R3: one that is nil, or that New did not make, answers zero values, also where no bytes would be asked for.
func TestNoArena(t *testing.T) {
	for _, a := range []*arena.Arena{nil, {}} {
		if a.Size() != 0 || a.Copy() != nil {
			t.Error("Size, Copy of none")
		}
		for _, at := range append([]uint32{0, 1, 16}, far...) {
			for _, n := range []int{-1, 0, 1, 2, 4, 16, math.MaxInt, math.MinInt} {
				v, is := a.Load(at, n)
				s, ok := a.Read(at, n)
				if v != 0 || is || s != "" || ok || a.Store(at, n, 1) || a.Zero(api.Region{At: at, Size: uint32(n)}) {
					t.Errorf("%d bytes at %d of none", n, at)
				}
				if l := a.Tagged(n); len(l) != 0 {
					t.Errorf("Tagged(%d) of none: %v", n, l)
				}
			}
			c, ok := a.LoadCap(at)
			if c != (api.Cap{}) || ok || a.StoreCap(at, sound(1)) || a.StoreCap(at, api.Cap{}) || a.Write(at, "") || a.Write(at, "x") || a.Untag(at) {
				t.Errorf("a capability, or a text, at %d of none", at)
			}
		}
	}
}

// P6.5 (W5): nobody outside has another way to the tags than the chapter's calls.
func TestNoOtherWay(t *testing.T) {
	want := []string{"Copy", "Load", "LoadCap", "Read", "Size", "Store", "StoreCap", "Tagged", "Untag", "Write", "Zero"}
	got, of := []string{}, reflect.TypeFor[*arena.Arena]()
	for i := range of.NumMethod() {
		got = append(got, of.Method(i).Name)
	}
	if !slices.Equal(got, want) {
		t.Errorf("methods: %v", got)
	}
	for i := range of.Elem().NumField() {
		if f := of.Elem().Field(i); f.IsExported() {
			t.Errorf("the field %s", f.Name)
		}
	}
}

// P6.1 to P6.4: the chapter's examples, in their order.
func TestExamples(t *testing.T) {
	a := made(t, 16)
	if !a.Store(4094, 2, 515) || a.Store(4095, 2, 1) {
		t.Error("Store")
	}
	v, ok := a.Load(4094, 1)
	w, is := a.Load(4094, 4)
	if v != 3 || !ok || w != 0 || is {
		t.Errorf("Load: %d, %v, %d, %v", v, ok, w, is)
	}
	c := sound(77)
	if !a.StoreCap(32, c) || !slices.Equal(a.Tagged(0), []uint32{32}) {
		t.Errorf("StoreCap: %v", a.Tagged(0))
	}
	x, ok := a.LoadCap(32)
	y, is := a.LoadCap(40)
	if x != c || !ok || y != (api.Cap{}) || is {
		t.Errorf("LoadCap: %v, %v, %v, %v", x, ok, y, is)
	}
	if !a.Store(47, 1, 0) || len(a.Tagged(0)) != 0 {
		t.Errorf("Store(47): %v", a.Tagged(0))
	}
	s := caps.Bytes(c)
	want, _ := caps.Of(s[:15]+"\x00", false)
	if x, ok = a.LoadCap(32); x != want || !ok {
		t.Errorf("LoadCap: %v, %v, want %v", x, ok, want)
	}
	if !a.StoreCap(32, c) || !a.Untag(32) || a.Untag(32) || !a.Write(30, "ab") {
		t.Error("Untag, Write")
	}
}
