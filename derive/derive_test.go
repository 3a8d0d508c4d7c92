package derive_test

import (
	"math"
	"testing"

	"fallow/api"
	"fallow/bounds"
	"fallow/caps"
	"fallow/derive"
)

const (
	end  = 1 << 32
	last = math.MaxUint32
)

// made is caps.Make's capability, that there must be.
func made(t *testing.T, at, size uint32, perms uint16) api.Cap {
	t.Helper()
	c, ok := caps.Make(api.Region{At: at, Size: size}, perms)
	if !ok {
		t.Fatalf("Make(At %d, Size %d, %d): false", at, size, perms)
	}
	return c
}

// pair tells the two capabilities of the chapter's examples.
func pair(t *testing.T) (c, u api.Cap) {
	t.Helper()
	c = made(t, 4096, 4096, api.AllPerms)
	return c, at(made(t, 0, 100, api.PermSeal|api.PermUnseal), 7)
}

// at is c with another cursor, whatever this does to its bounds.
func at(c api.Cap, cursor uint32) api.Cap {
	c.Cursor = cursor
	return c
}

// typed is c with another object type.
func typed(c api.Cap, kind uint16) api.Cap {
	c.Type = kind
	return c
}

// off is c, not valid.
func off(c api.Cap) api.Cap {
	c.Valid = false
	return c
}

// open is what the Words say of a capability that is open to change.
func open(c api.Cap) bool { return c.Valid && c.Type == 0 }

// over is what the Words say of an authority over kind by perm, for kinds of any size.
func over(by api.Cap, kind uint32, perm uint16) bool {
	base, top := caps.Range(by)
	return open(by) && by.Perms&perm == perm && by.Cursor == kind && 1 <= kind && kind <= 4095 &&
		int64(kind) >= int64(base) && int64(kind) < int64(top)
}

// sample tells n numbers, small and great, the same ones each time.
func sample(n int) []uint32 {
	out, seed := []uint32{}, uint64(n)
	for range n {
		seed = seed*6364136223846793005 + 1442695040888963407
		out = append(out, uint32(seed>>32)>>(seed>>27&31))
	}
	return out
}

// some tells capabilities of all sorts: valid or not, sealed or not, sound or not, with bounds or without.
func some(t *testing.T) []api.Cap {
	t.Helper()
	c, u := pair(t)
	out := []api.Cap{
		{}, {Valid: true}, caps.Number(7), {Cursor: 7, Valid: true}, c, u,
		{Cursor: 5, B: 5, T: 4, Perms: api.AllPerms, Valid: true},
		{Cursor: 5, E: 22, T: 1, Perms: api.AllPerms, Valid: true},
		{Cursor: last, Perms: api.AllPerms, Valid: true},
		{Cursor: last, E: 255, B: 65535, T: 65535, Perms: 65535, Type: 65535, Rest: last, Valid: true},
		{Cursor: last, E: 255, B: 65535, T: 65535, Perms: 65535, Rest: last, Valid: true},
		{Cursor: 20, E: 21, T: 2048, Perms: api.AllPerms, Rest: 1<<24 - 1, Valid: true},
		{Cursor: 20, E: 21, T: 2048, Perms: api.AllPerms, Rest: 1 << 24, Valid: true},
		{Cursor: 20, E: 21, T: 2048, Perms: api.AllPerms + 1, Valid: true},
		made(t, last, 1, api.AllPerms), made(t, last, 0, 3), made(t, 1<<31, 1<<31, 31), made(t, 0, 0, 255),
		made(t, 256, 64, api.PermLoad), made(t, 0, 4096, api.PermSeal), at(made(t, 0, 4096, api.PermUnseal), 4095),
		made(t, 4100, 4, api.AllPerms), made(t, 4096, 8192, api.PermStore),
		{Cursor: 1, B: 1, T: 3001, Perms: 3, Valid: true}, {Cursor: 8001, E: 1, B: 3999, T: 2900, Perms: api.AllPerms, Valid: true},
	}
	n := sample(7 * 40)
	for i := 0; i < len(n); i += 7 {
		x := api.Cap{Cursor: n[i], E: uint8(n[i+1] % 24), B: uint16(n[i+2] % 4200), T: uint16(n[i+3] % 4200), Perms: uint16(n[i+4] % 300), Rest: n[i+6], Valid: n[i]%3 != 0}
		e, b, top, _, _ := bounds.Encode(n[i], uint64(n[i])+uint64(n[i+5])%(end-uint64(n[i])))
		y := api.Cap{Cursor: n[i], E: e, B: b, T: top, Perms: uint16(n[i+4] % 256), Rest: n[i+6] % (1 << 24), Valid: true}
		out = append(out, x, y, off(y))
	}
	for _, c := range out {
		out = append(out, typed(c, 7), typed(c, 4095), typed(c, 4096))
	}
	return out
}

// values tells numbers for a capability: edges, those near its cursor and its bounds, and such as reach its top.
func values(c api.Cap) []uint32 {
	base, top := caps.Range(c)
	out := []uint32{0, 1, 2, 100, 255, 256, 2047, 2048, 2049, 4095, 4096, 4097, 65535, 65536, 1 << 31, last - 1, last}
	for _, v := range []int64{int64(base), int64(top), int64(c.Cursor), int64(top) - int64(c.Cursor), end - int64(c.Cursor)} {
		for d := int64(-2); d <= 2; d++ {
			out = append(out, uint32(v+d))
		}
	}
	unit := int64(1) << min(c.E, 21)
	for _, v := range []int64{int64(base) - 1024*unit, int64(base) + 3072*unit, int64(c.Cursor) + unit} {
		out = append(out, uint32(v-1), uint32(v), uint32(v+1))
	}
	return out
}

// P5.1: a cursor may be as far from its bounds as these are told the same; nothing but it, and whether it is valid, changes.
func TestAddr(t *testing.T) {
	c, u := pair(t)
	c.Rest = 77
	for _, x := range []struct {
		c     api.Cap
		to    uint32
		valid bool
	}{
		{c, 4096, true}, {c, 9000, true}, {c, 3072, true}, {c, 100000, false}, {c, 8192, true},
		{c, 4096 + 3072*2 - 1, true}, {c, 4096 + 3072*2, false}, {c, 4096 - 2048, true}, {c, 4096 - 2049, false}, {c, 0, false}, {c, last, false},
		{off(c), 4096, false}, {off(c), 4097, false}, {typed(c, 1), 4096, false}, {typed(c, 4095), 4097, false},
		{u, 0, true}, {u, 3071, true}, {u, 3072, false}, {u, last, false},
		{api.Cap{Valid: true}, 5, true}, {api.Cap{Valid: true}, 3072, false},
		{api.Cap{Cursor: 5, B: 5, T: 4, Valid: true}, 5, false}, {api.Cap{E: 22, T: 1, Valid: true}, 0, false}, {api.Cap{B: 4096, T: 4097, Valid: true}, 0, false},
		{made(t, last, 1, 1), last, true}, {made(t, last, 1, 1), last - 1024, true}, {made(t, last, 1, 1), last - 1025, false}, {made(t, last, 1, 1), 0, false},
		{made(t, 0, 1<<31, 1), last, false}, {made(t, 0, 1<<31, 1), 3072<<20 - 1, true}, {api.Cap{E: 21, T: 2048, Valid: true}, last, true},
	} {
		want := at(x.c, x.to)
		want.Valid = x.valid
		if got := derive.Addr(x.c, x.to); got != want {
			t.Errorf("Addr(%v, %d): %v, want %v", x.c, x.to, got, want)
		}
	}
}

// P5.1: Addr's answer is valid just if its parts keep their bounds, and it was open to change; then its bounds are the same.
func TestAddrKeeps(t *testing.T) {
	for _, c := range some(t) {
		for _, to := range values(c) {
			want := at(c, to)
			want.Valid = open(c) && bounds.Keeps(c.E, c.B, c.T, c.Cursor, to)
			got := derive.Addr(c, to)
			if got != want {
				t.Fatalf("Addr(%v, %d): %v, want %v", c, to, got, want)
			}
			low, high := caps.Range(c)
			if base, top := caps.Range(got); got.Valid && (base != low || top != high) {
				t.Fatalf("Addr(%v, %d): %d to %d", c, to, base, top)
			}
		}
	}
}

// P5.1: permissions are those of both, of all 16 bits; of the number the upper bits count for nothing.
func TestAnd(t *testing.T) {
	c, _ := pair(t)
	for _, x := range []struct {
		perms uint16
		with  uint32
		want  uint16
	}{
		{255, 0, 0}, {255, 1, 1}, {255, 255, 255}, {255, last, 255}, {255, 256, 0}, {255, 65536, 0}, {255, 0xffff0000, 0}, {255, 0x10002, 2},
		{0, last, 0}, {api.PermLoad | api.PermStore, api.PermStore | api.PermExec, api.PermStore}, {0xffff, 0xff00, 0xff00}, {0x8001, 0x8000, 0x8000},
	} {
		c.Perms = x.perms
		want := c
		want.Perms = x.want
		if got := derive.And(c, x.with); got != want {
			t.Errorf("%d And %d: %v, want %v", x.perms, x.with, got, want)
		}
	}
	for _, c := range some(t) {
		for _, with := range []uint32{0, 1, 5, 128, 255, 256, 65535, 65536, last} {
			want := c
			want.Perms, want.Valid = uint16(uint32(c.Perms)&with), open(c)
			if got := derive.And(c, with); got != want {
				t.Fatalf("And(%v, %d): %v, want %v", c, with, got, want)
			}
		}
	}
}

// P5.1: Clear takes away that it is valid, and nothing else.
func TestClear(t *testing.T) {
	for _, c := range some(t) {
		if got := derive.Clear(c); got != off(c) {
			t.Errorf("Clear(%v): %v", c, got)
		}
	}
}

// P5.2: the new bounds start at the cursor, and may not leave the old ones.
func TestSet(t *testing.T) {
	c, u := pair(t)
	whole := api.Cap{E: 21, T: 2048, Perms: 3, Valid: true}
	wide := api.Cap{Cursor: 1, B: 1, T: 3001, Valid: true} // more bytes than Encode would tell by this exponent: rounded, new bounds may leave it
	for _, x := range []struct {
		c          api.Cap
		size       uint32
		base       uint32
		top        uint64
		set, exact bool
	}{
		{c, 0, 4096, 4096, true, true}, {c, 1, 4096, 4097, true, true}, {c, 100, 4096, 4196, true, true}, {c, 4096, 4096, 8192, true, true},
		{c, 4097, 4096, 8196, false, false}, {c, 4095, 4096, 8192, true, false}, {c, 2048, 4096, 6144, true, true}, {c, 2049, 4096, 6146, true, false},
		{at(c, 8000), 192, 8000, 8192, true, true}, {at(c, 8000), 193, 8000, 8193, false, false}, {at(c, 8000), 200, 8000, 8200, false, false},
		{at(c, 4097), 4095, 4096, 8192, true, false}, {at(c, 4097), 4094, 4096, 8192, true, false}, {at(c, 4097), 4096, 4096, 8196, false, false},
		{at(c, 4098), 4094, 4098, 8192, true, true},
		{at(c, 8192), 0, 8192, 8192, true, true}, {at(c, 8192), 1, 8192, 8193, false, false}, {at(c, 8193), 0, 8193, 8193, false, false},
		{at(c, 4095), 0, 4095, 4095, false, false}, {at(c, 4095), 2, 4095, 4097, false, false}, {at(c, 4095), 1, 4095, 4096, false, false},
		{at(u, 7), 93, 7, 100, true, true}, {at(u, 7), 94, 7, 101, false, false}, {at(u, 0), 100, 0, 100, true, true},
		{off(c), 100, 4096, 4196, false, false}, {typed(c, 1), 100, 4096, 4196, false, false}, {typed(c, 7), 1, 4096, 4097, false, false},
		{whole, last, 0, end, true, false}, {at(whole, 1), last, 0, end, true, false}, {at(whole, 1<<31), 1 << 31, 1 << 31, end, true, true}, {at(whole, last), 1, last, end, true, true},
		{at(whole, 1<<31+1), 1<<31 - 1, 1 << 31, end, true, false},
		{wide, 3000, 0, 3002, false, false}, {wide, 2048, 1, 2049, true, true}, {wide, 2049, 0, 2050, false, false},
		{at(wide, 2), 2999, 2, 3002, false, false}, {at(wide, 2), 2998, 2, 3000, true, true}, {at(wide, 3), 2997, 2, 3000, true, false},
	} {
		for _, f := range []struct {
			name  string
			call  func(api.Cap, uint32) api.Cap
			valid bool
		}{{"Set", derive.Set, x.set}, {"Exact", derive.Exact, x.exact}} {
			got := f.call(x.c, x.size)
			want := x.c
			want.E, want.B, want.T, want.Valid = got.E, got.B, got.T, f.valid
			if base, top := caps.Range(got); got != want || base != x.base || top != x.top {
				t.Errorf("%s(%v, %d): %v, %d to %d", f.name, x.c, x.size, got, base, top)
			}
		}
	}
}

// P5.2: what ends above all addresses leaves the bounds as they were.
func TestSetBeyondAllAddresses(t *testing.T) {
	c, _ := pair(t)
	whole := api.Cap{E: 21, T: 2048, Perms: 3, Rest: 9, Valid: true}
	for _, x := range []struct {
		c    api.Cap
		size uint32
	}{
		{c, last}, {c, last - 4094}, {at(whole, last), 2}, {at(whole, last), last}, {at(whole, 1<<31), 1<<31 + 1}, {at(whole, 2), last},
		{typed(at(whole, last), 3), 2}, {off(at(whole, last)), 2}, {api.Cap{Cursor: last, E: 255, B: 65535, T: 65535, Valid: true}, 2},
	} {
		if got := derive.Set(x.c, x.size); got != off(x.c) {
			t.Errorf("Set(%v, %d): %v", x.c, x.size, got)
		}
		if got := derive.Exact(x.c, x.size); got != off(x.c) {
			t.Errorf("Exact(%v, %d): %v", x.c, x.size, got)
		}
	}
	for _, got := range []api.Cap{derive.Set(c, last-4095), derive.Exact(c, last-4095)} {
		if got.E != 21 || got.B != 0 || got.T != 2048 || got.Valid {
			t.Errorf("what ends at the end of all addresses: %v", got)
		}
	}
}

// P5.2: Set's and Exact's answers are what the promise says of them, whatever they are made of.
func TestSetAsEncoded(t *testing.T) {
	for _, c := range some(t) {
		for _, size := range values(c) {
			top := uint64(c.Cursor) + uint64(size)
			set, only := off(c), off(c)
			if top <= end {
				var exact bool
				set.E, set.B, set.T, exact, _ = bounds.Encode(c.Cursor, top)
				low, high, _ := bounds.Round(c.Cursor, top)
				base, above := caps.Range(c)
				only = set
				set.Valid = open(c) && low >= base && high <= above
				only.Valid = set.Valid && exact
			}
			if got := derive.Set(c, size); got != set {
				t.Fatalf("Set(%v, %d): %v, want %v", c, size, got, set)
			}
			if got := derive.Exact(c, size); got != only {
				t.Fatalf("Exact(%v, %d): %v, want %v", c, size, got, only)
			}
		}
	}
}

// authorities tells what is one, or lacks one thing of it, over types of all sorts.
func authorities(t *testing.T) []api.Cap {
	t.Helper()
	const both = api.PermSeal | api.PermUnseal
	low := made(t, 0, 100, both)
	all := api.Cap{E: 21, T: 2048, Perms: both, Valid: true}
	out := []api.Cap{
		at(low, 7), at(low, 1), at(low, 0), at(low, 99), at(low, 100), at(low, 101), at(made(t, 5, 2, both), 4), made(t, 5, 2, both),
		at(made(t, 5, 2, both), 6), at(made(t, 5, 2, both), 7), made(t, 5, 0, both),
		at(all, 1), at(all, 4094), at(all, 4095), at(all, 4096), at(all, 4097), at(all, 65535), at(all, 65536), at(all, 65536+7), at(all, last), at(all, 0),
		{Cursor: 7, B: 9, T: 8, Perms: both, Valid: true}, {Cursor: 7, E: 22, T: 2048, Perms: both, Valid: true},
	}
	for _, u := range out {
		for _, perms := range []uint16{0, api.PermSeal, api.PermUnseal, api.AllPerms, api.AllPerms &^ api.PermSeal, api.AllPerms &^ api.PermUnseal, 0xff00} {
			v := u
			v.Perms = perms
			out = append(out, v)
		}
		out = append(out, off(u), typed(u, 7), typed(off(u), 7))
	}
	return out
}

// P5.3: what is open to change is sealed by an authority, by its cursor.
func TestSeal(t *testing.T) {
	c, u := pair(t)
	c.Rest = 5
	seals := u
	seals.Perms = api.PermSeal
	unseals := u
	unseals.Perms = api.PermUnseal
	for _, x := range []struct {
		c, by, want api.Cap
	}{
		{c, u, typed(c, 7)}, {c, seals, typed(c, 7)}, {c, at(u, 99), typed(c, 99)}, {c, at(u, 1), typed(c, 1)},
		{c, at(made(t, 0, 4096, api.PermSeal), 4095), typed(c, 4095)}, {u, u, typed(u, 7)}, {api.Cap{Valid: true}, u, api.Cap{Type: 7, Valid: true}},
		{c, unseals, off(c)}, {c, at(u, 0), off(c)}, {c, at(u, 100), off(c)}, {c, off(u), off(c)}, {c, typed(u, 9), off(c)}, {c, typed(u, 7), off(c)},
		{c, at(made(t, 0, 8192, api.PermSeal), 4096), off(c)}, {c, c, off(c)},
		{off(c), u, off(c)}, {typed(c, 7), u, typed(off(c), 7)}, {typed(c, 8), u, typed(off(c), 8)}, {typed(c, 4096), u, typed(off(c), 4096)},
		{c, at(made(t, 50, 10, api.PermSeal), 49), off(c)}, {c, made(t, 50, 10, api.PermSeal), typed(c, 50)},
		{c, at(made(t, 50, 10, api.PermSeal), 59), typed(c, 59)}, {c, at(made(t, 50, 10, api.PermSeal), 60), off(c)},
	} {
		if got := derive.Seal(x.c, x.by); got != x.want {
			t.Errorf("Seal(%v, %v): %v, want %v", x.c, x.by, got, x.want)
		}
	}
	for _, by := range authorities(t) {
		for _, c := range []api.Cap{c, off(c), typed(c, 7), by} {
			want := off(c)
			if open(c) && over(by, by.Cursor, api.PermSeal) {
				want = typed(c, uint16(by.Cursor))
			}
			if got := derive.Seal(c, by); got != want {
				t.Errorf("Seal(%v, %v): %v, want %v", c, by, got, want)
			}
		}
	}
}

// P5.3: what is sealed is opened by an authority over its type, and by no other.
func TestOpen(t *testing.T) {
	c, u := pair(t)
	c.Rest = 5
	s := typed(c, 7)
	seals := u
	seals.Perms = api.PermSeal
	unseals := u
	unseals.Perms = api.PermUnseal
	for _, x := range []struct {
		c, by, want api.Cap
	}{
		{s, u, c}, {s, unseals, c}, {typed(c, 99), at(u, 99), c}, {typed(c, 1), at(u, 1), c}, {typed(c, 4095), at(made(t, 0, 4096, api.PermUnseal), 4095), c},
		{s, seals, off(s)}, {s, at(u, 8), off(s)}, {s, at(u, 6), off(s)}, {s, at(u, 0), off(s)}, {s, off(u), off(s)}, {s, typed(u, 7), off(s)},
		{c, u, off(c)}, {c, at(u, 0), off(c)}, {off(s), u, off(s)}, {off(c), u, off(c)},
		{typed(c, 100), at(u, 100), off(typed(c, 100))}, {typed(c, 4096), at(made(t, 0, 8192, api.PermUnseal), 4096), off(typed(c, 4096))},
		{s, at(made(t, 8, 10, api.PermUnseal), 7), off(s)}, {s, made(t, 7, 1, api.PermUnseal), c}, {s, made(t, 7, 0, api.PermUnseal), off(s)},
	} {
		if got := derive.Open(x.c, x.by); got != x.want {
			t.Errorf("Open(%v, %v): %v, want %v", x.c, x.by, got, x.want)
		}
	}
	for _, by := range authorities(t) {
		for _, kind := range []uint16{0, 1, 4, 5, 6, 7, 99, 100, 4094, 4095, 4096, 65535} {
			for _, c := range []api.Cap{typed(c, kind), off(typed(c, kind)), typed(by, kind)} {
				want := off(c)
				if c.Valid && kind != 0 && over(by, uint32(kind), api.PermUnseal) {
					want = typed(c, 0)
				}
				if got := derive.Open(c, by); got != want {
					t.Errorf("Open(%v, %v): %v, want %v", c, by, got, want)
				}
			}
		}
	}
}

// P5.4: sound bits of one that is not sealed, and lies within by, are made valid, whether they were or not.
func TestBuild(t *testing.T) {
	c, u := pair(t)
	part := made(t, 4100, 16, api.PermLoad)
	part.Rest = 1<<24 - 1
	few := part
	few.Perms = api.PermStore
	change := func(f func(*api.Cap)) api.Cap {
		x := part
		f(&x)
		return x
	}
	for _, x := range []struct {
		bits, by api.Cap
		valid    bool
	}{
		{part, c, true}, {part, at(c, 9000), true}, {c, c, true}, {u, u, true}, {part, part, true}, {at(part, 5000), c, true},
		{derive.Set(c, 100), c, true}, {c, derive.Set(c, 100), false}, {part, few, false},
		{part, off(c), false}, {part, typed(c, 7), false}, {part, off(typed(c, 7)), false}, {part, u, false},
		{typed(part, 1), c, false}, {typed(part, 4095), c, false}, {typed(part, 4096), c, false},
		{change(func(x *api.Cap) { x.Perms = 256 }), c, false}, {change(func(x *api.Cap) { x.Perms = api.AllPerms }), c, true},
		{change(func(x *api.Cap) { x.Rest = 1 << 24 }), c, false}, {change(func(x *api.Cap) { x.Rest = last }), c, false},
		{change(func(x *api.Cap) { x.E = 22 }), c, false}, {change(func(x *api.Cap) { x.E = 255 }), c, false},
		{change(func(x *api.Cap) { x.B = 4096 }), c, false}, {change(func(x *api.Cap) { x.T = 4096 }), c, false},
		{change(func(x *api.Cap) { x.B, x.T = 5, 4 }), c, true}, {change(func(x *api.Cap) { x.E = 21 }), c, false},
		{made(t, 4095, 2, 1), c, false}, {made(t, 8191, 2, 1), c, false}, {made(t, 8191, 1, 1), c, true}, {made(t, 4096, 4096, 1), c, true}, {made(t, 4096, 4100, 1), c, false},
		{caps.Number(0), c, true}, {caps.Number(last), c, true}, {made(t, 77, 0, 1), c, true}, {made(t, 77, 0, 255), part, false},
		{caps.Number(9), api.Cap{Valid: true}, true}, {part, api.Cap{Valid: true}, false}, {caps.Number(9), api.Cap{}, false},
	} {
		want := x.bits
		want.Valid = x.valid
		for _, bits := range []api.Cap{off(x.bits), want, x.bits} {
			if got := derive.Build(bits, x.by); got != want {
				t.Errorf("Build(%v, %v): %v, want %v", bits, x.by, got, want)
			}
		}
	}
	all := some(t)
	for _, by := range all {
		for _, bits := range all {
			want := bits
			want.Valid = open(by) && caps.Sound(bits) && bits.Type == 0 && caps.Within(bits, by)
			if got := derive.Build(bits, by); got != want {
				t.Fatalf("Build(%v, %v): %v, want %v", bits, by, got, want)
			}
		}
	}
}

// born is a capability, and of which ones it was made: of Build the authority alone.
type born struct{ child, parent api.Cap }

// children tells what all calls answer of c and v, and of c and other.
func children(c, other api.Cap, v uint32) []born {
	return []born{
		{derive.Addr(c, v), c}, {derive.Set(c, v), c}, {derive.Exact(c, v), c}, {derive.And(c, v), c}, {derive.Clear(c), c},
		{derive.Seal(c, other), c}, {derive.Open(c, other), c}, {derive.Build(c, other), other}, {derive.Build(off(c), other), other},
	}
}

// P5.5 (W3): what is valid lies within what it was made of, and this was valid.
func TestNeverMore(t *testing.T) {
	all := some(t)
	for i, c := range all {
		for j, v := range values(c) {
			for _, b := range children(c, all[(i*7+j)%len(all)], v) {
				if b.child.Valid && !(b.parent.Valid && caps.Within(b.child, b.parent)) {
					t.Fatalf("%v comes of %v", b.child, b.parent)
				}
			}
		}
	}
}

// P5.5 (W3): the same along many calls, one of the other's answer: all stays within the one from which they began.
func TestNeverMoreAlongCalls(t *testing.T) {
	for seed := range 30 {
		first := made(t, 4096, 4096, api.AllPerms)
		if seed%2 == 1 {
			first = made(t, 0, 1<<12, api.AllPerms)
		}
		pool, n, deep := []api.Cap{first}, sample(900+seed), 0
		for i := 0; i+2 < len(n); i += 3 {
			c, other := pool[int(n[i])%len(pool)], pool[int(n[i+1])%len(pool)]
			near := values(c)
			for _, b := range children(c, other, near[int(n[i+2])%len(near)]) {
				if !b.child.Valid {
					continue
				}
				if !caps.Within(b.child, first) || !caps.Within(b.child, b.parent) || !b.parent.Valid {
					t.Fatalf("%v comes of %v, and this of %v", b.child, b.parent, first)
				}
				pool, deep = append(pool, b.child), deep+1
			}
		}
		if deep < 100 {
			t.Errorf("only %d are valid", deep)
		}
	}
}

// P5.6 (W4): of what is sealed nothing valid comes but by an authority over its type.
func TestSealedStaysSealed(t *testing.T) {
	all := append(some(t), authorities(t)...)
	for _, c := range all {
		if c.Type == 0 {
			continue
		}
		for _, v := range values(c) {
			for i, got := range []api.Cap{derive.Addr(c, v), derive.Set(c, v), derive.Exact(c, v), derive.And(c, v), derive.Clear(c)} {
				if got.Valid || got.Type != c.Type {
					t.Fatalf("call %d of %v, %d: %v", i, c, v, got)
				}
			}
		}
		for _, by := range all {
			opens := c.Valid && over(by, uint32(c.Type), api.PermUnseal)
			if got := derive.Open(c, by); got.Valid != opens {
				t.Fatalf("Open(%v, %v): %v", c, by, got)
			}
			if derive.Seal(c, by).Valid || derive.Build(c, by).Valid || derive.Build(off(c), by).Valid || derive.Build(by, c).Valid || derive.Seal(by, c).Valid || derive.Open(by, c).Valid {
				t.Fatalf("of the sealed %v and %v something valid comes", c, by)
			}
		}
	}
}

// P5.6: what is sealed and opened is as it was.
func TestSealedAndOpened(t *testing.T) {
	done := 0
	for _, by := range authorities(t) {
		for _, c := range some(t) {
			s := derive.Seal(c, by)
			if s.Valid && by.Perms&api.PermUnseal != 0 {
				done++
				if got := derive.Open(s, by); got != c {
					t.Fatalf("%v sealed and opened by %v: %v", c, by, got)
				}
			}
		}
	}
	if done == 0 {
		t.Error("nothing was sealed and opened")
	}
}

// P5.7: what Set or Exact made is made again of its bits, wherever its cursor went.
func TestBuiltAgain(t *testing.T) {
	done := 0
	for _, c := range some(t) {
		if !caps.Sound(c) {
			continue
		}
		for _, size := range values(c) {
			for _, got := range []api.Cap{derive.Set(c, size), derive.Exact(c, size)} {
				for _, to := range append(values(got), got.Cursor) {
					moved := derive.Addr(got, to)
					if !moved.Valid {
						continue
					}
					done++
					if again := derive.Build(derive.Clear(moved), c); again != moved {
						t.Fatalf("%v of %v: built again %v", moved, c, again)
					}
				}
			}
		}
	}
	if done == 0 {
		t.Error("nothing was made by Set")
	}
}

// P5.1 to P5.4: the chapter's examples.
func TestExamples(t *testing.T) {
	c, u := pair(t)
	s := derive.Seal(c, u)
	part := derive.Set(c, 100)
	for i, x := range []struct {
		got   api.Cap
		valid bool
		base  uint32
		top   uint64
	}{
		{derive.Addr(c, 9000), true, 4096, 8192}, {derive.Addr(c, 3072), true, 4096, 8192},
		{part, true, 4096, 4196}, {derive.Set(derive.Addr(c, 4097), 4095), true, 4096, 8192}, {derive.Exact(derive.Addr(c, 4097), 4095), false, 4096, 8192},
		{s, true, 4096, 8192}, {derive.Open(s, u), true, 4096, 8192},
		{derive.Build(derive.Clear(part), c), true, 4096, 4196}, {derive.Build(derive.Clear(c), part), false, 4096, 8192},
	} {
		if base, top := caps.Range(x.got); x.got.Valid != x.valid || base != x.base || top != x.top {
			t.Errorf("%d: %v, %d to %d", i, x.got, base, top)
		}
	}
	for i, got := range []api.Cap{
		derive.Addr(c, 100000), derive.Set(derive.Addr(c, 8000), 200), derive.Set(c, last),
		derive.Open(s, derive.Addr(u, 8)), derive.Seal(c, derive.Addr(u, 0)),
		derive.Addr(s, 4096), derive.And(s, 1), derive.Set(s, 1),
	} {
		if got.Valid {
			t.Errorf("%d: %v is valid", i, got)
		}
	}
	if s.Type != 7 || derive.Open(s, u) != c || derive.Build(derive.Clear(part), c) != part {
		t.Errorf("sealed %v, opened %v", s, derive.Open(s, u))
	}
}
