package scan_test

import (
	"fmt"
	"math/rand"
	"slices"
	"strings"
	"sync"
	"testing"

	"fallow/api"
	"fallow/arena"
	"fallow/caps"
	"fallow/derive"
	"fallow/paint"
	"fallow/scan"
)

const (
	limit = api.MaxPages * api.Page
	last  = 1<<32 - 1
)

// region is a shorter way to write one.
func region(at, size uint32) api.Region { return api.Region{At: at, Size: size} }

// painted is a paint of so many bytes in which these regions are painted.
func painted(t *testing.T, bytes int, l ...api.Region) *paint.Paint {
	t.Helper()
	p := paint.New(bytes)
	for _, r := range l {
		if !p.Add(r) {
			t.Fatalf("Add(%v) to %d bytes", r, bytes)
		}
	}
	return p
}

// over is a valid capability of just this region, that there must be.
func over(t *testing.T, at, size uint32) api.Cap {
	t.Helper()
	c, ok := caps.Make(region(at, size), api.AllPerms)
	if !ok {
		t.Fatalf("Make(%d %d)", at, size)
	}
	return c
}

// off is c, not valid.
func off(c api.Cap) api.Cap {
	c.Valid = false
	return c
}

// none are paints that are none.
func none() []*paint.Paint {
	return []*paint.Paint{nil, {}, new(paint.Paint), paint.New(8), (*paint.Paint)(nil).Copy()}
}

// is tells whether c is stale, as the chapter's Words do: by the regions that are painted.
func is(c api.Cap, l []api.Region) bool {
	base, _ := caps.Range(c)
	in := func(r api.Region) bool { return base >= r.At && uint64(base) < uint64(r.At)+uint64(r.Size) }
	return c.Valid && slices.ContainsFunc(l, in)
}

// made is an arena of so many pages, that there must be.
func made(t *testing.T, pages int) *arena.Arena {
	t.Helper()
	a, e := arena.New(pages)
	if a == nil || e != api.OK {
		t.Fatalf("New(%d): %v", pages, e)
	}
	return a
}

// store lays capabilities into an arena, from an address on.
func store(t *testing.T, a *arena.Arena, at uint32, l ...api.Cap) {
	t.Helper()
	for i, c := range l {
		if !a.StoreCap(at+uint32(i)*16, c) {
			t.Fatalf("StoreCap(%d)", at+uint32(i)*16)
		}
	}
}

// all is what an arena has: its bytes, and which tags are set.
func all(t *testing.T, a *arena.Arena) (string, []uint32) {
	t.Helper()
	s, ok := a.Read(0, a.Size())
	if !ok || len(s) != a.Size() {
		t.Fatalf("Read of all: %d bytes, %v", len(s), ok)
	}
	var set []uint32
	for page := range a.Size() / api.Page {
		set = append(set, a.Tagged(page)...)
	}
	return s, set
}

// same holds an arena against what it should have.
func same(t *testing.T, what string, a *arena.Arena, s string, set []uint32) {
	t.Helper()
	got, tagged := all(t, a)
	if got != s {
		t.Fatalf("%s: a byte has changed", what)
	}
	if !slices.Equal(tagged, set) {
		t.Fatalf("%s: tags %v, want %v", what, tagged, set)
	}
}

// chanced is a capability by chance: mostly one whose base lies within the first bytes, of all kinds of fields.
func chanced(chance *rand.Rand, bytes int) api.Cap {
	if chance.Intn(4) == 0 {
		return api.Cap{
			Cursor: uint32(chance.Intn(2 * bytes)), E: uint8(chance.Intn(24)), B: uint16(chance.Intn(4096)), T: uint16(chance.Intn(4096)),
			Perms: uint16(chance.Intn(256)), Type: uint16(chance.Intn(4096)), Rest: uint32(chance.Intn(1 << 24)), Valid: chance.Intn(4) > 0,
		}
	}
	at := uint32(chance.Intn(bytes))
	c, ok := caps.Make(region(at, uint32(chance.Intn(600))), uint16(chance.Intn(256)))
	if !ok {
		return caps.Number(at)
	}
	c.Cursor += uint32(chance.Intn(64))
	c.Type, c.Rest, c.Valid = uint16(chance.Intn(3)), uint32(chance.Intn(1<<24)), chance.Intn(5) > 0
	return c
}

// some are some regions by chance, within so many bytes, no two of which share a granule.
func some(chance *rand.Rand, bytes int) []api.Region {
	var l []api.Region
	for at := chance.Intn(4) * 16; at < bytes; {
		size := min((1+chance.Intn(12))*16, bytes-at)
		l = append(l, region(uint32(at), uint32(size)))
		at += size + chance.Intn(12)*16
	}
	return l
}

// P17.1 to P17.3: the examples of the document, in their order.
func TestExamples(t *testing.T) {
	p := painted(t, 4096, region(256, 64))
	c, d, e := over(t, 256, 64), over(t, 240, 80), over(t, 272, 0)
	if base, top := caps.Range(e); base != 272 || top != 272 {
		t.Fatalf("e: %d to %d", base, top)
	}
	if !scan.Stale(c, p) || scan.Stale(d, p) || !scan.Stale(e, p) || scan.Stale(off(c), p) || scan.Stale(c, nil) {
		t.Error("Stale")
	}
	l, n := scan.Caps([]api.Cap{c, d, e}, p)
	if !slices.Equal(l, []api.Cap{off(c), d, off(e)}) || n != 2 {
		t.Errorf("Caps: %v, %d", l, n)
	}
	a := made(t, 16)
	store(t, a, 32, c, d)
	if n := scan.Page(a, 0, p); n != 1 || !slices.Equal(a.Tagged(0), []uint32{48}) {
		t.Errorf("Page: %d, %v", n, a.Tagged(0))
	}
	if n := scan.Page(a, 0, p); n != 0 || !slices.Equal(a.Tagged(0), []uint32{48}) {
		t.Errorf("Page, again: %d, %v", n, a.Tagged(0))
	}
}

// P17.1: bases around a painted region, with tops of all kinds: the base alone counts.
func TestStaleByBase(t *testing.T) {
	p := painted(t, 4096, region(256, 64), region(512, 16))
	for base := uint32(0); base < 600; base++ {
		want := base >= 256 && base < 320 || base >= 512 && base < 528
		for _, size := range []uint32{0, 1, 8, 16, 40, 64, 256, 300, 2000} {
			c := over(t, base, size)
			if scan.Stale(c, p) != want {
				t.Fatalf("Stale of %d %d: %v", base, size, !want)
			}
			if scan.Stale(off(c), p) {
				t.Fatalf("Stale of %d %d, not valid", base, size)
			}
		}
	}
}

// P17.1: the first and the last granule, and what lies behind a paint's bytes.
func TestStaleAtEnds(t *testing.T) {
	whole := painted(t, limit, region(0, limit))
	for base, want := range map[uint32]bool{0: true, 15: true, limit - 16: true, limit - 1: true, limit: false, limit + 16: false, 1 << 20: false, 1<<31 + 16: false, last - 15: false, last: false} {
		if scan.Stale(over(t, base, 1), whole) != want {
			t.Errorf("Stale of %d 1: %v", base, !want)
		}
	}
	ends := painted(t, limit, region(0, 16), region(limit-16, 16))
	for base, want := range map[uint32]bool{0: true, 15: true, 16: false, limit - 17: false, limit - 16: true, limit - 1: true, limit: false} {
		if scan.Stale(over(t, base, 1), ends) != want {
			t.Errorf("Stale of %d 1, by the ends: %v", base, !want)
		}
	}
	for _, p := range []*paint.Paint{painted(t, 0), painted(t, limit)} {
		if scan.Stale(over(t, 0, 16), p) {
			t.Error("Stale by a paint in which nothing is painted")
		}
	}
}

// P17.1: no other field than those of the bounds, and whether it is valid, counts; of these the base as caps.Range tells it, wherever the cursor is.
func TestStaleByNoOtherField(t *testing.T) {
	p := painted(t, 4096, region(256, 64))
	for _, at := range []uint32{240, 255, 256, 300, 319, 320} {
		want := at >= 256 && at < 320
		c := over(t, at, 8)
		kinds := map[string]api.Cap{"as it is": c}
		put := func(what string, change func(c *api.Cap)) {
			d := c
			change(&d)
			kinds[what] = d
		}
		put("without permissions", func(c *api.Cap) { c.Perms = 0 })
		put("sealed", func(c *api.Cap) { c.Type = 7 })
		put("with a rest", func(c *api.Cap) { c.Rest = 1<<24 - 1 })
		put("not sound", func(c *api.Cap) { c.Rest, c.Perms, c.Type = last, 1<<16-1, 1<<16-1 })
		put("its cursor below its base", func(c *api.Cap) { c.Cursor = at - 100 })
		put("its cursor among what is painted", func(c *api.Cap) { c.Cursor = 290 })
		put("its cursor behind its top", func(c *api.Cap) { c.Cursor = 1000 })
		for what, d := range kinds {
			if base, _ := caps.Range(d); base != at {
				t.Fatalf("%d, %s: base %d", at, what, base)
			}
			if scan.Stale(d, p) != want || scan.Stale(off(d), p) {
				t.Errorf("Stale of %d, %s: %v", at, what, !want)
			}
		}
	}
	far := api.Cap{Cursor: 300, E: api.MaxE + 1, Valid: true} // caps.Range tells 0 to 0 of it
	if scan.Stale(far, p) || !scan.Stale(far, painted(t, 256, region(0, 16))) {
		t.Error("Stale of an exponent that is too great")
	}
	if n := caps.Number(256); scan.Stale(n, painted(t, 4096, region(0, 4096))) {
		t.Error("Stale of a number")
	}
}

// P17.1: what is derived of a grant's capability is stale with it.
func TestStaleOfDerived(t *testing.T) {
	p := painted(t, 8192, region(4096, 4096))
	c := over(t, 4096, 4096)
	parts := []api.Cap{c, derive.Addr(c, 9000), derive.Set(c, 100), derive.Set(derive.Addr(c, 8191), 1), derive.Exact(derive.Addr(c, 5000), 50), derive.And(c, 0), derive.Build(derive.Clear(c), c)}
	l, n := scan.Caps(parts, p)
	for i, d := range parts {
		if !d.Valid || !scan.Stale(d, p) || l[i] != off(d) {
			t.Errorf("part %d: %v", i, d)
		}
	}
	if n != len(parts) {
		t.Errorf("Caps: %d", n)
	}
}

// P17.1 to P17.3, R3: by a paint that is none nothing is stale.
func TestNoPaint(t *testing.T) {
	list := []api.Cap{over(t, 0, 16), over(t, 256, 64), caps.Number(5), {Valid: true}}
	var f api.Frame
	for i := range f.Regs {
		f.Regs[i] = list[i%len(list)]
	}
	f.Pc = list[1]
	a := made(t, 16)
	store(t, a, 32, list...)
	s, set := all(t, a)
	for i, p := range none() {
		for _, c := range list {
			if scan.Stale(c, p) {
				t.Errorf("%d: Stale of %v", i, c)
			}
		}
		if l, n := scan.Caps(list, p); !slices.Equal(l, list) || n != 0 {
			t.Errorf("%d: Caps: %v, %d", i, l, n)
		}
		if g, n := scan.Frame(f, p); g != f || n != 0 {
			t.Errorf("%d: Frame: %v, %d", i, g, n)
		}
		for _, page := range []int{-1, 0, 1, 16} {
			if scan.Page(a, page, p) != 0 {
				t.Errorf("%d: Page(%d)", i, page)
			}
		}
		same(t, "by none", a, s, set)
	}
}

// P17.2: no capabilities, one, many; each stands where it stood.
func TestCaps(t *testing.T) {
	p := painted(t, 4096, region(256, 64))
	for _, l := range [][]api.Cap{nil, {}, make([]api.Cap, 0, 4)} {
		if got, n := scan.Caps(l, p); len(got) != 0 || n != 0 {
			t.Errorf("Caps of none: %v, %d", got, n)
		}
	}
	stale, kept := over(t, 256, 64), over(t, 320, 64)
	for set := range 1 << 6 {
		var l, want []api.Cap
		count := 0
		for i := range 6 {
			if set>>i&1 != 0 {
				c := stale
				c.Cursor += uint32(i)
				l, want = append(l, c), append(want, off(c))
				count++
			} else {
				c := kept
				c.Cursor += uint32(i)
				l, want = append(l, c), append(want, c)
			}
		}
		if got, n := scan.Caps(l, p); !slices.Equal(got, want) || n != count {
			t.Fatalf("Caps, set %06b: %v, %d", set, got, n)
		}
	}
	many := slices.Repeat([]api.Cap{stale, kept, off(stale), caps.Number(256), stale}, 20000)
	got, n := scan.Caps(many, p)
	if n != 40000 || !slices.Equal(got, slices.Repeat([]api.Cap{off(stale), kept, off(stale), caps.Number(256), off(stale)}, 20000)) {
		t.Errorf("Caps of many: %d", n)
	}
}

// P17.2, R5: what is handed in, and the room behind its end, is as it was; what is answered is new.
func TestCapsAreNew(t *testing.T) {
	p := painted(t, 4096, region(256, 64))
	stale, kept := over(t, 256, 64), over(t, 320, 64)
	room := []api.Cap{kept, stale, kept, stale, stale, kept, stale}
	was := slices.Clone(room)
	l := room[1:4]
	got, n := scan.Caps(l, p)
	if n != 2 || !slices.Equal(room, was) {
		t.Fatalf("Caps: %d, and what was handed in is %v", n, room)
	}
	again, _ := scan.Caps(l, p)
	_ = append(got, caps.Number(1), caps.Number(2), caps.Number(3))
	for i := range got[:cap(got)] {
		got[:cap(got)][i] = caps.Number(7)
	}
	if !slices.Equal(room, was) || !slices.Equal(again, []api.Cap{off(stale), kept, off(stale)}) {
		t.Error("what was answered shares with what was handed in, or with another answer")
	}
	clear(room)
	if !slices.Equal(again, []api.Cap{off(stale), kept, off(stale)}) {
		t.Error("what was handed in is kept")
	}
	fresh := []api.Cap{kept}
	if got, n = scan.Caps(fresh, p); n != 0 {
		t.Fatalf("Caps: %d, though nothing is stale", n)
	}
	got[0] = stale
	if fresh[0] != kept {
		t.Error("where nothing is stale, the list itself was answered")
	}
}

// P17.2: of a frame each register, and the program's capability.
func TestFrame(t *testing.T) {
	p := painted(t, 4096, region(256, 64))
	stale, kept := over(t, 256, 64), over(t, 320, 64)
	var none, full api.Frame
	for i := range none.Regs {
		none.Regs[i], full.Regs[i] = kept, stale
		none.Regs[i].Cursor += uint32(i)
		full.Regs[i].Cursor += uint32(i)
	}
	none.Pc, full.Pc = kept, stale
	none.Pc.Rest, full.Pc.Rest = 9, 9
	check := func(what string, f, want api.Frame, count int) {
		t.Helper()
		if got, n := scan.Frame(f, p); got != want || n != count {
			t.Errorf("%s: %v, %d", what, got, n)
		}
	}
	check("a zero one", api.Frame{}, api.Frame{}, 0)
	check("nothing stale", none, none, 0)
	for i := range none.Regs {
		f, want := none, none
		f.Regs[i], want.Regs[i] = stale, off(stale)
		check(fmt.Sprintf("register %d", i), f, want, 1)
		f.Pc, want.Pc = full.Pc, off(full.Pc)
		check(fmt.Sprintf("register %d and the program's", i), f, want, 2)
	}
	f, want := none, none
	f.Pc, want.Pc = stale, off(stale)
	check("the program's", f, want, 1)
	want = api.Frame{Pc: off(full.Pc)}
	for i, c := range full.Regs {
		want.Regs[i] = off(c)
	}
	was := full
	check("all", full, want, 17)
	check("all, again", want, want, 0)
	if full != was {
		t.Error("the frame that was handed in has changed")
	}
	full.Pc, want.Pc = none.Pc, none.Pc
	check("all registers", full, want, 16)
}

// P17.2: a frame's capabilities are told as a list's are.
func TestFrameAsCaps(t *testing.T) {
	chance := rand.New(rand.NewSource(172))
	for range 2000 {
		regions := some(chance, 4096)
		p := painted(t, 4096, regions...)
		var f api.Frame
		for i := range f.Regs {
			f.Regs[i] = chanced(chance, 4096)
		}
		f.Pc = chanced(chance, 4096)
		was := f
		g, n := scan.Frame(f, p)
		l, m := scan.Caps(append(slices.Clone(f.Regs[:]), f.Pc), p)
		if n != m || !slices.Equal(l[:16], g.Regs[:]) || l[16] != g.Pc || f != was {
			t.Fatalf("Frame of %v by %v: %v, %d", f, regions, g, n)
		}
	}
}

// P17.3: each granule of a page, each page of an arena, of that one page alone.
func TestPage(t *testing.T) {
	p := painted(t, 4096, region(256, 64))
	stale, kept := over(t, 256, 64), over(t, 320, 64)
	for at := uint32(0); at < 4096; at += 16 {
		a := made(t, 16)
		store(t, a, 0, slices.Repeat([]api.Cap{kept}, 256)...)
		store(t, a, at, stale)
		s, set := all(t, a)
		for page := range 16 {
			if page != int(at/256) && scan.Page(a, page, p) != 0 {
				t.Fatalf("Page(%d), stale at %d", page, at)
			}
		}
		same(t, "the other pages", a, s, set)
		if scan.Page(a, int(at/256), p) != 1 {
			t.Fatalf("Page, stale at %d", at)
		}
		set = slices.DeleteFunc(set, func(tagged uint32) bool { return tagged == at })
		same(t, "its page", a, s, set)
		if c, ok := a.LoadCap(at); !ok || c != off(stale) {
			t.Fatalf("behind it, at %d: %v", at, c)
		}
	}
}

// P17.3: a page in which all is stale, and its neighbours, the first and the last page of the greatest arena, too.
func TestWholePages(t *testing.T) {
	p := painted(t, limit, region(limit-64, 64))
	a := made(t, api.MaxPages)
	for at := uint32(0); at < limit; at += 16 {
		store(t, a, at, over(t, limit-64+at%64, 1))
	}
	s, set := all(t, a)
	for _, page := range []int{0, 1, 500, 1022, 1023} {
		if n := scan.Page(a, page, p); n != 16 || len(a.Tagged(page)) != 0 {
			t.Fatalf("Page(%d): %d, %v", page, n, a.Tagged(page))
		}
		set = slices.DeleteFunc(set, func(at uint32) bool { return int(at/256) == page })
		same(t, fmt.Sprintf("Page(%d)", page), a, s, set)
		if scan.Page(a, page, p) != 0 {
			t.Fatalf("Page(%d), again", page)
		}
	}
}

// P17.3: bytes of a stale capability without a tag are no capability, and count for nothing.
func TestPageWithoutTags(t *testing.T) {
	p := painted(t, 4096, region(256, 64))
	stale := over(t, 256, 64)
	a := made(t, 16)
	store(t, a, 0, off(stale), stale, stale, stale)
	a.Write(64, caps.Bytes(stale))
	a.Untag(16)
	a.Store(47, 1, 0)
	s, _ := all(t, a)
	if n := scan.Page(a, 0, p); n != 1 {
		t.Errorf("Page: %d", n)
	}
	same(t, "behind it", a, s, nil)
}

// P17.3, R1, R3: pages that there are not, arenas that are none.
func TestNoPage(t *testing.T) {
	p := painted(t, limit, region(0, limit))
	a := made(t, 16)
	store(t, a, 0, slices.Repeat([]api.Cap{over(t, 256, 64)}, 256)...)
	s, set := all(t, a)
	strange := []int{-1 << 63, -1<<63 + 1, -1 << 60, -1 << 56, -1 << 32, -1 << 31, -1 << 24, -1025, -16, -2, -1, 16, 17, 255, 256, 1023, 1024, 1025, 1 << 20, 1 << 24, 1<<24 + 1, 1 << 28, 1 << 31, 1 << 32, 1<<32 + 1, 1 << 52, 1 << 56, 1 << 60, 1<<63 - 1}
	for _, page := range strange {
		if n := scan.Page(a, page, p); n != 0 {
			t.Errorf("Page(%d): %d", page, n)
		}
	}
	same(t, "pages that there are not", a, s, set)
	few, _ := arena.New(15)
	for _, a := range []*arena.Arena{nil, {}, few, (*arena.Arena)(nil).Copy()} {
		for _, page := range append(strange, 0, 1, 15) {
			if n := scan.Page(a, page, p); n != 0 {
				t.Errorf("Page(%d) of none: %d", page, n)
			}
		}
		if scan.Page(a, 0, nil) != 0 {
			t.Error("Page of none, by none")
		}
	}
}

// P17.1, P17.2, P17.4: lists by chance, against the Words: nothing is stale behind it, what was not stale is as it was, a second look finds nothing.
func TestLists(t *testing.T) {
	chance := rand.New(rand.NewSource(174))
	found := 0
	for range 2000 {
		bytes := []int{0, 16, 256, 4096, limit}[chance.Intn(5)]
		regions := some(chance, bytes)
		p := painted(t, bytes, regions...)
		l := make([]api.Cap, chance.Intn(40))
		want, count := make([]api.Cap, len(l)), 0
		for i := range l {
			l[i] = chanced(chance, max(bytes, 256))
			want[i] = l[i]
			stale := is(l[i], regions)
			if scan.Stale(l[i], p) != stale {
				t.Fatalf("Stale(%v) by %v: %v", l[i], regions, !stale)
			}
			if stale {
				want[i].Valid = false
				count++
			}
		}
		got, n := scan.Caps(l, p)
		if !slices.Equal(got, want) || n != count {
			t.Fatalf("Caps(%v) by %v: %v, %d", l, regions, got, n)
		}
		if slices.ContainsFunc(got, func(c api.Cap) bool { return scan.Stale(c, p) }) {
			t.Fatalf("Caps(%v) by %v: one is stale yet", l, regions)
		}
		if again, n := scan.Caps(got, p); !slices.Equal(again, got) || n != 0 {
			t.Fatalf("Caps, again: %v, %d", again, n)
		}
		found += count
	}
	if found < 1000 {
		t.Errorf("no more than %d were stale", found)
	}
}

// P17.3, P17.4: arenas by chance, against the Words: tags are taken of what is stale alone, no byte changes, a second look finds nothing.
func TestArenas(t *testing.T) {
	chance := rand.New(rand.NewSource(173))
	found := 0
	for range 60 {
		regions := some(chance, 4096)
		p := painted(t, 4096, regions...)
		a := made(t, 16)
		a.Write(0, strings.Repeat("fallow: no byte ", 256))
		for at := uint32(0); at < 4096; at += 16 {
			if chance.Intn(3) > 0 {
				store(t, a, at, chanced(chance, 4096))
			}
		}
		for _, page := range chance.Perm(16) {
			s, set := all(t, a)
			var want []uint32
			count := 0
			for _, at := range set {
				if c, _ := a.LoadCap(at); int(at/256) == page && is(c, regions) {
					count++
				} else {
					want = append(want, at)
				}
			}
			if n := scan.Page(a, page, p); n != count {
				t.Fatalf("Page(%d): %d, want %d", page, n, count)
			}
			same(t, fmt.Sprintf("Page(%d)", page), a, s, want)
			if scan.Page(a, page, p) != 0 {
				t.Fatalf("Page(%d), again", page)
			}
			same(t, "again", a, s, want)
			found += count
		}
	}
	if found < 500 {
		t.Errorf("no more than %d were stale", found)
	}
}

// P17.2, P17.3: what stands in a page is told as the same capabilities in a list are.
func TestPageAsCaps(t *testing.T) {
	chance := rand.New(rand.NewSource(175))
	for range 500 {
		p := painted(t, 4096, some(chance, 4096)...)
		a := made(t, 16)
		var l []api.Cap
		for i := range uint32(16) {
			store(t, a, 512+i*16, chanced(chance, 4096))
			c, _ := a.LoadCap(512 + i*16)
			l = append(l, c)
		}
		l, n := scan.Caps(l, p)
		if m := scan.Page(a, 2, p); m != n {
			t.Fatalf("Page: %d, Caps: %d", m, n)
		}
		for i, want := range l {
			if c, _ := a.LoadCap(512 + uint32(i)*16); c != want {
				t.Fatalf("granule %d: %v, want %v", i, c, want)
			}
		}
	}
}

// R5: a paint is as it was, whoever looks by it.
func TestPaintStays(t *testing.T) {
	p := painted(t, 4096, region(256, 64), region(1024, 16))
	c := over(t, 256, 64)
	a := made(t, 16)
	store(t, a, 0, c)
	scan.Stale(c, p)
	scan.Caps([]api.Cap{c}, p)
	scan.Frame(api.Frame{Pc: c}, p)
	scan.Page(a, 0, p)
	for at := uint32(0); at < 4096; at += 16 {
		if p.Has(at) != (at >= 256 && at < 320 || at == 1024) {
			t.Errorf("Has(%d)", at)
		}
	}
	if p.Count() != 5 || !p.Remove(region(256, 64)) || scan.Stale(c, p) {
		t.Error("what is stale hangs on the paint as it is")
	}
}

// R6: calls with objects of their own go at once, and answer the same.
func TestAtOnce(t *testing.T) {
	p := painted(t, 4096, region(256, 64), region(512, 256))
	chance := rand.New(rand.NewSource(6))
	list := make([]api.Cap, 500)
	a := made(t, 16)
	for i := range list {
		list[i] = chanced(chance, 1024)
		store(t, a, uint32(i%256)*16, list[i])
	}
	var tasks sync.WaitGroup
	var answers [8][]api.Cap
	var counts [8][3]int
	for i := range answers {
		own, memory := p.Copy(), a.Copy()
		tasks.Go(func() {
			answers[i], counts[i][0] = scan.Caps(list, own)
			_, counts[i][1] = scan.Frame(api.Frame{Regs: [api.Regs]api.Cap(list), Pc: list[16]}, own)
			for page := range 16 {
				counts[i][2] += scan.Page(memory, page, own)
			}
		})
	}
	tasks.Wait()
	for i := range answers {
		if !slices.Equal(answers[i], answers[0]) || counts[i] != counts[0] {
			t.Errorf("call %d answered otherwise than call 0", i)
		}
	}
	if counts[0][0] == 0 || counts[0][1] == 0 || counts[0][2] == 0 {
		t.Errorf("nothing was stale: %v", counts[0])
	}
}
