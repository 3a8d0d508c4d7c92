package paint_test

import (
	"fmt"
	"math/rand"
	"sync"
	"testing"

	"fallow/api"
	"fallow/paint"
)

const (
	granules = api.MaxPages * api.Page / api.Granule
	limit    = api.MaxPages * api.Page
	last     = 1<<32 - 1
)

// region is a shorter way to write one.
func region(at, size uint32) api.Region { return api.Region{At: at, Size: size} }

// model is a paint as the chapter's Words tell it: of each granule whether it is painted, and which regions were added and not removed.
type model struct {
	bytes   uint32
	painted [granules]bool
}

// is tells whether the region is one of the paint.
func (m *model) is(r api.Region) bool {
	return r.At%16 == 0 && r.Size%16 == 0 && r.Size > 0 && uint64(r.At)+uint64(r.Size) <= uint64(m.bytes)
}

// all tells whether all of the region's granules are painted, or all of them are not.
func (m *model) all(r api.Region, painted bool) bool {
	for at := r.At; at < r.At+r.Size; at += 16 {
		if m.painted[at/16] != painted {
			return false
		}
	}
	return true
}

// turn is what Add, or Remove, should answer, and do.
func (m *model) turn(r api.Region, to bool) bool {
	if !m.is(r) || !m.all(r, !to) {
		return false
	}
	for at := r.At; at < r.At+r.Size; at += 16 {
		m.painted[at/16] = to
	}
	return true
}

// both is a paint, and what it should be.
type both struct {
	t *testing.T
	p *paint.Paint
	m *model
}

func made(t *testing.T, bytes int) both {
	t.Helper()
	p := paint.New(bytes)
	if p == nil {
		t.Fatalf("New(%d): nil", bytes)
	}
	return both{t, p, &model{bytes: uint32(bytes)}}
}

func (x both) copy() both {
	m := *x.m
	return both{x.t, x.p.Copy(), &m}
}

func (x both) add(r api.Region) bool {
	x.t.Helper()
	want := x.m.turn(r, true)
	if got := x.p.Add(r); got != want {
		x.t.Fatalf("Add(%v): %v", r, got)
	}
	return want
}

func (x both) remove(r api.Region) bool {
	x.t.Helper()
	want := x.m.turn(r, false)
	if got := x.p.Remove(r); got != want {
		x.t.Fatalf("Remove(%v): %v", r, got)
	}
	return want
}

// check holds what the paint tells of each granule, of those behind its end too, against what it should be.
func (x both) check(what string) {
	x.t.Helper()
	count := 0
	for g, want := range x.m.painted {
		if want {
			count++
		}
		for _, at := range []uint32{uint32(g) * 16, uint32(g)*16 + 7, uint32(g)*16 + 15} {
			if x.p.Has(at) != want {
				x.t.Fatalf("%s: Has(%d): %v", what, at, !want)
			}
		}
	}
	if x.p.Count() != count {
		x.t.Fatalf("%s: Count %d, want %d", what, x.p.Count(), count)
	}
	beyond(x.t, x.p)
}

// beyond checks that nothing is painted beyond the bytes that a paint may have.
func beyond(t *testing.T, p *paint.Paint) {
	t.Helper()
	for _, at := range []uint32{limit, limit + 1, limit + 15, limit + 16, 2 * limit, 1 << 20, 1<<24 + 32, 1 << 30, 1<<31 - 1, 1 << 31, 1<<31 + 32, last - 16, last - 15, last} {
		if p.Has(at) {
			t.Fatalf("Has(%d): true", at)
		}
	}
}

// strange are regions that are none of a paint of so many bytes.
func strange(bytes uint32) []api.Region {
	l := []api.Region{
		region(0, 0), region(16, 0), region(bytes, 0), region(0, 8), region(0, 1), region(0, 15), region(0, 17), region(8, 16), region(1, 16), region(15, 16), region(1, 15), region(8, 8), region(8, 24), region(16, 24),
		region(0, bytes+16), region(16, bytes), region(bytes, 16), region(bytes+16, 16), region(bytes+256, 256), region(0, limit+16), region(limit, 16), region(16, limit),
		region(1<<31, 16), region(1<<31, 1<<31), region(16, 1<<31), region(0, 1<<31), region(0, last-15), region(0, last), region(last, 1), region(last, 16), region(last, last), region(1, last),
		// The ends of these are 2^32, or more: 0, 16 or 32 by numbers of 32 bits.
		region(last-15, 16), region(last-15, 32), region(last-31, 48), region(last-31, 64), region(16, last-15), region(32, last-15), region(32, last-31), region(16, last-31), region(last-15, last-15), region(last-255, 512),
	}
	if bytes >= 32 {
		l = append(l, region(bytes-16, 32), region(bytes-16, 17), region(bytes-8, 16), region(bytes-8, 8), region(bytes-16, last-15), region(bytes-16, 1<<31))
	}
	return l
}

// P15.1 to P15.3: the examples of the document, in their order.
func TestExamples(t *testing.T) {
	for _, bytes := range []int{15, -16, 1<<18 + 16} {
		if paint.New(bytes) != nil {
			t.Errorf("New(%d): one", bytes)
		}
	}
	p := paint.New(256)
	count := func(want int) {
		t.Helper()
		if p.Count() != want {
			t.Errorf("Count: %d, want %d", p.Count(), want)
		}
	}
	add := func(at, size uint32, want bool) {
		t.Helper()
		if p.Add(region(at, size)) != want {
			t.Errorf("Add(%d %d): %v", at, size, !want)
		}
	}
	remove := func(at, size uint32, want bool) {
		t.Helper()
		if p.Remove(region(at, size)) != want {
			t.Errorf("Remove(%d %d): %v", at, size, !want)
		}
	}
	count(0)
	add(32, 32, true)
	add(48, 16, false)
	add(64, 16, true)
	count(3)
	for at, want := range map[uint32]bool{31: false, 32: true, 63: true, 79: true, 80: false, last: false} {
		if p.Has(at) != want {
			t.Errorf("Has(%d): %v", at, !want)
		}
	}
	add(8, 16, false)
	add(0, 0, false)
	add(240, 32, false)
	add(last-15, 16, false)
	add(last-15, 32, false)
	remove(16, 32, false)
	remove(32, 48, true)
	remove(32, 48, false)
	count(0)
}

// P15.1: a multiple of 16, from 0 to 2^18; nothing is painted in what is made.
func TestNew(t *testing.T) {
	for bytes := -300; bytes <= 1000; bytes++ {
		if p := paint.New(bytes); (p != nil) != (bytes >= 0 && bytes%16 == 0) {
			t.Errorf("New(%d): %v", bytes, p != nil)
		}
	}
	for bytes := limit - 100; bytes <= limit+300; bytes++ {
		if p := paint.New(bytes); (p != nil) != (bytes <= limit && bytes%16 == 0) {
			t.Errorf("New(%d): %v", bytes, p != nil)
		}
	}
	for _, bytes := range []int{-1 << 63, -1<<63 + 16, -1 << 32, -1<<32 + 256, -1 << 31, -limit, -256, -16, -1, 1 << 20, 1 << 24, 1<<31 - 16, 1 << 31, 1 << 32, 1<<32 + 16, 1<<32 + 256, 1<<63 - 16, 1<<63 - 1} {
		if paint.New(bytes) != nil {
			t.Errorf("New(%d): one", bytes)
		}
	}
	for _, bytes := range []int{0, 16, 32, 256, 4096, 1008, limit - 16, limit} {
		x := made(t, bytes)
		x.check(fmt.Sprintf("New(%d)", bytes))
		if bytes > 0 && !x.add(region(0, uint32(bytes))) {
			t.Errorf("New(%d): it can't be painted whole", bytes)
		}
		x.check(fmt.Sprintf("New(%d), painted whole", bytes))
	}
}

// P15.1: a copy is as the paint is, and each of the two goes its own way.
func TestCopy(t *testing.T) {
	x := made(t, 4096)
	x.add(region(32, 32))
	x.add(region(1024, 2048))
	c := x.copy()
	c.check("the copy")
	x.remove(region(32, 32))
	x.add(region(4080, 16))
	c.check("the copy, as the paint was changed")
	c.remove(region(1040, 16))
	c.add(region(0, 32))
	c.check("the copy, changed")
	x.check("the paint, as its copy was changed")
	d := c.copy()
	c.remove(region(0, 64))
	d.check("the copy's copy")
	for _, bytes := range []int{0, 16, limit} {
		y := made(t, bytes).copy()
		y.check("a copy of a new paint")
		y.copy().check("its copy")
		for _, r := range strange(uint32(bytes)) {
			y.add(r)
		}
	}
}

// P15.2, P15.3: each region of a small paint, when nothing, each other region, or all but a granule is painted.
func TestEachRegion(t *testing.T) {
	const bytes = 80
	for at := uint32(0); at <= bytes+32; at += 8 {
		for size := uint32(0); size <= bytes+32; size += 8 {
			x := made(t, bytes)
			x.remove(region(at, size))
			x.add(region(at, size))
			x.add(region(at, size))
			x.check(fmt.Sprintf("Add(%d %d)", at, size))
			for at2 := uint32(0); at2 < bytes; at2 += 16 {
				for size2 := uint32(16); at2+size2 <= bytes; size2 += 16 {
					y := x.copy()
					y.add(region(at2, size2))
					y.remove(region(at2, size2))
					y.remove(region(at, size))
				}
			}
			x.remove(region(at, size))
			x.remove(region(at, size))
			x.check(fmt.Sprintf("Remove(%d %d)", at, size))
		}
	}
}

// P15.2: a region that is none of the paint is refused, and one of whose granules one alone is not as it should be; and nothing has changed.
func TestRefused(t *testing.T) {
	for _, bytes := range []int{0, 16, 256, 4096, limit} {
		x := made(t, bytes)
		for i := range 3 {
			for _, r := range strange(uint32(bytes)) {
				if x.add(r) || x.remove(r) {
					t.Fatalf("%v is no region of %d bytes", r, bytes)
				}
			}
			x.check("what is refused changes nothing")
			if i == 0 && bytes >= 256 {
				x.add(region(0, 64))
				x.add(region(uint32(bytes)-64, 64))
			} else if i == 1 && bytes >= 256 {
				x.add(region(64, uint32(bytes)-128))
			}
		}
	}
	for odd := uint32(0); odd < 256; odd += 16 {
		x := made(t, 256)
		x.add(region(odd, 16))
		if x.add(region(0, 256)) {
			t.Fatalf("Add: %d is painted", odd)
		}
		x.check("nothing more is painted")
		y := made(t, 256)
		y.add(region(0, 256))
		y.remove(region(odd, 16))
		if y.remove(region(0, 256)) {
			t.Fatalf("Remove: %d is not painted", odd)
		}
		y.check("nothing less is painted")
	}
}

// P15.2: what was added as several regions may be removed as one, what was added as one as several; a region may be added again, when it was removed.
func TestParts(t *testing.T) {
	x := made(t, 1024)
	for at := uint32(0); at < 1024; at += 128 {
		if !x.add(region(at, 128)) {
			t.Fatal("Add")
		}
	}
	x.check("all of it, in parts")
	if !x.remove(region(64, 896)) || !x.add(region(512, 16)) || !x.remove(region(0, 64)) || !x.remove(region(960, 64)) || !x.remove(region(512, 16)) {
		t.Fatal("Remove")
	}
	x.check("none of it")
	if !x.add(region(0, 1024)) {
		t.Fatal("Add, again")
	}
	for at := uint32(0); at < 1024; at += 16 {
		if !x.remove(region(at, 16)) {
			t.Fatal("Remove, in parts")
		}
	}
	x.check("none of it, again")
}

// P15.4: what is painted are the regions that were added and not removed, and no two of them share a granule.
func TestRegions(t *testing.T) {
	rnd := rand.New(rand.NewSource(15))
	p := paint.New(limit)
	var there []api.Region
	meet := func(a, b api.Region) bool { return a.At < b.At+b.Size && b.At < a.At+a.Size }
	for range 4000 {
		at := uint32(rnd.Intn(granules)) * 16
		r := region(at, min(uint32(1+rnd.Intn(200))*16, limit-at))
		want := true
		for _, other := range there {
			want = want && !meet(r, other)
		}
		if p.Add(r) != want {
			t.Fatalf("Add(%v): %v", r, !want)
		}
		if want {
			there = append(there, r)
		}
		if rnd.Intn(3) == 0 && len(there) > 0 {
			i := rnd.Intn(len(there))
			if !p.Remove(there[i]) || p.Remove(there[i]) {
				t.Fatalf("Remove(%v)", there[i])
			}
			there = append(there[:i], there[i+1:]...)
		}
	}
	count := 0
	for _, r := range there {
		count += int(r.Size / 16)
		for at := r.At; at < r.At+r.Size; at++ {
			if !p.Has(at) {
				t.Fatalf("Has(%d): false", at)
			}
		}
	}
	if p.Count() != count {
		t.Fatalf("Count %d, want %d", p.Count(), count)
	}
}

// P15.1 to P15.4: many turns of regions of all kinds, against the model.
func TestTurns(t *testing.T) {
	rnd := rand.New(rand.NewSource(151))
	for _, bytes := range []int{0, 16, 128, 1024, 1040, 16384, limit} {
		x := made(t, bytes)
		odd := strange(uint32(bytes))
		var added []api.Region
		for i := range 3000 {
			r := region(uint32(rnd.Intn(bytes/16+2))*16, uint32(1+rnd.Intn(bytes/64+2))*16)
			switch rnd.Intn(10) {
			case 0:
				r = odd[rnd.Intn(len(odd))]
			case 1:
				r.Size += uint32(rnd.Intn(16))
			case 2:
				r.At += uint32(rnd.Intn(16))
			case 3, 4, 5:
				if len(added) > 0 {
					r = added[rnd.Intn(len(added))]
				}
			}
			if rnd.Intn(2) == 0 {
				if x.add(r) {
					added = append(added, r)
				}
			} else {
				x.remove(r)
			}
			if i%300 == 0 {
				x.copy().check("a copy")
			}
		}
		x.check(fmt.Sprintf("a paint of %d bytes", bytes))
	}
}

// R1, R3: a nil paint, and one that New did not make, tell zero values.
func TestNone(t *testing.T) {
	for _, p := range []*paint.Paint{nil, {}, new(paint.Paint), paint.New(15), (*paint.Paint)(nil).Copy()} {
		for _, r := range append(strange(256), region(0, 16), region(0, 256), region(16, 16)) {
			if p.Add(r) || p.Remove(r) {
				t.Errorf("%v: true of none", r)
			}
		}
		for _, at := range []uint32{0, 1, 15, 16, 255, 256, limit - 1} {
			if p.Has(at) {
				t.Errorf("Has(%d) of none", at)
			}
		}
		beyond(t, p)
		if p.Count() != 0 || p.Copy() != nil {
			t.Error("none has nothing, and no copy")
		}
	}
}

// R6: paints that were made apart, and copies, are used at once.
func TestAtOnce(t *testing.T) {
	x := made(t, 4096)
	x.add(region(1024, 1024))
	var all sync.WaitGroup
	for i := range uint32(8) {
		c := x.p.Copy()
		all.Go(func() {
			for at := uint32(0); at < 1024; at += 16 {
				if !c.Add(region(at, 16)) || c.Has(at+i*16+2048) || !c.Remove(region(at+1024, 16)) {
					t.Error("a copy that another one changed")
					return
				}
			}
			if c.Count() != 64 {
				t.Errorf("Count %d", c.Count())
			}
		})
	}
	all.Wait()
	x.check("the paint, as its copies were changed")
}
