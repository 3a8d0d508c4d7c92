package quarantine_test

import (
	"fmt"
	"math/rand"
	"slices"
	"sync"
	"testing"

	"fallow/api"
	"fallow/paint"
	"fallow/quarantine"
)

const (
	granules = api.MaxPages * api.Page / api.Granule
	limit    = api.MaxPages * api.Page
	last     = 1<<32 - 1
)

// region is a shorter way to write one.
func region(at, size uint32) api.Region { return api.Region{At: at, Size: size} }

// model is a yard as the chapter's Words tell it: of each region that was freed and not let go the number of the sweep that takes it, how many sweeps began, and how many ended.
type model struct {
	bytes        uint64
	takenBy      map[api.Region]uint64
	began, ended uint64
}

// list tells the regions that the sweep of that number takes, by At, rising.
func (m *model) list(sweep uint64) []api.Region {
	var l []api.Region
	for r, by := range m.takenBy {
		if by == sweep {
			l = append(l, r)
		}
	}
	slices.SortFunc(l, func(a, b api.Region) int { return int(a.At) - int(b.At) })
	return l
}

// waiting is what the next sweep takes.
func (m *model) waiting() []api.Region { return m.list(m.began + 1) }

// batch is what the sweep that is under way took: what an earlier one took is there no more.
func (m *model) batch() []api.Region { return m.list(m.began) }

func (m *model) copy() *model {
	c := &model{m.bytes, map[api.Region]uint64{}, m.began, m.ended}
	for r, by := range m.takenBy {
		c.takenBy[r] = by
	}
	return c
}

// end tells where a region ends, in numbers of 64 bits.
func end(r api.Region) uint64 { return uint64(r.At) + uint64(r.Size) }

// free is what Free should answer, and do.
func (m *model) free(r api.Region) bool {
	if r.At%16 != 0 || r.Size%16 != 0 || r.Size == 0 || end(r) > m.bytes {
		return false
	}
	for other := range m.takenBy {
		if uint64(r.At) < end(other) && uint64(other.At) < end(r) {
			return false
		}
	}
	m.takenBy[r] = m.began + 1
	return true
}

// ticket is what Ticket should answer.
func (m *model) ticket() uint64 {
	if len(m.waiting()) > 0 {
		return m.began + 1
	}
	if len(m.batch()) > 0 {
		return m.began
	}
	return m.ended
}

// both is a yard, and what it should be.
type both struct {
	t *testing.T
	y *quarantine.Yard
	m *model
}

func made(t *testing.T, bytes int) both {
	t.Helper()
	y := quarantine.New(bytes)
	if y == nil {
		t.Fatalf("New(%d): nil", bytes)
	}
	return both{t, y, &model{uint64(bytes), map[api.Region]uint64{}, 0, 0}}
}

func (x both) copy() both { return both{x.t, x.y.Copy(), x.m.copy()} }

func (x both) free(r api.Region) bool {
	x.t.Helper()
	want := x.m.free(r)
	if got := x.y.Free(r); got != want {
		x.t.Fatalf("Free(%v): %v", r, got)
	}
	return want
}

// must frees a region that may be freed.
func (x both) must(r api.Region) {
	x.t.Helper()
	if !x.free(r) {
		x.t.Fatalf("Free(%v): false", r)
	}
}

// not frees a region that may not be freed.
func (x both) not(r api.Region) {
	x.t.Helper()
	if x.free(r) {
		x.t.Fatalf("Free(%v): true", r)
	}
}

func (x both) begin() {
	x.t.Helper()
	var want uint64
	is := x.m.began == x.m.ended
	if is {
		x.m.began++
		want = x.m.began
	}
	if got, ok := x.y.Begin(); got != want || ok != is {
		x.t.Fatalf("Begin: %d, %v, want %d, %v", got, ok, want, is)
	}
}

// end answers what End did, as it should be.
func (x both) end() []api.Region {
	x.t.Helper()
	var want []api.Region
	if x.m.began > x.m.ended {
		want = x.m.batch()
		x.m.ended++
		for _, r := range want {
			delete(x.m.takenBy, r)
		}
	}
	got := x.y.End()
	if !slices.Equal(got, want) {
		x.t.Fatalf("End: %v, want %v", got, want)
	}
	return got
}

// check holds all that the yard tells against what it should be.
func (x both) check(what string) {
	x.t.Helper()
	if got, want := x.y.Waiting(), x.m.waiting(); !slices.Equal(got, want) {
		x.t.Fatalf("%s: Waiting: %v, want %v", what, got, want)
	}
	if got, want := x.y.Batch(), x.m.batch(); !slices.Equal(got, want) {
		x.t.Fatalf("%s: Batch: %v, want %v", what, got, want)
	}
	if got := x.y.Epoch(); got != x.m.began {
		x.t.Fatalf("%s: Epoch %d, want %d", what, got, x.m.began)
	}
	if got := x.y.Sweeping(); got != (x.m.began > x.m.ended) {
		x.t.Fatalf("%s: Sweeping: %v", what, got)
	}
	if got, want := x.y.Ticket(), x.m.ticket(); got != want {
		x.t.Fatalf("%s: Ticket %d, want %d", what, got, want)
	}
	for ticket := range x.m.began + 3 {
		x.checkDone(what, ticket)
	}
	x.checkDone(what, 1<<63)
	x.checkDone(what, 1<<64-1)
	x.checkPaint(what)
}

func (x both) checkDone(what string, ticket uint64) {
	x.t.Helper()
	if got := x.y.Done(ticket); got != (x.m.ended >= ticket) {
		x.t.Fatalf("%s: Done(%d): %v, when %d have ended", what, ticket, got, x.m.ended)
	}
}

// checkPaint looks at each granule, at those behind the yard's end too.
func (x both) checkPaint(what string) {
	x.t.Helper()
	p := x.y.Paint()
	if p == nil {
		x.t.Fatalf("%s: Paint: nil", what)
	}
	var painted [granules]bool
	count := 0
	for _, r := range x.m.batch() {
		for at := r.At; at < r.At+r.Size; at += 16 {
			painted[at/16] = true
			count++
		}
	}
	for g, want := range painted {
		if at := uint32(g) * 16; p.Has(at) != want || p.Has(at+15) != want {
			x.t.Fatalf("%s: Paint: Has(%d): %v", what, at, !want)
		}
	}
	if p.Count() != count || p.Has(limit) || p.Has(last) {
		x.t.Fatalf("%s: Paint: Count %d, want %d", what, p.Count(), count)
	}
}

// strange are regions that may not be freed in any yard of so many bytes.
func strange(bytes uint32) []api.Region {
	l := []api.Region{
		region(0, 0), region(16, 0), region(bytes, 0), region(0, 8), region(0, 1), region(0, 15), region(0, 17), region(8, 16), region(1, 16), region(15, 16), region(1, 15), region(8, 8), region(8, 24), region(16, 24),
		region(0, bytes+16), region(16, bytes), region(bytes, 16), region(bytes+16, 16), region(bytes+256, 256), region(0, limit+16), region(limit, 16), region(16, limit),
		region(1<<31, 16), region(1<<31, 1<<31), region(16, 1<<31), region(0, 1<<31), region(0, last-15), region(0, last), region(last, 1), region(last, 16), region(last, last), region(1, last),
		// The ends of these are 2^32, or more: 0, 16 or 32 by numbers of 32 bits.
		region(last-15, 16), region(last-15, 32), region(last-31, 48), region(last-31, 64), region(16, last-15), region(32, last-15), region(32, last-31), region(16, last-31), region(last-15, last-15), region(last-255, 512),
	}
	if bytes >= 32 {
		l = append(l, region(bytes-16, 32), region(bytes-16, 17), region(bytes-8, 16), region(bytes-8, 8), region(bytes-16, last-15), region(bytes-16, 1<<31))
	}
	return l
}

// P16.1 to P16.5: the examples of the document, in their order.
func TestExamples(t *testing.T) {
	if quarantine.New(-16) != nil || quarantine.New(8) != nil {
		t.Error("New(-16), New(8)")
	}
	x := made(t, 1024)
	for i, want := range []uint64{1, 0, 2} {
		if i == 2 && len(x.y.End()) != 0 {
			t.Error("End: nothing waited")
		}
		if n, is := x.y.Begin(); n != want || is != (want > 0) {
			t.Errorf("Begin %d: %d, %v", i, n, is)
		}
	}
	for r, want := range map[api.Region]bool{region(8, 16): false, region(1008, 32): false, region(256, 64): true} {
		if x.y.Free(r) != want {
			t.Errorf("Free(%v): %v", r, !want)
		}
	}
	l := []api.Region{region(256, 64)}
	if x.y.Free(region(304, 16)) || !slices.Equal(x.y.Waiting(), l) || x.y.Ticket() != 3 {
		t.Errorf("Waiting: %v, Ticket %d", x.y.Waiting(), x.y.Ticket())
	}
	if x.y.Done(3) || len(x.y.End()) != 0 {
		t.Error("Done(3), End: the second sweep had no batch")
	}
	if n, is := x.y.Begin(); n != 3 || !is || !x.y.Free(region(512, 16)) || !slices.Equal(x.y.Batch(), l) || x.y.Ticket() != 4 {
		t.Errorf("Begin: %d; Batch %v, Ticket %d", n, x.y.Batch(), x.y.Ticket())
	}
	if p := x.y.Paint(); !p.Has(300) || p.Has(512) {
		t.Error("Paint")
	}
	if got := x.y.End(); !slices.Equal(got, l) || !x.y.Done(3) || x.y.Done(4) || x.y.Ticket() != 4 {
		t.Errorf("End: %v, Ticket %d", got, x.y.Ticket())
	}
}

// P16.1: of just these numbers of bytes there is a yard, all of which may be freed, and nothing has happened in it.
func TestNew(t *testing.T) {
	for bytes := -600; bytes <= limit+600; bytes++ {
		if got := quarantine.New(bytes) != nil; got != (bytes >= 0 && bytes <= limit && bytes%16 == 0) {
			t.Fatalf("New(%d): %v", bytes, got)
		}
	}
	for _, bytes := range []int{-1 << 63, -1<<63 + 16, -1 << 32, -1 << 31, 1 << 31, 1<<32 - 16, 1 << 32, 1<<32 + 16, 1 << 62, 1<<63 - 16, 1<<63 - 1} {
		if quarantine.New(bytes) != nil {
			t.Errorf("New(%d)", bytes)
		}
	}
	for _, bytes := range []int{0, 16, 32, 256, 4096, limit - 16, limit} {
		x := made(t, bytes)
		x.check("New")
		x.copy().check("a copy of a new one")
		if bytes > 0 {
			x.must(region(0, uint32(bytes)))
		}
		x.begin()
		x.check("all of it")
		x.end()
		x.check("none of it")
	}
}

// filled is a yard in which regions are of the batch, and others wait.
func filled(t *testing.T) both {
	t.Helper()
	x := made(t, 1024)
	for _, r := range []api.Region{region(512, 64), region(256, 16), region(992, 32)} {
		x.must(r)
	}
	x.begin()
	for _, r := range []api.Region{region(576, 16), region(0, 32), region(272, 240)} {
		x.must(r)
	}
	x.check("filled")
	return x
}

// P16.1: a copy tells what the yard tells, and what is done to one of the two changes nothing of the other.
func TestCopy(t *testing.T) {
	does := []func(x both){
		func(x both) { x.free(region(640, 64)); x.free(region(32, 16)); x.free(region(512, 16)) },
		func(x both) { x.end() },
		func(x both) { x.end(); x.begin() },
		func(x both) { x.end(); x.begin(); x.end(); x.free(region(0, 1024)) },
		func(x both) { x.end(); x.free(region(512, 16)); x.free(region(992, 32)) },
	}
	for i, do := range does {
		for j, other := range does {
			what := fmt.Sprintf("%d, and then %d", i, j)
			x := filled(t)
			c := x.copy()
			c.check("a copy")
			do(x)
			c.check("a copy, when the yard has changed: " + what)
			x.check("the yard: " + what)
			other(c)
			x.check("the yard, when its copy has changed: " + what)
			c.check("the copy: " + what)
			d := c.copy()
			do(d)
			c.check("the copy, when its own copy has changed: " + what)
			d.check("the copy's copy: " + what)
		}
	}
}

// P16.2: of each region of a small yard, and each that is none, whether it may be freed beside each other one that waits, is of the batch, or was let go.
func TestEachPair(t *testing.T) {
	const bytes = 80
	for at := uint32(0); at < bytes; at += 16 {
		for size := uint32(16); at+size <= bytes; size += 16 {
			waits := made(t, bytes)
			waits.must(region(at, size))
			taken := waits.copy()
			taken.begin()
			gone := taken.copy()
			gone.end()
			for at2 := uint32(0); at2 <= bytes+32; at2 += 8 {
				for size2 := uint32(0); size2 <= bytes+32; size2 += 8 {
					r := region(at2, size2)
					waits.copy().free(r)
					taken.copy().free(r)
					if whole := at2%16 == 0 && size2%16 == 0 && size2 > 0 && at2+size2 <= bytes; gone.copy().free(r) != whole {
						t.Fatalf("Free(%v), when %d %d was let go: %v", r, at, size, !whole)
					}
				}
			}
		}
	}
}

// P16.2: what may not be freed is refused, and nothing has changed.
func TestRefused(t *testing.T) {
	for _, bytes := range []int{0, 16, 256, 4096, limit} {
		x := made(t, bytes)
		for i := range 3 {
			for _, r := range strange(uint32(bytes)) {
				x.not(r)
			}
			x.check("what is refused changes nothing")
			if bytes < 256 {
				continue
			}
			if i == 0 {
				x.must(region(0, 64))
				x.must(region(uint32(bytes)-64, 64))
			} else if i == 1 {
				x.begin()
				x.must(region(64, uint32(bytes)-128))
			}
		}
	}
	x := filled(t)
	for _, r := range []api.Region{region(512, 64), region(512, 16), region(560, 32), region(496, 32), region(0, 1024), region(576, 16), region(16, 32), region(256, 32), region(480, 160)} {
		x.not(r)
		x.check("what meets another one")
	}
	x.must(region(32, 224))
	x.must(region(592, 400))
	x.check("all but what was there")
	for at := uint32(0); at < 1024; at += 16 {
		x.not(region(at, 16))
	}
	x.check("all is there")
}

// P16.2, P16.4: in whatever order regions are freed, they are told by At, rising.
func TestOrder(t *testing.T) {
	all := []api.Region{region(0, 16), region(16, 32), region(48, 16), region(128, 128), region(256, 16)}
	var try func(x both, left []api.Region)
	try = func(x both, left []api.Region) {
		x.check("some of them wait")
		c := x.copy()
		c.begin()
		c.check("some of them are of the batch")
		c.end()
		for i, r := range left {
			y := x.copy()
			y.must(r)
			try(y, slices.Delete(slices.Clone(left), i, i+1))
		}
		if len(left) == 0 && !slices.Equal(x.y.Waiting(), all) {
			t.Fatalf("Waiting: %v", x.y.Waiting())
		}
	}
	try(made(t, 512), all)
}

// P16.3: no sweep begins while one is under way, none ends while none is; numbers rise one by one, with a batch or without.
func TestSweeps(t *testing.T) {
	x := made(t, 1024)
	x.end()
	x.check("no sweep to end")
	for n := range uint64(40) {
		if n%3 > 0 {
			x.must(region(uint32(n)*16, 16))
		}
		x.begin()
		if x.y.Epoch() != n+1 {
			t.Fatalf("Epoch %d, want %d", x.y.Epoch(), n+1)
		}
		x.check("begun")
		if n%2 == 0 {
			x.must(region(uint32(n)*16+32, 16))
		}
		x.begin()
		x.check("begun twice")
		x.end()
		x.check("ended")
		x.end()
		x.check("ended twice")
		for _, r := range x.y.Waiting() {
			if r.At <= uint32(n)*16 {
				t.Fatalf("%v waits yet, though %d sweeps have ended", r, n+1)
			}
		}
	}
}

// P16.3, P16.6: what is freed while a sweep is under way is not let go by its End, but by the next one's.
func TestFreedWithin(t *testing.T) {
	x := filled(t)
	batch, waiting := x.y.Batch(), x.y.Waiting()
	if got := x.y.End(); !slices.Equal(got, batch) || len(got) != 3 {
		t.Fatalf("End: %v, want %v", got, batch)
	}
	if got := x.y.Waiting(); !slices.Equal(got, waiting) || len(got) != 3 {
		t.Fatalf("Waiting: %v, want %v", got, waiting)
	}
	x.y.Begin()
	if got := x.y.End(); !slices.Equal(got, waiting) {
		t.Fatalf("End: %v, want %v", got, waiting)
	}
	x.y.Begin()
	if got := x.y.End(); len(got) != 0 || !x.y.Free(region(0, 1024)) {
		t.Fatalf("End: %v, though all was let go", got)
	}
}

// P16.4: the paint is of the yard's bytes: it takes regions up to their end, and none beyond.
func TestPaintBytes(t *testing.T) {
	for _, bytes := range []uint32{0, 16, 1024, limit} {
		x := made(t, int(bytes))
		p := x.y.Paint()
		if p.Add(region(bytes, 16)) || p.Add(region(0, bytes+16)) || p.Add(region(0, bytes)) != (bytes > 0) {
			t.Errorf("the paint of a yard of %d bytes", bytes)
		}
		x.check("whose paint was painted")
	}
}

// P16.4: a batch of each granule that there may be, each a region of its own, and then as many that wait.
func TestMany(t *testing.T) {
	x := made(t, limit)
	for _, g := range rand.New(rand.NewSource(16)).Perm(granules) {
		if !x.y.Free(region(uint32(g)*16, 16)) {
			t.Fatalf("Free of granule %d", g)
		}
	}
	if x.y.Paint().Count() != 0 || x.y.Free(region(limit-16, 16)) {
		t.Fatal("all waits: none is painted, none may be freed")
	}
	x.y.Begin()
	if x.y.Paint().Count() != granules || x.y.Free(region(0, limit)) {
		t.Fatal("all is of the batch, and painted")
	}
	gone := x.y.End()
	for g := range granules {
		if g >= len(gone) || gone[g] != region(uint32(g)*16, 16) {
			t.Fatalf("End: %d regions; granule %d is not at its place", len(gone), g)
		}
	}
	if len(gone) != granules || !x.y.Free(region(0, limit)) {
		t.Fatal("End: just these")
	}
}

// P16.5: tickets of each of a yard's states.
func TestTickets(t *testing.T) {
	x := made(t, 256)
	want := func(what string, ticket, ended uint64) {
		t.Helper()
		if got := x.y.Ticket(); got != ticket {
			t.Errorf("%s: Ticket %d, want %d", what, got, ticket)
		}
		for n := range ended + 3 {
			if x.y.Done(n) != (n <= ended) {
				t.Errorf("%s: Done(%d), when %d have ended", what, n, ended)
			}
		}
		if x.y.Done(1<<64 - 1) {
			t.Errorf("%s: Done of the greatest number", what)
		}
	}
	want("new", 0, 0)
	x.y.Begin()
	want("a sweep without a batch", 0, 0)
	x.y.Free(region(0, 16))
	want("it waits for the next one", 2, 0)
	x.y.End()
	want("and none is under way", 2, 1)
	x.y.Begin()
	want("it is of the batch", 2, 1)
	x.y.Free(region(16, 16))
	want("and another one waits", 3, 1)
	x.y.End()
	want("the other one waits", 3, 2)
	x.y.Begin()
	want("the other one is of the batch", 3, 2)
	x.y.End()
	want("all was let go", 3, 3)
	x.y.Begin()
	want("another sweep without a batch", 3, 3)
	x.y.End()
	want("which has ended", 4, 4)
}

// asked is a ticket, with what was there when it was asked for.
type asked struct {
	ticket uint64
	there  []api.Region
	ends   int
}

// over tells whether the ticket is done; and then nothing of what was there may be there.
func (a *asked) over(t *testing.T, y *quarantine.Yard, count map[api.Region]int) bool {
	t.Helper()
	if !y.Done(a.ticket) {
		if a.ends >= 2 {
			t.Fatalf("ticket %d is not done behind %d Ends", a.ticket, a.ends)
		}
		return false
	}
	for _, r := range a.there {
		if count[r] > 0 {
			t.Fatalf("ticket %d is done, and %v is there", a.ticket, r)
		}
	}
	return true
}

// P16.6, P16.7: each region is of its own place, so that it is freed once. Each is let go once, by a sweep that began behind its Free, and a ticket that is done leaves nothing of what was freed ahead of it.
func TestLetGoOnce(t *testing.T) {
	chance := rand.New(rand.NewSource(167))
	for range 60 {
		y := quarantine.New(limit)
		count, freedAt, next := map[api.Region]int{}, map[api.Region]uint64{}, uint32(0)
		var open []*asked
		for range 400 {
			switch chance.Intn(6) {
			case 0, 1:
				r := region(next, uint32(1+chance.Intn(8))*16)
				next += r.Size
				if !y.Free(r) {
					t.Fatalf("Free(%v): false", r)
				}
				count[r], freedAt[r] = 1, y.Epoch()
			case 2:
				y.Begin()
			case 3:
				was := y.Sweeping()
				for _, r := range y.End() {
					count[r]--
					if count[r] != 0 || y.Epoch() <= freedAt[r] {
						t.Fatalf("End: %v, freed behind the begin of sweep %d, let go by sweep %d", r, freedAt[r], y.Epoch())
					}
				}
				for _, a := range open {
					if was {
						a.ends++
					}
				}
			case 4:
				open = append(open, &asked{y.Ticket(), append(y.Waiting(), y.Batch()...), 0})
			case 5:
				for r, n := range count {
					if n > 0 && y.Free(region(r.At+uint32(chance.Intn(int(r.Size/16)))*16, 16)) {
						t.Fatalf("Free of a part of %v", r)
					}
				}
			}
			open = slices.DeleteFunc(open, func(a *asked) bool { return a.over(t, y, count) })
		}
	}
}

// P16.7: a ticket is done as soon as all that was there is let go, not an End later.
func TestNoLater(t *testing.T) {
	x := made(t, 256)
	x.must(region(0, 16))
	ticket := x.y.Ticket()
	x.begin()
	if x.y.Done(ticket) {
		t.Error("done, though it is of the batch")
	}
	x.end()
	if !x.y.Done(ticket) || !x.y.Done(x.y.Ticket()) {
		t.Error("not done, though nothing is there")
	}
	x.begin()
	if !x.y.Done(x.y.Ticket()) {
		t.Error("not done, though nothing was freed")
	}
}

// P16.1 to P16.5: many turns of all kinds, against the model.
func TestTurns(t *testing.T) {
	chance := rand.New(rand.NewSource(161))
	for _, bytes := range []int{0, 16, 128, 1024, 1040, 16384, limit} {
		x := made(t, bytes)
		odd := strange(uint32(bytes))
		for i := range 2000 {
			r := region(uint32(chance.Intn(bytes/16+2))*16, uint32(1+chance.Intn(bytes/256+3))*16)
			switch chance.Intn(12) {
			case 0:
				x.begin()
			case 1:
				x.end()
			case 2:
				x.free(odd[chance.Intn(len(odd))])
			case 3:
				r.At += uint32(chance.Intn(16))
				x.free(r)
			case 4:
				r.Size += uint32(chance.Intn(16))
				x.free(r)
			case 5:
				x = x.copy()
			default:
				x.free(r)
			}
			if i%50 == 0 {
				x.check(fmt.Sprintf("a yard of %d bytes", bytes))
			}
		}
	}
}

// R5: what is answered is new: whoever changes it, or appends to it, changes nothing of the yard, or of what was answered before.
func TestAnswersAreNew(t *testing.T) {
	x := filled(t)
	x.end()
	x.begin()
	x.must(region(640, 16))
	x.must(region(960, 16))
	spoil := func(l []api.Region) {
		_ = append(l, region(last, last))
		for i := range l {
			l[i] = region(1, 1)
		}
		for i := range l[:cap(l)] {
			l[:cap(l)][i] = region(2, 2)
		}
	}
	waiting, batch := x.y.Waiting(), x.y.Batch()
	for range 2 {
		spoil(x.y.Waiting())
		spoil(x.y.Batch())
		x.y.Paint().Add(region(640, 16))
		x.y.Paint().Remove(region(272, 16))
		x.check("what it answered was changed")
		x.must(region(672+uint32(len(x.y.Waiting()))*16, 16))
		x.check("and more was freed")
	}
	if !slices.Equal(batch, x.y.Batch()) || !slices.Equal(waiting, []api.Region{region(640, 16), region(960, 16)}) {
		t.Errorf("answers of before: %v, %v", waiting, batch)
	}
	c, p := x.copy(), x.y.Paint()
	spoil(batch)
	gone := x.end()
	spoil(gone)
	c.check("a copy, when what End answered was changed")
	for i := uint32(0); i < 4; i++ {
		x.must(region(272+i*16, 16))
	}
	x.begin()
	x.check("what End answered was changed")
	if p.Has(640) || !p.Has(272) || !p.Has(0) {
		t.Error("a paint of before, when the yard went on")
	}
	for _, r := range gone {
		if r != region(2, 2) {
			t.Errorf("what End answered is changed by the yard: %v", gone)
		}
	}
}

// none looks at a yard that is none.
func none(t *testing.T, y *quarantine.Yard) {
	t.Helper()
	for _, r := range append(strange(256), region(0, 16), region(0, 256), region(16, 16)) {
		if y.Free(r) {
			t.Errorf("Free(%v) of none", r)
		}
	}
	if n, is := y.Begin(); n != 0 || is || len(y.End()) != 0 {
		t.Error("Begin, End of none")
	}
	if y.Epoch() != 0 || y.Sweeping() || y.Ticket() != 0 || len(y.Waiting()) != 0 || len(y.Batch()) != 0 {
		t.Error("none tells something")
	}
	for _, ticket := range []uint64{0, 1, 1 << 63, 1<<64 - 1} {
		if y.Done(ticket) {
			t.Errorf("Done(%d) of none", ticket)
		}
	}
	if y.Paint() != nil || y.Copy() != nil {
		t.Error("none has no paint, and no copy")
	}
}

// R1, R3: a nil yard, and one that New did not make, tell zero values, again and again.
func TestNone(t *testing.T) {
	for _, y := range []*quarantine.Yard{nil, {}, new(quarantine.Yard), quarantine.New(8), (*quarantine.Yard)(nil).Copy()} {
		none(t, y)
		none(t, y)
	}
}

// R6: yards that were made apart, and copies, are used at once, and answer the same.
func TestAtOnce(t *testing.T) {
	x := filled(t)
	var all sync.WaitGroup
	var answers [8][]api.Region
	var paints [8]*paint.Paint
	for i := range answers {
		c := x.y.Copy()
		all.Go(func() {
			chance := rand.New(rand.NewSource(6))
			for range 500 {
				c.Free(region(uint32(chance.Intn(64))*16, uint32(1+chance.Intn(4))*16))
				if chance.Intn(4) == 0 {
					answers[i] = append(answers[i], c.End()...)
					c.Begin()
				}
				answers[i] = append(append(answers[i], c.Waiting()...), c.Batch()...)
			}
			paints[i] = c.Paint()
		})
	}
	all.Wait()
	x.check("the yard, as its copies were changed")
	for i := range answers {
		if !slices.Equal(answers[i], answers[0]) {
			t.Errorf("copy %d answered otherwise than copy 0", i)
		}
		for at := uint32(0); at < 1024; at += 16 {
			if paints[i].Has(at) != paints[0].Has(at) {
				t.Errorf("copy %d painted otherwise than copy 0", i)
			}
		}
	}
}
