package heap_test

import (
	"fmt"
	"math/rand"
	"slices"
	"sync"
	"testing"

	"fallow/api"
	"fallow/bounds"
	"fallow/heap"
	"fallow/sizes"
)

const (
	granules = api.MaxPages * api.Page / api.Granule
	perPage  = api.Page / api.Granule
	last     = 1<<32 - 1
)

// slotSizes are the classes' slots.
var slotSizes = []uint32{16, 32, 64, 128, 256}

// region is a shorter way to write one.
func region(at, size uint32) api.Region { return api.Region{At: at, Size: size} }

// model is a heap as the chapter's Words tell it: what is live, what rests, and of each granule how large the region is that has it; 0, if none does.
type model struct {
	all           api.Region
	live, resting map[api.Region]int
	has           [granules]uint32
}

func (m *model) copy() *model {
	c := &model{m.all, map[api.Region]int{}, map[api.Region]int{}, m.has}
	for r := range m.live {
		c.live[r] = 1
	}
	for r := range m.resting {
		c.resting[r] = 1
	}
	return c
}

// sorted tells the regions of a map by At, rising.
func sorted(of map[api.Region]int) []api.Region {
	var l []api.Region
	for r := range of {
		l = append(l, r)
	}
	slices.SortFunc(l, func(a, b api.Region) int { return int(a.At) - int(b.At) })
	return l
}

// pages are the first page of the heap, and the one behind its last.
func (m *model) pages() (from, to int) {
	return int(m.all.At / api.Page), int((m.all.At + m.all.Size) / api.Page)
}

// of tells of which class' size the page is; 0, if of none.
func (m *model) of(page int) uint32 {
	for _, size := range m.has[page*perPage : (page+1)*perPage] {
		if size > 0 && size <= api.MaxClass {
			return size
		}
	}
	return 0
}

// free tells whether no region has a byte of the place.
func (m *model) free(r api.Region) bool {
	for g := r.At / api.Granule; g < (r.At+r.Size)/api.Granule; g++ {
		if m.has[g] != 0 {
			return false
		}
	}
	return true
}

// set writes down that a region of that size has the place, or none.
func (m *model) set(r api.Region, size uint32) {
	for g := r.At / api.Granule; g < (r.At+r.Size)/api.Granule; g++ {
		m.has[g] = size
	}
}

// slot is the lowest free slot of the lowest page of that class which has one.
func (m *model) slot(size uint32) (api.Region, bool) {
	from, to := m.pages()
	for page := from; page < to; page++ {
		if m.of(page) != size {
			continue
		}
		for at := uint32(page) * api.Page; at < uint32(page+1)*api.Page; at += size {
			if m.free(region(at, size)) {
				return region(at, size), true
			}
		}
	}
	return api.Region{}, false
}

// run is the lowest place of so many bytes from a page on, whose pages are all free. (Of a heap within the limits align is never above Page.)
func (m *model) run(bytes uint32) (uint32, bool) {
	from, to := m.pages()
	for page := from; page < to; page++ {
		at := uint32(page) * api.Page
		if at+bytes <= m.all.At+m.all.Size && m.free(region(at, bytes)) {
			return at, true
		}
	}
	return 0, false
}

// padded is the size of what is handed out; 0, if the size is refused.
func (m *model) padded(size uint32) uint32 {
	if size == 0 || size > m.all.Size {
		return 0
	}
	for _, slot := range slotSizes {
		if size <= slot {
			return slot
		}
	}
	return (size + api.Page - 1) / api.Page * api.Page
}

// malloc is what Malloc should answer.
func (m *model) malloc(size uint32) (api.Region, api.Errno) {
	padded := m.padded(size)
	if padded == 0 {
		return api.Region{}, api.ErrSize
	}
	if padded <= api.MaxClass {
		if r, is := m.slot(padded); is {
			return r, api.OK
		}
	}
	at, is := m.run(max(padded, api.Page))
	if !is {
		return api.Region{}, api.ErrNoMem
	}
	return region(at, padded), api.OK
}

// room is how many bytes are in free pages, and in free slots of pages of a class.
func (m *model) room() uint32 {
	room := uint32(0)
	from, to := m.pages()
	for page := from; page < to; page++ {
		size := m.of(page)
		if size == 0 {
			size = api.Page
		}
		for at := uint32(page) * api.Page; at < uint32(page+1)*api.Page; at += size {
			if m.free(region(at, size)) {
				room += size
			}
		}
	}
	return room
}

// both is a heap, and what it should be.
type both struct {
	t *testing.T
	h *heap.Heap
	m *model
}

func made(t *testing.T, r api.Region) both {
	t.Helper()
	h, e := heap.New(r)
	if e != api.OK || h == nil {
		t.Fatalf("New(%v): %v, error %d", r, h != nil, e)
	}
	return both{t, h, &model{all: r, live: map[api.Region]int{}, resting: map[api.Region]int{}}}
}

func (x both) copy() both { return both{x.t, x.h.Copy(), x.m.copy()} }

// check holds what the heap tells against what it should be.
func (x both) check(what string) {
	x.t.Helper()
	if got, want := x.h.Live(), sorted(x.m.live); !slices.Equal(got, want) {
		x.t.Fatalf("%s: Live %v, want %v", what, got, want)
	}
	if got, want := x.h.Resting(), sorted(x.m.resting); !slices.Equal(got, want) {
		x.t.Fatalf("%s: Resting %v, want %v", what, got, want)
	}
	if got, want := x.h.Room(), x.m.room(); got != want {
		x.t.Fatalf("%s: Room %d, want %d", what, got, want)
	}
}

// drained checks all of it: of a copy all slots and pages are handed out as they should be, till there are none.
func (x both) drained(what string) {
	x.t.Helper()
	x.check(what)
	for _, first := range []uint32{1, 17, 33, 65, 129, 257, 513, 1025} {
		y := x.copy()
		for _, size := range []uint32{first, 16, 32, 64, 128, 256} {
			for e := api.OK; e == api.OK; {
				_, e = y.malloc(size)
			}
		}
		y.check(what + ", all handed out")
		if y.h.Room() != 0 {
			x.t.Fatalf("%s: Room %d, all handed out", what, y.h.Room())
		}
	}
	x.check(what + ", its copies handed out")
}

func (x both) malloc(size uint32) (api.Region, api.Errno) {
	x.t.Helper()
	want, wantE := x.m.malloc(size)
	got, e := x.h.Malloc(size)
	if got != want || e != wantE {
		x.t.Fatalf("Malloc(%d): %v, error %d, want %v, %d", size, got, e, want, wantE)
	}
	if e == api.OK {
		x.m.live[got] = 1
		x.m.set(got, got.Size)
	}
	return got, e
}

// must is a region that there is room for.
func (x both) must(size uint32) api.Region {
	x.t.Helper()
	r, e := x.malloc(size)
	if e != api.OK {
		x.t.Fatalf("Malloc(%d): error %d", size, e)
	}
	return r
}

func (x both) free(r api.Region) bool {
	x.t.Helper()
	want := api.ErrFree
	if x.m.live[r] == 1 {
		want = api.OK
	}
	if e := x.h.Free(r); e != want {
		x.t.Fatalf("Free(%v): error %d, want %d", r, e, want)
	}
	if want == api.OK {
		delete(x.m.live, r)
		x.m.resting[r] = 1
	}
	return want == api.OK
}

func (x both) release(r api.Region) bool {
	x.t.Helper()
	want := api.ErrFree
	if x.m.resting[r] == 1 {
		want = api.OK
	}
	if e := x.h.Release(r); e != want {
		x.t.Fatalf("Release(%v): error %d, want %d", r, e, want)
	}
	if want == api.OK {
		delete(x.m.resting, r)
		x.m.set(r, 0)
	}
	return want == api.OK
}

// back frees and releases a region.
func (x both) back(r api.Region) {
	x.t.Helper()
	if !x.free(r) || !x.release(r) {
		x.t.Fatalf("%v was not there", r)
	}
}

// P14.1 to P14.4: the examples of the document, in their order.
func TestExamples(t *testing.T) {
	h, e := heap.New(region(1024, 1024))
	if e != api.OK {
		t.Fatalf("New: error %d", e)
	}
	malloc := func(size uint32, want api.Region, wantE api.Errno) {
		t.Helper()
		if r, e := h.Malloc(size); r != want || e != wantE {
			t.Errorf("Malloc(%d): %v, error %d, want %v, %d", size, r, e, want, wantE)
		}
	}
	malloc(10, region(1024, 16), api.OK)
	malloc(16, region(1040, 16), api.OK)
	malloc(17, region(1280, 32), api.OK)
	malloc(600, api.Region{}, api.ErrNoMem)
	malloc(1, region(1056, 16), api.OK)
	malloc(300, region(1536, 512), api.OK)
	malloc(0, api.Region{}, api.ErrSize)
	malloc(1025, api.Region{}, api.ErrSize)
	malloc(200, api.Region{}, api.ErrNoMem)
	for i, want := range []api.Errno{api.OK, api.ErrFree} {
		if e := h.Free(region(1040, 16)); e != want {
			t.Errorf("Free(1040 16), %d: error %d", i, e)
		}
	}
	if e := h.Free(region(1040, 32)); e != api.ErrFree {
		t.Errorf("Free(1040 32): error %d", e)
	}
	malloc(16, region(1072, 16), api.OK)
	if e := h.Release(region(1040, 16)); e != api.OK {
		t.Errorf("Release(1040 16): error %d", e)
	}
	malloc(16, region(1040, 16), api.OK)
	if h.Room() != 192+224 {
		t.Errorf("Room: %d", h.Room())
	}
}

// P14.1: At and Size are multiples of Page, and Size is not 0; it ends at MaxPages pages at most.
func TestNew(t *testing.T) {
	const end = api.MaxPages * api.Page
	for _, at := range []uint32{0, 256, 512, 1024, end - 512, end - 256} {
		for _, size := range []uint32{256, 512, 768, 4096, end - at} {
			if at+size <= end {
				x := made(t, region(at, size))
				x.check("a new heap")
				if x.h.Room() != size {
					t.Errorf("New(%d %d): Room %d", at, size, x.h.Room())
				}
			}
		}
	}
	made(t, region(0, 256)).drained("a new heap of one page")
	made(t, region(end-1024, 1024)).drained("a new heap at the end")
	for _, r := range []api.Region{
		region(0, 0), region(256, 0), region(end, 0), region(last-255, 0), region(1, 256), region(16, 256), region(128, 256), region(255, 256), region(257, 256), region(0, 1), region(0, 16),
		region(0, 255), region(0, 257), region(0, end-1), region(0, end+1), region(128, 128), region(1, 0), region(1, 255), region(last, 1), region(last, last), region(0, last), region(last, 256), region(256, last), region(end+16, 256), region(end, 16), region(1, last-255),
	} {
		if h, e := heap.New(r); h != nil || e != api.ErrArg {
			t.Errorf("New(%v): %v, error %d, want ErrArg", r, h != nil, e)
		}
	}
	for _, r := range []api.Region{
		region(0, end+256), region(256, end), region(end-256, 512), region(end, 256), region(end+256, 256), region(end, end), region(1<<31, 256), region(1<<31, 1<<31), region(0, 1<<31),
		region(last-255, 256), region(last-255, 512), region(last-255, 1<<31), region(last-255, last-255), region(512, last-255), region(256, last-255), region(0, last-255), region(last-511, 512),
	} {
		if h, e := heap.New(r); h != nil || e != api.ErrLong {
			t.Errorf("New(%v): %v, error %d, want ErrLong", r, h != nil, e)
		}
	}
}

// P14.1: a copy is as the heap is, and each of the two goes its own way.
func TestCopy(t *testing.T) {
	x := made(t, region(512, 4096))
	var l []api.Region
	for _, size := range []uint32{16, 16, 32, 64, 128, 256, 600, 16, 64} {
		l = append(l, x.must(size))
	}
	x.free(l[1])
	x.free(l[5])
	x.free(l[6])
	x.release(l[5])
	c := x.copy()
	c.drained("the copy")
	x.release(l[1])
	x.release(l[6])
	x.free(l[0])
	x.must(300)
	x.must(16)
	x.must(200)
	c.drained("the copy, as the heap was changed")
	for _, r := range l {
		c.free(r)
		c.release(r)
	}
	c.must(4096)
	c.drained("the copy, changed")
	x.drained("the heap, as its copy was changed")
	c.copy().drained("the copy's copy")
	made(t, region(0, 1024)).copy().copy().drained("a copy's copy of a new heap")
}

// P14.2: each size of each small heap, as the first one: it is handed out from the heap's first byte on, of the padded size; or refused.
func TestEachSize(t *testing.T) {
	for pages := uint32(1); pages <= 5; pages++ {
		for size := uint32(0); size <= (pages+2)*api.Page; size++ {
			x := made(t, region(768, pages*api.Page))
			r, e := x.malloc(size)
			padded, _, wantE := sizes.Padded(size, pages*api.Page)
			if e != wantE || e == api.OK && r != region(768, padded) {
				t.Fatalf("Malloc(%d) of %d pages: %v, error %d", size, pages, r, e)
			}
			x.check(fmt.Sprintf("Malloc(%d) of %d pages", size, pages))
		}
	}
}

// P14.2: what no heap of that size could meet is ErrSize, whatever is free; what it could meet is ErrNoMem, when nothing is.
func TestErrSize(t *testing.T) {
	for _, full := range []bool{false, true} {
		x := made(t, region(1024, 1024))
		if full {
			x.must(1024)
		}
		for _, size := range []uint32{0, 1025, 1026, 1279, 1280, 1281, 2047, 2048, 2049, 1 << 16, 1<<18 + 1, 1 << 31, last - 511, last - 255, last - 1, last} {
			if r, e := x.malloc(size); e != api.ErrSize || r != (api.Region{}) {
				t.Errorf("Malloc(%d): %v, error %d", size, r, e)
			}
		}
		for _, size := range []uint32{1, 16, 255, 256, 257, 769, 1023, 1024} {
			if r, e := x.copy().malloc(size); full && (e != api.ErrNoMem || r != (api.Region{})) {
				t.Errorf("Malloc(%d) of a full heap: %v, error %d", size, r, e)
			}
		}
		x.check("refused")
	}
}

// P14.2: the slots of a page are handed out one behind the other, and then the lowest free page's; each class has pages of its own.
func TestSlotsInOrder(t *testing.T) {
	for _, slot := range slotSizes {
		x := made(t, region(256, 1024))
		for n := range 1024 / slot {
			if r := x.must(slot); r != region(256+n*slot, slot) {
				t.Fatalf("Malloc(%d), %d: %v", slot, n, r)
			}
		}
		if _, e := x.malloc(1); e != api.ErrNoMem {
			t.Errorf("Malloc(1) behind %d: error %d", slot, e)
		}
		x.check("all slots")
	}
	x := made(t, region(0, 2048))
	for i, size := range []uint32{256, 16, 128, 32, 64} {
		if r := x.must(size); r != region(uint32(i)*256, size) {
			t.Errorf("Malloc(%d): %v", size, r)
		}
	}
	x.drained("a page of each class")
}

// P14.2: the lowest page of the class that has a free slot goes ahead, and its lowest slot, also ahead of a free page that is lower.
func TestLowestSlot(t *testing.T) {
	x := made(t, region(0, 2048))
	big := x.must(512)
	var l []api.Region
	for range 12 {
		l = append(l, x.must(64)) // the pages 2 to 4
	}
	x.back(big)
	for _, i := range []int{9, 6, 5, 11} {
		x.back(l[i])
	}
	for _, i := range []int{5, 6, 9, 11} {
		if r := x.must(50); r != l[i] {
			t.Errorf("Malloc(50): %v, want %v", r, l[i])
		}
	}
	if r := x.must(50); r != region(0, 64) {
		t.Errorf("Malloc(50), no slot free: %v", r)
	}
	x.drained("the lowest slots")
}

// P14.2: the lowest run of free pages, past those that are too short; and none across a page of a class, or one that rests.
func TestLowestRun(t *testing.T) {
	x := made(t, region(256, 4096)) // the pages 1 to 16
	var l []api.Region
	for range 16 {
		l = append(l, x.must(256))
	}
	for _, page := range []int{1, 3, 4, 8, 9, 10, 12, 13, 16} {
		x.back(l[page-1])
	}
	x.free(l[11-1]) // it rests between 10 and 12
	for _, c := range []struct{ size, at uint32 }{{600, 8}, {257, 3}, {512, 12}, {1, 1}, {256, 16}} {
		if r := x.must(c.size); r.At != c.at*256 {
			t.Errorf("Malloc(%d): %v, want the page %d", c.size, r, c.at)
		}
	}
	for _, size := range []uint32{17, 257, 512, 4096} {
		if _, e := x.malloc(size); e != api.ErrNoMem {
			t.Errorf("Malloc(%d): error %d", size, e)
		}
	}
	x.check("the lowest runs")
}

// P14.2: a heap of all pages, whose sizes are all handed out; the greatest one is the heap itself.
func TestWholeHeap(t *testing.T) {
	for _, all := range []api.Region{region(0, api.MaxPages*api.Page), region(256, api.MaxPages*api.Page-256), region(api.MaxPages*api.Page-256, 256)} {
		x := made(t, all)
		r := x.must(all.Size)
		if r != all || x.h.Room() != 0 {
			t.Errorf("Malloc of all of %v: %v", all, r)
		}
		x.malloc(1)
		x.free(r)
		x.malloc(1)
		x.release(r)
		x.check("all given back")
		for range all.Size / api.Page {
			x.must(256)
		}
		x.malloc(16)
		x.check("all pages of a class")
	}
}

// P14.3: what is freed rests, and nobody is handed any of it, till it is released; then it is there again.
func TestRests(t *testing.T) {
	for _, size := range []uint32{1, 16, 17, 64, 100, 256, 257, 512, 1000, 1024} {
		x := made(t, region(1024, 1024))
		r := x.must(size)
		room := x.h.Room()
		x.check("live")
		if x.release(r) {
			t.Errorf("Release(%v), and it is live", r)
		}
		x.free(r)
		if x.h.Room() != room || x.free(r) {
			t.Errorf("%v rests, Room %d, was %d", r, x.h.Room(), room)
		}
		x.drained("it rests")
		if again, e := x.copy().malloc(size); e == api.OK && again.At < r.At+r.Size {
			t.Errorf("%v rests, and %v is handed out", r, again)
		}
		x.release(r)
		if x.free(r) || x.release(r) || x.h.Room() != 1024 {
			t.Errorf("%v was released, Room %d", r, x.h.Room())
		}
		x.drained("it is neither")
		if x.must(size) != r {
			t.Errorf("%v is not there again", r)
		}
	}
}

// P14.3: just the region: none that has its At, or its Size, alone; no part of it, nothing that has it, none that is beside it.
func TestJustThatRegion(t *testing.T) {
	for _, all := range []api.Region{region(0, 4096), region(1024, 4096)} {
		x := made(t, all)
		l := []api.Region{x.must(16), x.must(16), x.must(64), x.must(256), x.must(700)}
		var wrong []api.Region
		for _, r := range l {
			for _, off := range []uint32{0, 1, 8, 16, 32, 64, 256, 512, 1 << 16, 1 << 31, last - 255, last - 15, last} {
				for _, size := range []uint32{0, 1, 8, 15, 16, 17, 32, 64, 128, 256, 512, 700, 768, 1024, 4096, 1 << 31, last - 255, last - 15, last} {
					if w := region(r.At+off, size); !slices.Contains(l, w) {
						wrong = append(wrong, w)
					}
				}
			}
		}
		wrong = append(wrong, all, region(0, 0), region(all.At, 0), region(last, last), region(0, last), region(api.MaxPages*api.Page, 256), region(last-15, 16), region(last-255, 256))
		none := func(what string) {
			t.Helper()
			for _, w := range wrong {
				if x.free(w) || x.release(w) {
					t.Fatalf("%s: %v", what, w)
				}
			}
			x.check(what)
		}
		none("live")
		for _, r := range l {
			x.free(r)
		}
		none("resting")
		for _, r := range l {
			x.release(r)
		}
		wrong = append(wrong, l...)
		none("neither")
		x.must(4096)
	}
}

// P14.3: a region that was handed out again is another one: it is freed by itself, and not released.
func TestHandedOutAgain(t *testing.T) {
	x := made(t, region(0, 256))
	for range 3 {
		for _, size := range []uint32{256, 16, 128} {
			r := x.must(size)
			if r.At != 0 || x.release(r) || !x.free(r) || x.free(r) || !x.release(r) || x.release(r) {
				t.Fatalf("%v", r)
			}
			x.check("again")
		}
	}
}

// P14.2, P14.4: a page whose regions are all released is free again, for another class, or for a run; while one of them lives or rests it is not.
func TestPagesComeBack(t *testing.T) {
	for _, slot := range slotSizes {
		for _, other := range slotSizes {
			x := made(t, region(256, 256))
			var l []api.Region
			for range 256 / slot {
				l = append(l, x.must(slot))
			}
			for i := range l { // from the middle on, so that neither the first nor the last slot is the one that counts
				r := l[(i+len(l)/2)%len(l)]
				x.free(r)
				if _, e := x.copy().malloc(other); other != slot && e != api.ErrNoMem {
					t.Fatalf("Malloc(%d) in a page of %d, of which %d were released: error %d", other, slot, i, e)
				}
				x.release(r)
			}
			if x.h.Room() != 256 || x.must(other) != region(256, other) {
				t.Errorf("a page of %d, for %d: Room %d", slot, other, x.h.Room())
			}
			x.check("another class")
		}
	}
	x := made(t, region(512, 1024))
	l := []api.Region{x.must(16), x.must(32), x.must(64), x.must(128)}
	for i, r := range l {
		if _, e := x.malloc(1024); e != api.ErrNoMem {
			t.Errorf("Malloc(1024), %d pages are free: error %d", i, e)
		}
		x.back(r)
	}
	x.must(1024)
}

// P14.4: by At, rising, in whatever order they were handed out, or freed.
func TestByAt(t *testing.T) {
	x := made(t, region(0, 8192))
	var l []api.Region
	for range 8 {
		for _, size := range []uint32{256, 16, 300, 64} {
			l = append(l, x.must(size))
		}
	}
	x.check("live")
	for i := range l {
		x.free(l[i*7%len(l)])
		if i%2 == 0 {
			x.release(l[i*7%len(l)])
		}
		x.check("some rest")
		if !slices.IsSortedFunc(x.h.Resting(), func(a, b api.Region) int { return int(a.At) - int(b.At) }) {
			t.Fatalf("Resting: %v", x.h.Resting())
		}
	}
	if len(x.h.Live()) != 0 || len(x.h.Resting()) != len(l)/2 {
		t.Errorf("Live %v, Resting %v", x.h.Live(), x.h.Resting())
	}
}

// P14.4: Room counts free slots of pages of a class by their size, and what rests not at all.
func TestRoom(t *testing.T) {
	x := made(t, region(0, 4096))
	want := uint32(4096)
	var l []api.Region
	for _, size := range []uint32{1, 17, 33, 65, 129, 257, 16, 250, 1000} {
		r := x.must(size)
		l = append(l, r)
		want -= r.Size
		if x.h.Room() != want {
			t.Errorf("Malloc(%d): Room %d, want %d", size, x.h.Room(), want)
		}
	}
	for _, r := range l {
		x.free(r)
		if x.h.Room() != want {
			t.Errorf("Free(%v): Room %d, want %d", r, x.h.Room(), want)
		}
	}
	for _, r := range l {
		x.release(r)
		want += r.Size
		if x.h.Room() != want {
			t.Errorf("Release(%v): Room %d, want %d", r, x.h.Room(), want)
		}
	}
	if want != 4096 {
		t.Errorf("Room in the end: %d", want)
	}
}

// R5: what Live and Resting answer is new each time: who changes it changes no heap.
func TestListsAreNew(t *testing.T) {
	x := made(t, region(0, 1024))
	for range 4 {
		x.must(16)
	}
	x.free(region(16, 16))
	x.free(region(48, 16))
	for _, list := range []func() []api.Region{x.h.Live, x.h.Resting} {
		l, other := list(), list()
		want := slices.Clone(other)
		for i := range l {
			l[i] = region(512, 16)
		}
		_ = append(l[:0], region(1, 1), region(2, 2))
		if !slices.Equal(other, want) || !slices.Equal(list(), want) {
			t.Errorf("%v, %v, want %v", other, list(), want)
		}
	}
	x.drained("lists changed")
}

// apart tells whether no two regions have a byte in common, all lie within the heap, and their bounds are exact.
func apart(t *testing.T, all api.Region, l ...api.Region) {
	t.Helper()
	slices.SortFunc(l, func(a, b api.Region) int { return int(a.At) - int(b.At) })
	end := all.At
	for _, r := range l {
		if r.Size == 0 || r.At < end {
			t.Fatalf("%v has a byte of the one ahead of it, or of what is ahead of %v", r, all)
		}
		end = r.At + r.Size
		if _, _, _, exact, is := bounds.Encode(r.At, uint64(end)); !exact || !is {
			t.Fatalf("the bounds of %v are not exact", r)
		}
	}
	if end > all.At+all.Size {
		t.Fatalf("%v does not lie within %v", l[len(l)-1], all)
	}
}

// ask is a size, most often a small one.
func ask(chance *rand.Rand, all uint32) uint32 {
	switch chance.Intn(12) {
	case 0:
		return uint32(chance.Intn(int(all) + 300))
	case 1, 2:
		return uint32(chance.Intn(1500))
	default:
		return uint32(chance.Intn(280))
	}
}

// P14.5, P14.6: whatever is asked for, freed and released by turns, all is as the Words say, and no two regions that are live or rest meet.
func TestByTurns(t *testing.T) {
	for seed, all := range []api.Region{region(0, 256), region(256, 512), region(1024, 1024), region(0, 2048), region(512, 4096), region(4096, 8192), region(0, 20480), region(1<<18-4096, 4096)} {
		chance := rand.New(rand.NewSource(int64(seed)))
		x := made(t, all)
		full := 0
		for i := range 3000 {
			live, resting := x.h.Live(), x.h.Resting()
			turn := chance.Intn(6)
			switch {
			case turn < 3:
				if _, e := x.malloc(ask(chance, all.Size)); e == api.ErrNoMem {
					full++
				}
			case turn == 3 && len(live) > 0:
				x.free(live[chance.Intn(len(live))])
			case turn == 4 && len(resting) > 0:
				x.release(resting[chance.Intn(len(resting))])
			default:
				r := region(all.At+uint32(chance.Intn(int(all.Size/16)))*16, 16<<chance.Intn(6))
				x.free(r)
				x.release(r)
			}
			apart(t, all, append(x.h.Live(), x.h.Resting()...)...)
			if i%20 == 0 {
				x.check("by turns")
			}
		}
		if full == 0 {
			t.Errorf("%v was never full", all)
		}
		x.drained("by turns, in the end")
		for _, r := range x.h.Live() {
			x.free(r)
		}
		for _, r := range x.h.Resting() {
			x.release(r)
		}
		x.must(all.Size)
	}
}

// P14.6: ErrNoMem is answered just if no slot of the class and no page is free, and of more just if no run of pages is: each set of free pages of 8.
func TestNoMem(t *testing.T) {
	for v := range 1 << 8 {
		x := made(t, region(2048, 2048))
		for range 8 {
			x.must(256)
		}
		run, longest := 0, 0
		for page := range uint32(8) {
			run++
			if v>>page&1 == 0 {
				run = 0
			} else {
				x.back(region(2048+page*256, 256))
			}
			longest = max(longest, run)
		}
		for pages := 1; pages <= 8; pages++ {
			for _, size := range []uint32{uint32(pages) * 256, uint32(pages)*256 - 255} {
				if _, e := x.copy().malloc(size); (e == api.OK) != (pages <= longest) {
					t.Fatalf("Malloc(%d), the free pages %08b: error %d", size, v, e)
				}
			}
		}
		x.check("each set of free pages")
	}
}

// P14.6: a slot that was released alone is handed out again, whichever it is, though no page is free; and no other class is handed any of it.
func TestOneSlot(t *testing.T) {
	for _, slot := range slotSizes[:4] {
		x := made(t, region(0, 1024))
		var l []api.Region
		for range 1024 / slot {
			l = append(l, x.must(slot))
		}
		for _, r := range l {
			x.free(r)
			if _, e := x.malloc(slot); e != api.ErrNoMem {
				t.Fatalf("Malloc(%d), %v rests: error %d", slot, r, e)
			}
			x.release(r)
			for _, other := range slotSizes {
				if _, e := x.copy().malloc(other); (e == api.OK) != (other == slot) {
					t.Fatalf("Malloc(%d), %v was released: error %d", other, r, e)
				}
			}
			if again := x.must(slot); again != r {
				t.Fatalf("Malloc(%d): %v, want %v", slot, again, r)
			}
		}
		x.check("one by one")
	}
}

// R1, R3: of a heap that is nil, or that New did not make, nothing is handed out, and nothing panics.
func TestNoHeap(t *testing.T) {
	for _, h := range []*heap.Heap{nil, {}} {
		for _, size := range []uint32{0, 1, 16, 256, 257, 1 << 18, 1 << 31, last - 255, last} {
			if r, e := h.Malloc(size); r != (api.Region{}) || e != api.ErrNil {
				t.Errorf("Malloc(%d) of none: %v, error %d", size, r, e)
			}
			for _, at := range []uint32{0, 1, 16, 1024, last - 255, last} {
				if h.Free(region(at, size)) != api.ErrNil || h.Release(region(at, size)) != api.ErrNil {
					t.Errorf("Free, Release of none: %d %d", at, size)
				}
			}
		}
		if len(h.Live()) != 0 || len(h.Resting()) != 0 || h.Room() != 0 || h.Copy() != nil {
			t.Error("Live, Resting, Room, Copy of none")
		}
	}
}

// R6: heaps do not touch one another, whoever uses them; and two that the same was done to answer the same.
func TestApart(t *testing.T) {
	var all sync.WaitGroup
	var answers [8][]api.Region
	for n := range answers {
		h, _ := heap.New(region(1024, 8192))
		all.Go(func() {
			chance := rand.New(rand.NewSource(5))
			for range 600 {
				r, _ := h.Malloc(ask(chance, 8192))
				answers[n] = append(answers[n], r)
				if l := h.Live(); len(l) > 0 && chance.Intn(2) == 0 {
					h.Free(l[chance.Intn(len(l))])
				}
				if l := h.Resting(); len(l) > 3 {
					h.Release(l[chance.Intn(len(l))])
				}
				answers[n] = append(answers[n], h.Live()...)
				answers[n] = append(answers[n], h.Resting()...)
			}
		})
	}
	all.Wait()
	for n := range answers {
		if !slices.Equal(answers[n], answers[0]) {
			t.Errorf("heap %d answered otherwise than heap 0", n)
		}
	}
}
