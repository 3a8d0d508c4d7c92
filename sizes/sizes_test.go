package sizes_test

import (
	"math"
	"math/rand"
	"slices"
	"sync"
	"testing"

	"fallow/api"
	"fallow/bounds"
	"fallow/sizes"
)

const (
	end  = 1 << 32
	last = math.MaxUint32
	// Above so many bytes no bounds are exact but those of all addresses: the greatest exponent's unit is 2^21.
	most = end - 1<<21
)

// slotsWanted are the classes' slots, as the chapter's Words tell them.
var slotsWanted = []uint32{16, 32, 64, 128, 256}

// up rounds v up to a multiple of that unit.
func up(v, unit int64) int64 { return (v + unit - 1) / unit * unit }

// wanted is what the chapter's Words say that a size is padded to, by whole numbers, whatever the heap; false, if there is no such thing.
func wanted(size uint32) (padded, align int64, is bool) {
	if size == 0 {
		return 0, 0, false
	}
	for _, slot := range slotsWanted {
		if size <= slot {
			return int64(slot), int64(slot), true
		}
	}
	n, unit := up(int64(size), 256), int64(1)
	for up(n, unit) > 2048*unit {
		unit *= 2
	}
	return up(n, unit), max(unit, 256), up(n, unit) < end
}

// tries tells sizes, rising, each once: all of the first pages, about each multiple of a unit at which something turns, the last ones, and some by chance.
func tries() []uint32 {
	out := []uint32{}
	about := func(v int64) {
		for _, d := range []int64{-257, -256, -255, -2, -1, 0, 1, 2, 255, 256, 257} {
			if v+d >= 0 && v+d < end {
				out = append(out, uint32(v+d))
			}
		}
	}
	for size := range uint32(5000) {
		out = append(out, size)
	}
	for e := range 22 {
		unit := int64(1) << e
		for _, units := range []int64{1, 1023, 1024, 1025, 1026, 1500, 2046, 2047, 2048, 2049, 2050} {
			about(units * unit)
			about(units*unit + unit/2)
		}
		about(end - unit)
	}
	about(end)
	chance := rand.New(rand.NewSource(11))
	for range 20000 {
		out = append(out, chance.Uint32()>>chance.Intn(32))
	}
	slices.Sort(out)
	return slices.Compact(out)
}

func checkPadded(t *testing.T, size, heap, padded, align uint32, e api.Errno) {
	t.Helper()
	if p, a, got := sizes.Padded(size, heap); p != padded || a != align || got != e {
		t.Errorf("Padded(%d, %d): %d, %d, error %d, want %d, %d, error %d", size, heap, p, a, got, padded, align, e)
	}
}

func checkClass(t *testing.T, size uint32, want int, is bool) {
	t.Helper()
	if class, ok := sizes.Class(size); class != want || ok != is {
		t.Errorf("Class(%d): %d, %v, want %d, %v", size, class, ok, want, is)
	}
}

// P11.1: the classes, and their slots.
func TestClasses(t *testing.T) {
	if n := sizes.Classes(); n != len(slotsWanted) {
		t.Fatalf("Classes(): %d", n)
	}
	for class, slot := range slotsWanted {
		if got := sizes.Slot(class); got != slot {
			t.Errorf("Slot(%d): %d, want %d", class, got, slot)
		}
	}
	if least, greatest := sizes.Slot(0), sizes.Slot(sizes.Classes()-1); least != api.Granule || greatest != api.MaxClass {
		t.Errorf("slots from %d to %d", least, greatest)
	}
}

// P11.1, R1: what is no class has no slot, however far from one it is.
func TestSlotOfNone(t *testing.T) {
	none := []int{math.MinInt, math.MinInt + 1, math.MinInt32, -end, -256, -64, -32, -28, -5, -4, -2, -1, 5, 6, 16, 27, 28, 31, 32, 33, 36, 59, 60, 63, 64, 65, 68, 128, 256, 1 << 16, math.MaxInt32, end, end + 1, math.MaxInt - 1, math.MaxInt}
	for _, class := range none {
		if slot := sizes.Slot(class); slot != 0 {
			t.Errorf("Slot(%d): %d", class, slot)
		}
	}
}

// P11.1: the examples of the document.
func TestClassExamples(t *testing.T) {
	checkClass(t, 0, 0, false)
	checkClass(t, 1, 0, true)
	checkClass(t, 16, 0, true)
	checkClass(t, 17, 1, true)
	checkClass(t, 256, 4, true)
	checkClass(t, 257, 0, false)
}

// P11.1: each size has the least class with room for it, and no size above the greatest slot has one.
func TestClass(t *testing.T) {
	for _, size := range tries() {
		want := slices.IndexFunc(slotsWanted, func(slot uint32) bool { return size > 0 && slot >= size })
		checkClass(t, size, max(want, 0), want >= 0)
	}
}

// P11.2: the examples of the document.
func TestPaddedExamples(t *testing.T) {
	checkPadded(t, 1, 4096, 16, 16, api.OK)
	checkPadded(t, 33, 4096, 64, 64, api.OK)
	checkPadded(t, 257, 4096, 512, 256, api.OK)
	checkPadded(t, 200000, 1<<20, 200192, 256, api.OK)
	checkPadded(t, 1<<20-1, 1<<24, 1048576, 512, api.OK)
	checkPadded(t, 1<<21+1, 1<<24, 2099200, 2048, api.OK)
	checkPadded(t, 0, 4096, 0, 0, api.ErrSize)
	checkPadded(t, 300, 511, 0, 0, api.ErrSize)
	checkPadded(t, 300, 512, 512, 256, api.OK)
	checkPadded(t, last, last, 0, 0, api.ErrSize)
}

// P11.2: the edges: between classes, between a class and whole pages, where align grows above a page, and where no bounds are left.
func TestPaddedEdges(t *testing.T) {
	for _, x := range [][3]uint32{
		{16, 16, 16}, {17, 32, 32}, {32, 32, 32}, {64, 64, 64}, {65, 128, 128}, {128, 128, 128}, {129, 256, 256}, {255, 256, 256}, {256, 256, 256},
		{257, 512, 256}, {511, 512, 256}, {512, 512, 256}, {513, 768, 256}, {2049, 2304, 256}, {4097, 4352, 256},
		{1<<19 - 1, 1 << 19, 256}, {1 << 19, 1 << 19, 256}, {1<<19 + 1, 1<<19 + 512, 512}, {1<<19 + 512, 1<<19 + 512, 512}, {1<<19 + 513, 1<<19 + 1024, 512},
		{1 << 20, 1 << 20, 512}, {1<<20 + 1, 1<<20 + 1024, 1024}, {1 << 31, 1 << 31, 1 << 20}, {1<<31 + 1, 1<<31 + 1<<21, 1 << 21},
		{most - 1<<21 + 1, most, 1 << 21}, {most - 256, most, 1 << 21}, {most - 1, most, 1 << 21}, {most, most, 1 << 21},
	} {
		checkPadded(t, x[0], last, x[1], x[2], api.OK)
	}
}

// P11.2: each size is padded as the Words say.
func TestPadded(t *testing.T) {
	for _, size := range tries() {
		if padded, align, is := wanted(size); is {
			checkPadded(t, size, last, uint32(padded), uint32(align), api.OK)
		} else {
			checkPadded(t, size, last, 0, 0, api.ErrSize)
		}
	}
}

// P11.2: a size that rounds up to 2^32, to whole pages or by its bounds, is refused by every heap; and so is the size 0.
func TestPaddedToNothing(t *testing.T) {
	for _, heap := range []uint32{0, 1, 16, 256, 4096, 1 << 31, most, end - 256, last - 1, last} {
		for _, size := range []uint32{0, most + 1, most + 255, most + 256, end - 1<<20, end - 513, end - 512, end - 511, end - 257, end - 256, end - 255, end - 16, last - 1, last} {
			checkPadded(t, size, heap, 0, 0, api.ErrSize)
		}
	}
}

// P11.2: what is padded may be all of the heap, and not more; the heap changes nothing else.
func TestPaddedByHeaps(t *testing.T) {
	for _, size := range tries() {
		padded, align, is := wanted(size)
		if !is {
			continue
		}
		for _, heap := range []int64{0, 1, 15, int64(size) - 1, int64(size), padded / 2, padded - 256, padded - 1, padded, padded + 1, padded + 255, padded * 2, last} {
			switch {
			case heap < 0 || heap > last:
			case heap < padded:
				checkPadded(t, size, uint32(heap), 0, 0, api.ErrSize)
			default:
				checkPadded(t, size, uint32(heap), uint32(padded), uint32(align), api.OK)
			}
		}
	}
}

// P11.3: the examples of the document, and the edges of pages.
func TestPagesExamples(t *testing.T) {
	for _, x := range []struct {
		padded uint32
		want   int
	}{
		{0, 0}, {1, 1}, {16, 1}, {255, 1}, {256, 1}, {257, 2}, {511, 2}, {512, 2}, {513, 3}, {200192, 782}, {1 << 18, 1024}, {1<<31 - 1, 1 << 23}, {1 << 31, 1 << 23}, {1<<31 + 1, 1<<23 + 1},
		{end - 513, 16777214}, {end - 512, 16777214}, {end - 511, 16777215}, {end - 257, 16777215}, {end - 256, 16777215}, {end - 255, 16777216}, {last, 16777216},
	} {
		if got := sizes.Pages(x.padded); got != x.want {
			t.Errorf("Pages(%d): %d, want %d", x.padded, got, x.want)
		}
	}
}

// P11.3: so many pages have room for the bytes, and one page less has not.
func TestPages(t *testing.T) {
	for _, padded := range tries() {
		n := int64(sizes.Pages(padded))
		if n*api.Page < int64(padded) || (n-1)*api.Page >= int64(padded) {
			t.Errorf("Pages(%d): %d", padded, n)
		}
	}
}

// given tells what a size is padded to in the greatest heap; false, if nothing.
func given(t *testing.T, size uint32) (padded, align uint32, is bool) {
	t.Helper()
	padded, align, e := sizes.Padded(size, last)
	if e != api.OK && (e != api.ErrSize || padded != 0 || align != 0) {
		t.Fatalf("Padded(%d, %d): %d, %d, error %d", size, uint32(last), padded, align, e)
	}
	return padded, align, e == api.OK
}

// P11.4: what is padded is not less, is a multiple of align, and is padded to itself. What has a class is no more than the greatest slot, all else is whole pages.
func TestPaddedFollows(t *testing.T) {
	some := 0
	for _, size := range tries() {
		padded, align, is := given(t, size)
		if !is {
			continue
		}
		some++
		if padded < size || padded%align != 0 || padded%api.Granule != 0 {
			t.Errorf("Padded(%d): %d, %d", size, padded, align)
		}
		checkPadded(t, padded, last, padded, align, api.OK)
		checkPadded(t, padded, padded, padded, align, api.OK)
		if _, is := sizes.Class(size); is != (padded <= api.MaxClass) || !is && (padded%api.Page != 0 || align < api.Page) {
			t.Errorf("Padded(%d): %d, %d; has it a class: %v", size, padded, align, is)
		}
	}
	if some < 5000 {
		t.Errorf("%d sizes were padded", some)
	}
}

// P11.4: from each multiple of align on the bounds of what is padded are exact.
func TestPaddedIsExact(t *testing.T) {
	for _, size := range tries() {
		padded, align, is := given(t, size)
		if !is {
			continue
		}
		room := (end - uint64(padded)) / uint64(align)
		for _, n := range []uint64{0, 1, 2, 3, 1023, 1024, 2047, 2048, 4095, room / 3, room / 2, room - 1, room} {
			base := n * uint64(align)
			if n > room {
				continue
			}
			if _, _, _, exact, ok := bounds.Encode(uint32(base), base+uint64(padded)); !exact || !ok {
				t.Fatalf("Padded(%d): %d, %d: not exact from %d on", size, padded, align, base)
			}
		}
	}
}

// P11.4: sizes that rise are padded to sizes that do not fall; and where one is refused each greater one is.
func TestPaddedRises(t *testing.T) {
	before, greatest := uint32(0), uint32(0)
	for _, size := range tries() {
		padded, _, is := given(t, size)
		if is {
			if padded < before || greatest > 0 {
				t.Errorf("Padded(%d): %d, a lesser size's %d; %d was refused", size, padded, before, greatest)
			}
			before = padded
		} else if size > 0 && greatest == 0 {
			greatest = size
		}
	}
	if greatest != most+1 || before != most {
		t.Errorf("refused from %d on, padded up to %d", greatest, before)
	}
}

// P11.4: the least heap that goes with a size is what it is padded to. Each heap up to some pages is tried.
func TestLeastHeap(t *testing.T) {
	for size := uint32(1); size <= 1100; size++ {
		heap := uint32(0)
		for _, _, e := sizes.Padded(size, heap); e != api.OK && heap < 2000; _, _, e = sizes.Padded(size, heap) {
			heap++
		}
		if padded, _, is := given(t, size); !is || heap != padded {
			t.Errorf("size %d: the heap %d, padded %d", size, heap, padded)
		}
	}
}

// R6: what is answered hangs on the arguments alone: whoever else asks, and whatever was asked ahead.
func TestNothingIsKept(t *testing.T) {
	l := tries()
	var all sync.WaitGroup
	for range 4 {
		all.Go(func() {
			for i := range l {
				size := l[len(l)-1-i]
				padded, align, is := wanted(size)
				p, a, e := sizes.Padded(size, last)
				if is != (e == api.OK) || is && (int64(p) != padded || int64(a) != align) {
					t.Errorf("Padded(%d): %d, %d, error %d", size, p, a, e)
				}
			}
		})
	}
	all.Wait()
}
