package slots_test

import (
	"maps"
	"math"
	"math/rand"
	"slices"
	"sync"
	"testing"

	"fallow/api"
	"fallow/slots"
)

const maxSlots = 16

// beyond are no pages of any book, and no slots of any page.
var beyond = []int{math.MinInt, math.MinInt + 1, -1 << 32, -1<<32 + 3, -1025, -1024, -1023, -256, -64, -16, -2, -1, 1024, 1025, 1027, 2047, 2048, 4096, 1 << 16, 1<<16 + 3, 1<<31 - 1, 1 << 31, 1<<32 - 1, 1 << 32, 1<<32 + 3, 1<<62 + 1, math.MaxInt - 1, math.MaxInt}

// notSlots are numbers that are slots of no page of n of them.
func notSlots(n int) []int {
	l := slices.Clone(beyond)
	for _, slot := range []int{n, n + 1, 15, 16, 17, 31, 32, 33, 47, 48, 63, 64, 65, 127, 128, 255, 256, 1023} {
		if slot >= n {
			l = append(l, slot)
		}
	}
	return l
}

// model is a book as the chapter's Words tell it: of each page in it, which of its slots are free.
type model struct {
	perPage int
	pages   map[int][]bool
}

func (m model) copy() model {
	c := model{m.perPage, map[int][]bool{}}
	for page, free := range m.pages {
		c.pages[page] = slices.Clone(free)
	}
	return c
}

func (m model) whole(page int) bool {
	free, in := m.pages[page]
	return in && !slices.Contains(free, false)
}

func (m model) list() []int { return slices.Sorted(maps.Keys(m.pages)) }

func (m model) free() int {
	count := 0
	for _, free := range m.pages {
		for _, is := range free {
			if is {
				count++
			}
		}
	}
	return count
}

// least is the least free slot of the least page that has one.
func (m model) least() (page, slot int, is bool) {
	for _, page := range m.list() {
		if slot := slices.Index(m.pages[page], true); slot >= 0 {
			return page, slot, true
		}
	}
	return 0, 0, false
}

// both is a book, and what it should be.
type both struct {
	t *testing.T
	b *slots.Book
	m model
}

func made(t *testing.T, perPage int) both {
	t.Helper()
	b := slots.New(perPage)
	if b == nil {
		t.Fatalf("New(%d): nil", perPage)
	}
	return both{t, b, model{perPage, map[int][]bool{}}}
}

// of is a book of one page, of which just those slots are free whose bit of v is set.
func of(t *testing.T, perPage, page, v int) both {
	t.Helper()
	x := made(t, perPage)
	if !x.b.Add(page) {
		t.Fatalf("Add(%d)", page)
	}
	for range perPage {
		x.b.Take()
	}
	x.m.pages[page] = make([]bool, perPage)
	for slot := range perPage {
		if v>>slot&1 == 1 {
			x.put(page, slot)
		}
	}
	return x
}

// check holds the book against what it should be, but for what only Take tells.
func (x both) check(what string) {
	x.t.Helper()
	if got, want := x.b.Pages(), x.m.list(); !slices.Equal(got, want) {
		x.t.Fatalf("%s: Pages %v, want %v", what, got, want)
	}
	if got, want := x.b.Free(), x.m.free(); got != want {
		x.t.Fatalf("%s: Free %d, want %d", what, got, want)
	}
	for page := -1; page <= api.MaxPages; page++ {
		if x.b.Whole(page) != x.m.whole(page) {
			x.t.Fatalf("%s: Whole(%d) of %v", what, page, x.m.pages[page])
		}
	}
}

// drained checks all of it: a copy of the book hands out just the free slots, the least ones first, and then none.
func (x both) drained(what string) {
	x.t.Helper()
	x.check(what)
	y := both{x.t, x.b.Copy(), x.m.copy()}
	for is := true; is; {
		_, _, is = y.take()
	}
	y.check(what + ", all taken")
	x.check(what + ", its copy taken")
}

func (x both) add(page int) bool {
	x.t.Helper()
	_, in := x.m.pages[page]
	want := page >= 0 && page < api.MaxPages && !in
	if got := x.b.Add(page); got != want {
		x.t.Fatalf("Add(%d): %v, of %v", page, got, x.m.list())
	}
	if want {
		x.m.pages[page] = slices.Repeat([]bool{true}, x.m.perPage)
	}
	return want
}

func (x both) drop(page int) bool {
	x.t.Helper()
	want := x.m.whole(page)
	if got := x.b.Drop(page); got != want {
		x.t.Fatalf("Drop(%d): %v, of %v", page, got, x.m.pages[page])
	}
	if want {
		delete(x.m.pages, page)
	}
	return want
}

func (x both) put(page, slot int) bool {
	x.t.Helper()
	free := x.m.pages[page]
	want := slot >= 0 && slot < len(free) && !free[slot]
	if got := x.b.Put(page, slot); got != want {
		x.t.Fatalf("Put(%d, %d): %v, of %v", page, slot, got, free)
	}
	if want {
		free[slot] = true
	}
	return want
}

func (x both) take() (page, slot int, is bool) {
	x.t.Helper()
	page, slot, is = x.m.least()
	if p, s, got := x.b.Take(); p != page || s != slot || got != is {
		x.t.Fatalf("Take: %d, %d, %v, want %d, %d, %v", p, s, got, page, slot, is)
	}
	if is {
		x.m.pages[page][slot] = false
	}
	return page, slot, is
}

// P13.1 to P13.4: the examples of the document, in their order.
func TestExamples(t *testing.T) {
	if slots.New(0) != nil || slots.New(17) != nil {
		t.Error("New(0), New(17)")
	}
	b := slots.New(2)
	takes := func(page, slot int, is bool) {
		t.Helper()
		if p, s, got := b.Take(); p != page || s != slot || got != is {
			t.Errorf("Take: %d, %d, %v, want %d, %d, %v", p, s, got, page, slot, is)
		}
	}
	takes(0, 0, false)
	if b.Free() != 0 {
		t.Error("New(2): Free")
	}
	if !b.Add(5) || b.Add(5) || !b.Add(3) || b.Add(1024) || b.Free() != 4 {
		t.Error("Add(5), Add(5), Add(3), Add(1024), Free")
	}
	takes(3, 0, true)
	takes(3, 1, true)
	takes(5, 0, true)
	if b.Free() != 1 {
		t.Error("Free behind three that were taken")
	}
	if !b.Put(3, 1) || b.Put(3, 1) || b.Put(4, 0) || b.Put(5, 2) || b.Whole(3) {
		t.Error("Put(3, 1), Put(3, 1), Put(4, 0), Put(5, 2), Whole(3)")
	}
	takes(3, 1, true)
	if !b.Put(5, 0) || !b.Drop(5) || b.Drop(3) || !slices.Equal(b.Pages(), []int{3}) {
		t.Error("Put(5, 0), Drop(5), Drop(3), Pages")
	}
}

// P13.1: from 1 to 16 slots a page, and no pages.
func TestNew(t *testing.T) {
	for perPage := -300; perPage <= 300; perPage++ {
		if b := slots.New(perPage); (b != nil) != (perPage >= 1 && perPage <= maxSlots) {
			t.Errorf("New(%d): %v", perPage, b != nil)
		}
	}
	for _, perPage := range beyond {
		if slots.New(perPage) != nil {
			t.Errorf("New(%d)", perPage)
		}
	}
	for perPage := 1; perPage <= maxSlots; perPage++ {
		x := made(t, perPage)
		x.drained("a new book")
		x.add(0)
		if x.b.Free() != perPage {
			t.Errorf("New(%d): a page of %d slots", perPage, x.b.Free())
		}
		x.drained("a book of one page")
	}
}

// P13.1: a copy is as the book is, and each of the two goes its own way.
func TestCopy(t *testing.T) {
	for perPage := 1; perPage <= maxSlots; perPage++ {
		x := made(t, perPage)
		for _, page := range []int{7, 0, 1023} {
			x.add(page)
		}
		x.take()
		c := both{t, x.b.Copy(), x.m.copy()}
		c.drained("the copy")
		x.put(0, 0)
		x.drop(7)
		x.add(9)
		c.drained("the copy, as the book was changed")
		for range perPage + 1 {
			c.take()
		}
		c.drop(1023)
		c.add(8)
		x.drained("the book, as its copy was changed")
		c.drained("the copy, changed")
		both{t, c.b.Copy(), c.m.copy()}.drained("the copy's copy")
	}
}

// P13.1: a book without pages has a copy, of as many slots a page.
func TestCopyOfNoPages(t *testing.T) {
	for perPage := 1; perPage <= maxSlots; perPage++ {
		b := slots.New(perPage).Copy().Copy()
		if b == nil || !b.Add(5) || b.Free() != perPage {
			t.Errorf("New(%d): a copy's copy", perPage)
		}
	}
}

// P13.2: each page from 0 to 1023 is added once, in whatever order; nothing else is one.
func TestAdd(t *testing.T) {
	for _, perPage := range []int{1, 2, 7, 8, 15, 16} {
		x := made(t, perPage)
		for i := range api.MaxPages {
			if page := i * 389 % api.MaxPages; !x.add(page) || x.add(page) || !x.b.Whole(page) {
				t.Fatalf("Add(%d)", page)
			}
		}
		x.check("all pages")
		if x.b.Free() != perPage*api.MaxPages {
			t.Errorf("Free of all pages: %d", x.b.Free())
		}
		for _, page := range beyond {
			x.add(page)
		}
		x.check("all pages, and none beyond them")
	}
}

// P13.2: what may be no page is not added, dropped, put to or whole, and no page is in the book by it.
func TestNoSuchPages(t *testing.T) {
	for perPage := 1; perPage <= maxSlots; perPage++ {
		x := made(t, perPage)
		for _, some := range []bool{false, true} {
			for _, page := range beyond {
				if x.add(page) || x.drop(page) || x.b.Whole(page) || x.put(page, 0) || x.put(page, page) {
					t.Errorf("page %d", page)
				}
			}
			x.drained("no page of those beyond")
			if !some {
				x.add(0)
				x.add(3)
				x.add(1023)
				x.take()
			}
		}
	}
}

// P13.2: a page in the book is not added again, whatever of it is free, and what is taken of it stays taken.
func TestAddTwice(t *testing.T) {
	for perPage := 1; perPage <= maxSlots; perPage++ {
		x := made(t, perPage)
		x.add(6)
		for range perPage {
			x.take()
			if x.add(6) {
				t.Fatal("Add(6), twice")
			}
			x.drained("added twice")
		}
	}
}

// P13.2: a page is whole, and may be dropped, just if all its slots are free: each set of free slots of up to 10.
func TestWholeAndDrop(t *testing.T) {
	for perPage := 1; perPage <= 10; perPage++ {
		for v := range 1 << perPage {
			x := of(t, perPage, 4, v)
			whole := v == 1<<perPage-1
			if x.b.Whole(4) != whole || x.b.Whole(3) || x.drop(3) || x.drop(5) {
				t.Fatalf("Whole(4), its free slots %b of %d", v, perPage)
			}
			if x.drop(4) != whole || x.drop(4) || x.b.Whole(4) {
				t.Fatalf("Drop(4), its free slots %b of %d", v, perPage)
			}
			if page, slot, is := x.take(); is == whole && v > 0 {
				t.Fatalf("Take behind Drop: %d, %d, %v, the free slots %b of %d", page, slot, is, v, perPage)
			}
		}
	}
}

// P13.2: one slot that is taken, whichever of them, keeps a page from being whole.
func TestAllButOne(t *testing.T) {
	for perPage := 1; perPage <= maxSlots; perPage++ {
		for slot := range perPage {
			x := of(t, perPage, 1023, (1<<perPage-1)&^(1<<slot))
			if x.b.Whole(1023) || x.drop(1023) {
				t.Fatalf("%d of %d slots is taken", slot, perPage)
			}
			x.drained("all but one")
			if !x.put(1023, slot) || !x.b.Whole(1023) {
				t.Fatalf("Whole(1023) of %d slots, %d of them put back", perPage, slot)
			}
			x.drained("that one, too")
		}
	}
}

// P13.2: a page that was dropped is in the book no more, and may be added again; then all its slots are free.
func TestDropAndAdd(t *testing.T) {
	for perPage := 1; perPage <= maxSlots; perPage++ {
		x := made(t, perPage)
		for _, page := range []int{2, 0, 1023} {
			x.add(page)
		}
		for _, page := range []int{0, 1023, 2} {
			if !x.drop(page) || x.drop(page) || x.put(page, 0) {
				t.Fatalf("Drop(%d)", page)
			}
			x.drained("dropped")
			if !x.add(page) {
				t.Fatalf("Add(%d) behind Drop", page)
			}
			x.drained("added again")
			x.drop(page)
		}
		if x.b.Free() != 0 || len(x.b.Pages()) != 0 {
			t.Errorf("all dropped: Free %d, Pages %v", x.b.Free(), x.b.Pages())
		}
	}
}

// P13.3: the least slot of the least page, whatever the order in which the pages were added; and none behind the last one.
func TestTake(t *testing.T) {
	for perPage := 1; perPage <= maxSlots; perPage++ {
		x := made(t, perPage)
		pages := []int{64, 1023, 0, 63, 500, 1}
		for _, page := range pages {
			x.add(page)
		}
		slices.Sort(pages)
		for i := range perPage * len(pages) {
			if page, slot, is := x.take(); page != pages[i/perPage] || slot != i%perPage || !is {
				t.Fatalf("Take %d of %d a page: %d, %d, %v", i, perPage, page, slot, is)
			}
		}
		for range 3 {
			if page, slot, is := x.take(); page != 0 || slot != 0 || is {
				t.Fatalf("Take of nothing: %d, %d, %v", page, slot, is)
			}
		}
		if x.b.Free() != 0 || !slices.Equal(x.b.Pages(), pages) {
			t.Errorf("all taken: Free %d, Pages %v", x.b.Free(), x.b.Pages())
		}
	}
}

// P13.3: a lesser page that has a slot again, or is added, comes ahead of those that were taken of till then.
func TestTakeOfLesserPages(t *testing.T) {
	for perPage := 1; perPage <= maxSlots; perPage++ {
		x := made(t, perPage)
		x.add(10)
		x.add(20)
		for range perPage + 1 {
			x.take()
		}
		for _, slot := range []int{perPage - 1, 0, perPage / 2} {
			x.put(10, slot)
			if page, got, is := x.take(); page != 10 || got != slot || !is {
				t.Fatalf("Take behind Put(10, %d): %d, %d, %v", slot, page, got, is)
			}
		}
		x.add(0)
		if page, slot, is := x.take(); page != 0 || slot != 0 || !is {
			t.Fatalf("Take behind Add(0): %d, %d, %v", page, slot, is)
		}
		x.drained("lesser pages")
	}
}

// P13.3: each set of free slots of up to 10, and each slot: it is put just if it is there and taken, and nothing else is changed.
func TestPut(t *testing.T) {
	for perPage := 1; perPage <= 10; perPage++ {
		for v := range 1 << perPage {
			x := of(t, perPage, 4, v)
			free := x.b.Free()
			for slot := range perPage {
				c := both{t, x.b.Copy(), x.m.copy()}
				if c.put(4, slot) != (v>>slot&1 == 0) || c.put(4, slot) || c.b.Free() != free+1-v>>slot&1 {
					t.Fatalf("Put(4, %d), the free slots %b of %d", slot, v, perPage)
				}
				for is := true; is; {
					_, _, is = c.take()
				}
			}
		}
	}
}

// P13.3: what is no slot of a page is not put, though a page of another book has it; nor is a slot of a page that is not in the book.
func TestPutNothing(t *testing.T) {
	for perPage := 1; perPage <= maxSlots; perPage++ {
		for _, v := range []int{0, 1, 1 << (perPage - 1), 1<<perPage - 2, 1<<perPage - 1} {
			x := of(t, perPage, 4, v)
			for _, slot := range notSlots(perPage) {
				if x.put(4, slot) || x.put(5, slot) {
					t.Fatalf("Put(4, %d) of %d slots", slot, perPage)
				}
			}
			for slot := range maxSlots {
				for _, page := range append([]int{0, 3, 5, 1023}, beyond...) {
					if x.put(page, slot) {
						t.Fatalf("Put(%d, %d)", page, slot)
					}
				}
			}
			x.drained("nothing put")
		}
	}
}

// P13.4: how many are free of all pages, and which pages there are, those all of whose slots are taken among them.
func TestFreeAndPages(t *testing.T) {
	for _, perPage := range []int{1, 3, 16} {
		x := made(t, perPage)
		for page := range api.MaxPages {
			x.b.Add(page)
		}
		for taken := range perPage * api.MaxPages {
			if got := x.b.Free(); got != perPage*api.MaxPages-taken {
				t.Fatalf("Free, %d taken: %d", taken, got)
			}
			x.b.Take()
		}
		l := x.b.Pages()
		if x.b.Free() != 0 || len(l) != api.MaxPages || l[0] != 0 || l[1023] != 1023 || !slices.IsSorted(l) {
			t.Errorf("all taken: Free %d, %d pages", x.b.Free(), len(l))
		}
	}
}

// R5: what Pages answers is new each time: who changes it changes no book.
func TestPagesIsNew(t *testing.T) {
	x := made(t, 3)
	for _, page := range []int{9, 2, 5} {
		x.add(page)
	}
	l := x.b.Pages()
	other := x.b.Pages()
	for i := range l {
		l[i] = 77
	}
	_ = append(l[:0], 1, 2, 3, 4)
	if !slices.Equal(other, []int{2, 5, 9}) {
		t.Errorf("Pages: %v", other)
	}
	x.drained("Pages changed")
}

// P13.5: whatever is added, taken, put back and dropped by turns, nobody is handed a slot that another one has, Take fails just if nothing is free, and just what is had is put back.
func TestNobodyElse(t *testing.T) {
	for perPage := 1; perPage <= maxSlots; perPage++ {
		chance := rand.New(rand.NewSource(int64(perPage)))
		x, had := made(t, perPage), map[[2]int]bool{}
		for range 3000 {
			page, slot := chance.Intn(12)*93, chance.Intn(perPage+2)-1
			switch chance.Intn(8) {
			case 0:
				x.add(page)
			case 1:
				x.drop(page)
			case 2, 3, 4:
				h := [2]int{page, slot}
				if x.put(page, slot) != had[h] {
					t.Fatalf("Put(%d, %d) of what is had: %v", page, slot, had[h])
				}
				delete(had, h)
			default:
				free := x.b.Free()
				page, slot, is := x.take()
				if h := [2]int{page, slot}; is != (free > 0) || is && had[h] {
					t.Fatalf("Take, %d free: %v, %v", free, h, is)
				} else if is {
					had[h] = true
				}
			}
		}
		if len(had) == 0 || len(x.m.pages) == 0 {
			t.Errorf("%d slots a page: nothing is had in the end", perPage)
		}
		x.drained("by turns")
	}
}

// P13.5: all slots are handed out once, and none twice; what one puts back is what the next one gets.
func TestOneByOne(t *testing.T) {
	for _, perPage := range []int{1, 5, 16} {
		b := slots.New(perPage)
		for page := range api.MaxPages {
			b.Add(page)
		}
		seen := map[[2]int]bool{}
		for page, slot, is := b.Take(); is; page, slot, is = b.Take() {
			if seen[[2]int{page, slot}] {
				t.Fatalf("Take: %d, %d, twice", page, slot)
			}
			seen[[2]int{page, slot}] = true
		}
		if len(seen) != perPage*api.MaxPages || b.Free() != 0 {
			t.Fatalf("%d slots were taken, %d are free", len(seen), b.Free())
		}
		for page := api.MaxPages - 1; page >= 0; page -= 31 {
			for slot := range perPage {
				if !b.Put(page, slot) || b.Put(page, slot) {
					t.Fatalf("Put(%d, %d)", page, slot)
				}
				if p, s, is := b.Take(); p != page || s != slot || !is {
					t.Fatalf("Take: %d, %d, %v, want %d, %d", p, s, is, page, slot)
				}
			}
		}
	}
}

// R1, R3: of a book that is nil, or that New did not make, nothing is told, added or taken, and nothing panics.
func TestNoBook(t *testing.T) {
	for _, b := range []*slots.Book{nil, {}} {
		for _, page := range append([]int{0, 1, 5, 1023}, beyond...) {
			for _, slot := range append([]int{0, 1, 15, 16}, beyond...) {
				if b.Add(page) || b.Put(page, slot) || b.Drop(page) || b.Whole(page) {
					t.Errorf("%d, %d of none", page, slot)
				}
			}
		}
		if page, slot, is := b.Take(); page != 0 || slot != 0 || is || b.Free() != 0 || len(b.Pages()) != 0 || b.Copy() != nil {
			t.Error("Take, Free, Pages, Copy of none")
		}
	}
}

// R6: books do not touch one another, whoever uses them.
func TestApart(t *testing.T) {
	var all sync.WaitGroup
	for n := range 8 {
		b := slots.New(n + 1)
		all.Go(func() {
			for range 200 {
				if !b.Add(n) || b.Free() != n+1 {
					t.Errorf("book %d: Add", n)
				}
				for slot := range n + 1 {
					if page, got, is := b.Take(); page != n || got != slot || !is {
						t.Errorf("book %d: Take: %d, %d, %v", n, page, got, is)
					}
				}
				for slot := range n + 1 {
					if b.Drop(n) || !b.Put(n, slot) {
						t.Errorf("book %d: Put(%d, %d)", n, n, slot)
					}
				}
				if !b.Drop(n) {
					t.Errorf("book %d: Drop", n)
				}
			}
		})
	}
	all.Wait()
}
