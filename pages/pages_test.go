package pages_test

import (
	"math"
	"math/rand"
	"sync"
	"testing"

	"fallow/api"
	"fallow/pages"
)

// lengths are those at the edges of words of 8, 32 and 64 bits, and both ends of what may be.
var lengths = []int{0, 1, 2, 5, 7, 8, 9, 31, 32, 33, 63, 64, 65, 100, 127, 128, 129, 1023, api.MaxPages}

// beyond are no pages of any pool; those below 1 are no run and no align.
var beyond = []int{math.MinInt, math.MinInt + 1, -1 << 32, -1025, -1024, -65, -64, -2, -1, 1024, 1025, 1 << 20, 1<<31 - 1, 1 << 31, 1<<32 - 1, 1 << 32, 1<<62 + 1, math.MaxInt - 1024, math.MaxInt - 1, math.MaxInt}

// made is a pool of n pages, none of them free.
func made(t *testing.T, n int) *pages.Pool {
	t.Helper()
	p := pages.New(n)
	if p == nil {
		t.Fatalf("New(%d): nil", n)
	}
	return p
}

// of is a pool in which just the pages are free of which the list says so.
func of(t *testing.T, is []bool) *pages.Pool {
	t.Helper()
	p := made(t, len(is))
	for at, v := range is {
		if v && !p.Put(at, 1) {
			t.Fatalf("Put(%d, 1) of %d pages", at, len(is))
		}
	}
	return p
}

// bits are n pages, of which those are free whose bit of v is set.
func bits(n, v int) []bool {
	is := make([]bool, n)
	for at := range is {
		is[at] = v>>at&1 == 1
	}
	return is
}

// fits tells whether there are so many pages from at on, and all of them are as v says.
func fits(is []bool, at, run int, v bool) bool {
	if at < 0 || run < 1 || run > len(is) || at > len(is)-run {
		return false
	}
	for _, free := range is[at : at+run] {
		if free != v {
			return false
		}
	}
	return true
}

// wanted is what the chapter says that Take answers: each page is tried.
func wanted(is []bool, run, align int) (int, bool) {
	for at := range is {
		if align >= 1 && at%align == 0 && fits(is, at, run, true) {
			return at, true
		}
	}
	return 0, false
}

func set(is []bool, at, run int, v bool) {
	for i := range run {
		is[at+i] = v
	}
}

// check holds a pool against a list of its pages.
func check(t *testing.T, what string, p *pages.Pool, is []bool) {
	t.Helper()
	count := 0
	for at, v := range is {
		if v {
			count++
		}
		if p.Free(at) != v {
			t.Fatalf("%s: Free(%d) of %v", what, at, is)
		}
	}
	if p.Count() != count || p.Free(-1) || p.Free(len(is)) {
		t.Fatalf("%s: Count %d, want %d of %d pages", what, p.Count(), count, len(is))
	}
}

// take takes a run of the pool and of the list, and tells where.
func take(t *testing.T, p *pages.Pool, is []bool, run, align int) (int, bool) {
	t.Helper()
	want, has := wanted(is, run, align)
	if p.Fits(run, align) != has {
		t.Fatalf("Fits(%d, %d) is not %v, of %v", run, align, has, is)
	}
	at, got := p.Take(run, align)
	if at != want || got != has {
		t.Fatalf("Take(%d, %d): %d, %v, want %d, %v, of %v", run, align, at, got, want, has, is)
	}
	if has {
		set(is, at, run, false)
	}
	check(t, "Take", p, is)
	return at, got
}

// put puts a run into the pool and into the list.
func put(t *testing.T, p *pages.Pool, is []bool, at, run int) bool {
	t.Helper()
	want := fits(is, at, run, false)
	if got := p.Put(at, run); got != want {
		t.Fatalf("Put(%d, %d): %v, of %v", at, run, got, is)
	}
	if want {
		set(is, at, run, true)
	}
	check(t, "Put", p, is)
	return want
}

// P12.1 to P12.3: the examples of the document, in their order.
func TestExamples(t *testing.T) {
	if pages.New(-1) != nil || pages.New(1025) != nil {
		t.Error("New(-1), New(1025)")
	}
	p, is := made(t, 8), make([]bool, 8)
	if _, ok := p.Take(1, 1); ok || p.Count() != 0 {
		t.Error("New(8)")
	}
	if !put(t, p, is, 1, 6) || put(t, p, is, 6, 1) || put(t, p, is, 7, 2) || p.Count() != 6 {
		t.Error("Put(1, 6), Put(6, 1), Put(7, 2)")
	}
	for _, x := range []struct{ run, align, at int }{{2, 2, 2}, {2, 1, 4}} {
		if at, ok := p.Take(x.run, x.align); at != x.at || !ok {
			t.Errorf("Take(%d, %d): %d, %v, want %d", x.run, x.align, at, ok, x.at)
		}
	}
	if at, ok := p.Take(3, 1); at != 0 || ok || p.Fits(2, 1) {
		t.Errorf("Take(3, 1): %d, %v; Fits(2, 1)", at, ok)
	}
	if !p.Put(4, 2) {
		t.Error("Put(4, 2)")
	}
	if at, ok := p.Take(3, 1); at != 4 || !ok || p.Count() != 1 {
		t.Errorf("Take(3, 1): %d, %v, %d are left", at, ok, p.Count())
	}
}

// P12.1: from 0 to MaxPages pages, none of them free.
func TestNew(t *testing.T) {
	for _, n := range lengths {
		p, is := made(t, n), make([]bool, n)
		check(t, "New", p, is)
		take(t, p, is, 1, 1)
		take(t, p, is, n, 1)
		if put(t, p, is, 0, n) != (n > 0) || p.Count() != n || p.Put(n, 1) || p.Free(n) {
			t.Errorf("New(%d) has not %d pages", n, n)
		}
	}
	for _, n := range beyond {
		if p := pages.New(n); (p != nil) != (n == api.MaxPages) {
			t.Errorf("New(%d): %v", n, p != nil)
		}
	}
}

// P12.1: a copy is as the pool is, and each of the two goes its own way.
func TestCopy(t *testing.T) {
	for _, n := range lengths {
		is := make([]bool, n)
		for at := range is {
			is[at] = at%3 != 1
		}
		p := of(t, is)
		c, was := p.Copy(), append([]bool{}, is...)
		check(t, "the copy", c, was)
		take(t, p, is, 1, 1)
		check(t, "the copy, as the pool was taken of", c, was)
		put(t, c, was, 1, 1)
		check(t, "the pool, as the copy was put to", p, is)
		take(t, c, was, 3, 1)
		put(t, p, is, 0, 1)
		check(t, "the copy", c, was)
		check(t, "the pool", p, is)
		check(t, "the copy's copy", c.Copy(), was)
	}
}

// P12.2: each pool of some pages, each run and align: the least multiple of align from which on a run fits, and just that run is taken.
func TestTakeAndFits(t *testing.T) {
	for n := range 9 {
		for v := range 1 << n {
			for run := -1; run <= n+1; run++ {
				for align := -1; align <= n+1; align++ {
					is := bits(n, v)
					take(t, of(t, is), is, run, align)
				}
			}
		}
	}
}

// P12.2: runs that lie over the ends of words, and aligns that are no powers of 2.
func TestTakeOfMany(t *testing.T) {
	for _, n := range []int{64, 65, 130, api.MaxPages} {
		for _, hole := range []int{0, 1, 31, 62, 63, 64, 65, 127, 128, n / 2, n - 2, n - 1} {
			for _, run := range []int{1, 2, 31, 32, 33, 63, 64, 65, 127, 128, 129, n / 2, n - 1, n, n + 1} {
				for _, align := range []int{1, 2, 3, 5, 7, 16, 31, 32, 33, 63, 64, 65, 100, 128, n - 1, n, n + 1} {
					is := make([]bool, n)
					for at := range is {
						is[at] = at != hole
					}
					p := of(t, is)
					for ok := true; ok; {
						_, ok = take(t, p, is, run, align)
					}
				}
			}
		}
	}
}

// P12.2: where no page is 0 modulo a greater align but 0 itself, a run fits there or nowhere.
func TestTakeAtNothing(t *testing.T) {
	for _, align := range []int{8, 9, 1024, 1025, 1 << 31, 1 << 32, 1<<62 + 1, math.MaxInt - 1, math.MaxInt} {
		p, is := made(t, 8), make([]bool, 8)
		put(t, p, is, 1, 7)
		if _, ok := take(t, p, is, 1, align); ok {
			t.Errorf("Take(1, %d), 0 not free", align)
		}
		put(t, p, is, 0, 1)
		if at, ok := take(t, p, is, 8, align); at != 0 || !ok {
			t.Errorf("Take(8, %d): %d, %v", align, at, ok)
		}
	}
}

// P12.2: what is no run, or no align, or more than there is, takes nothing.
func TestTakeNothing(t *testing.T) {
	for _, n := range lengths {
		p, is := made(t, n), make([]bool, n)
		put(t, p, is, 0, n)
		none := func(run, align int) {
			if at, ok := p.Take(run, align); at != 0 || ok || p.Fits(run, align) || p.Count() != n {
				t.Fatalf("Take(%d, %d) of %d pages: %d, %v", run, align, n, at, ok)
			}
		}
		for _, v := range append([]int{0, n + 1, n + 64}, beyond...) {
			for _, w := range append([]int{0, 1, n, n + 1}, beyond...) {
				if v < 1 || v > n {
					none(v, w)
				}
				if v < 1 {
					none(w, v)
				}
			}
		}
		check(t, "nothing taken", p, is)
	}
}

// P12.2: Fits takes nothing, and nobody who asks often is told otherwise.
func TestFitsTakesNothing(t *testing.T) {
	p, is := made(t, 70), make([]bool, 70)
	put(t, p, is, 60, 10)
	for range 3 {
		if !p.Fits(10, 1) || !p.Fits(10, 60) || !p.Fits(6, 64) || p.Fits(7, 64) || p.Fits(11, 1) {
			t.Error("Fits of the pages 60 to 69")
		}
		check(t, "Fits", p, is)
	}
}

// P12.3: each pool of some pages, each place and run: just those pages are put, if all of them are there and none is free.
func TestPut(t *testing.T) {
	for n := range 9 {
		for v := range 1 << n {
			for at := -2; at <= n+1; at++ {
				for run := -2; run <= n+2; run++ {
					is := bits(n, v)
					put(t, of(t, is), is, at, run)
				}
			}
		}
	}
}

// P12.3: one free page, at either end of a run or amid, refuses all of it.
func TestPutAmongFree(t *testing.T) {
	for _, at := range []int{0, 1, 63, 64, 65, 500, 959} {
		for _, run := range []int{1, 2, 63, 64, 65} {
			for _, free := range []int{at - 1, at, at + run/2, at + run - 1, at + run} {
				if free < 0 || free >= api.MaxPages {
					continue
				}
				p, is := made(t, api.MaxPages), make([]bool, api.MaxPages)
				put(t, p, is, free, 1)
				if put(t, p, is, at, run) != (free < at || free >= at+run) {
					t.Errorf("Put(%d, %d), %d is free", at, run, free)
				}
			}
		}
	}
}

// P12.3: pages that there are not, all of them or some, are not put, and are not free.
func TestNoSuchPages(t *testing.T) {
	for _, n := range lengths {
		p, is := made(t, n), make([]bool, n)
		for _, at := range append([]int{n, n + 1, n + 63, n + 64}, beyond...) {
			for _, run := range append([]int{0, 1, 2, 64, n, n + 1}, beyond...) {
				if at >= 0 && at < n {
					continue
				}
				if p.Put(at, run) || p.Free(at) {
					t.Errorf("Put(%d, %d) of %d pages", at, run, n)
				}
			}
		}
		for _, at := range []int{0, 1, n / 2, n - 1} {
			for _, run := range append([]int{0, n + 1, n - at + 1}, beyond...) {
				if run == n && at == 0 {
					continue
				}
				if at >= 0 && p.Put(at, run) {
					t.Errorf("Put(%d, %d) of %d pages", at, run, n)
				}
			}
		}
		check(t, "nothing put", p, is)
	}
}

// P12.4: whatever is taken and put back by turns, nobody is handed a page that another one has, and Take fails just if no run fits.
func TestNobodyElse(t *testing.T) {
	type run struct{ at, n int }
	for seed, n := range []int{1, 8, 64, 67, 200, api.MaxPages} {
		chance := rand.New(rand.NewSource(int64(seed)))
		p, is := made(t, n), make([]bool, n)
		put(t, p, is, 0, n)
		var held []run
		for range 1500 {
			switch i := len(held); {
			case i > 0 && chance.Intn(5) < 2:
				i = chance.Intn(i)
				if !put(t, p, is, held[i].at, held[i].n) || p.Put(held[i].at, held[i].n) {
					t.Fatalf("%v is not put back once", held[i])
				}
				held = append(held[:i], held[i+1:]...)
			default:
				r := run{n: 1 + chance.Intn(1+n>>chance.Intn(8))}
				at, ok := take(t, p, is, r.n, 1+chance.Intn(1+n>>chance.Intn(8)))
				for _, h := range held {
					if ok && at < h.at+h.n && h.at < at+r.n {
						t.Fatalf("%d pages from %d on meet %v", r.n, at, h)
					}
				}
				if r.at = at; ok {
					held = append(held, r)
				}
			}
		}
		for _, h := range held {
			put(t, p, is, h.at, h.n)
		}
		if at, ok := p.Take(n, n); at != 0 || !ok || p.Count() != 0 {
			t.Errorf("not all of %d pages came back", n)
		}
	}
}

// P12.4: all pages are handed out one by one, rising, and then none; what one puts back is what the next one gets.
func TestOneByOne(t *testing.T) {
	for _, n := range lengths {
		p, is := made(t, n), make([]bool, n)
		put(t, p, is, 0, n)
		for want := range n {
			if at, ok := p.Take(1, 1); at != want || !ok {
				t.Fatalf("Take(1, 1): %d, %v, want %d of %d", at, ok, want, n)
			}
		}
		if at, ok := p.Take(1, 1); at != 0 || ok || p.Fits(1, 1) || p.Count() != 0 {
			t.Fatalf("Take(1, 1) of no free page: %d, %v", at, ok)
		}
		for at := n - 1; at >= 0; at-- {
			if got, ok := 0, p.Put(at, 1); !ok || p.Put(at, 1) {
				t.Fatalf("Put(%d, 1)", at)
			} else if got, ok = p.Take(1, 1); got != at || !ok {
				t.Fatalf("Take(1, 1): %d, %v, want %d", got, ok, at)
			}
		}
	}
}

// R1, R3: of a pool that is nil, or that New did not make, nothing is told or taken, and nothing panics.
func TestNoPool(t *testing.T) {
	for _, p := range []*pages.Pool{nil, {}} {
		for _, at := range append([]int{0, 1, 64}, beyond...) {
			for _, run := range append([]int{0, 1, 64}, beyond...) {
				if n, ok := p.Take(at, run); n != 0 || ok || p.Fits(at, run) || p.Put(at, run) || p.Free(at) {
					t.Errorf("%d, %d of none", at, run)
				}
			}
		}
		if p.Count() != 0 || p.Copy() != nil {
			t.Error("Count, Copy of none")
		}
	}
}

// P12.1, R3: a pool of no pages is one.
func TestNoPages(t *testing.T) {
	p := made(t, 0)
	if p.Copy() == nil || p.Copy().Copy() == nil || p.Put(0, 1) || p.Fits(1, 1) || p.Count() != 0 {
		t.Error("New(0)")
	}
}

// R6: pools do not touch one another, whoever uses them.
func TestApart(t *testing.T) {
	var all sync.WaitGroup
	for n := range 8 {
		p := made(t, 100)
		all.Go(func() {
			for range 200 {
				if !p.Put(n, 3*n+1) || p.Count() != 3*n+1 {
					t.Errorf("pool %d: Put", n)
				}
				if at, ok := p.Take(3*n+1, 1); at != n || !ok || p.Count() != 0 {
					t.Errorf("pool %d: Take: %d, %v", n, at, ok)
				}
			}
		})
	}
	all.Wait()
}
