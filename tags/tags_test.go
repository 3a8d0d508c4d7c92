package tags_test

import (
	"math"
	"slices"
	"testing"

	"fallow/tags"
)

// lengths are those at the edges of words of 8, 32 and 64 bits, and both ends of what may be.
var lengths = []int{0, 1, 2, 5, 7, 8, 31, 32, 33, 63, 64, 65, 100, 127, 128, 129, 200, 1 << 10, 1<<20 - 1, 1 << 20}

// beyond are no places of any map.
var beyond = []int{-1, -2, -64, -1 << 20, -1 << 32, math.MinInt, math.MinInt + 1, 1 << 20, 1<<20 + 1, 1 << 32, 1<<62 + 1, math.MaxInt - 1, math.MaxInt}

// made is a map of n places in which just these are set.
func made(t *testing.T, n int, set ...int) *tags.Map {
	t.Helper()
	m := tags.New(n)
	if m == nil {
		t.Fatalf("New(%d): nil", n)
	}
	for _, at := range set {
		if !m.Put(at, true) {
			t.Fatalf("Put(%d, true) of %d places", at, n)
		}
	}
	return m
}

// check holds a map against a list of its places.
func check(t *testing.T, what string, m *tags.Map, is []bool) {
	t.Helper()
	set := []int{}
	for at, v := range is {
		if v {
			set = append(set, at)
		}
		if m.Get(at) != v {
			t.Fatalf("%s: Get(%d) is not %v", what, at, v)
		}
	}
	if got := slices.Collect(m.All()); !slices.Equal(got, set) {
		t.Fatalf("%s: All: %v, want %v", what, got, set)
	}
	if m.Len() != len(is) || m.Count() != len(set) {
		t.Fatalf("%s: Len %d, Count %d, want %d, %d", what, m.Len(), m.Count(), len(is), len(set))
	}
}

// P2.1: from 0 to 2^20 places, none of them set.
func TestNew(t *testing.T) {
	for _, n := range lengths {
		check(t, "New", made(t, n), make([]bool, n))
	}
	for _, n := range beyond {
		if m := tags.New(n); (m != nil) != (n == 1<<20) {
			t.Errorf("New(%d): %v", n, m != nil)
		}
	}
}

// P2.1 to P2.4: the examples of the document, in their order.
func TestExamples(t *testing.T) {
	m := made(t, 5)
	if m.Len() != 5 || m.Count() != 0 {
		t.Errorf("New(5): %d, %d", m.Len(), m.Count())
	}
	if !m.Put(3, true) || m.Put(5, true) || !m.Get(3) || m.Get(5) || m.Count() != 1 {
		t.Error("Put(3), Put(5) of 5 places")
	}
	if !m.Put(0, true) || m.Clear(-9, 4) != 2 || m.Count() != 0 || m.Any(0, 99) {
		t.Error("Clear(-9, 4) of 5 places")
	}
	m = made(t, 100, 70)
	if m.Any(64, 70) || !m.Any(64, 71) || !slices.Equal(slices.Collect(m.All()), []int{70}) {
		t.Error("Any, All of 100 places")
	}
}

// P2.1: a copy is as the map is, and each of the two goes its own way.
func TestCopy(t *testing.T) {
	for _, n := range lengths {
		if c := made(t, n).Copy(); c == nil || c.Len() != n || c.Count() != 0 {
			t.Errorf("Copy of %d places", n)
		}
	}
	m := made(t, 130, 0, 64, 129)
	c := m.Copy()
	if c.Clear(0, 65) != 2 || !c.Put(1, true) || !m.Put(70, true) {
		t.Error("changed after the copy")
	}
	if got := slices.Collect(m.All()); !slices.Equal(got, []int{0, 64, 70, 129}) {
		t.Errorf("the map: %v", got)
	}
	if got := slices.Collect(c.All()); !slices.Equal(got, []int{1, 129}) {
		t.Errorf("its copy: %v", got)
	}
	if got := slices.Collect(c.Copy().All()); !slices.Equal(got, []int{1, 129}) {
		t.Errorf("its copy's copy: %v", got)
	}
}

// P2.2: each place is put alone, and told alone.
func TestPutAndGet(t *testing.T) {
	for _, n := range lengths[:17] {
		m, is := made(t, n), make([]bool, n)
		for at := range n {
			for _, v := range []bool{true, true, false, false, true} {
				if !m.Put(at, v) {
					t.Fatalf("Put(%d, %v) of %d places", at, v, n)
				}
				is[at] = v
				check(t, "Put", m, is)
			}
		}
		for at := range n {
			if !m.Put(at, false) {
				t.Fatalf("Put(%d, false) of %d places", at, n)
			}
			is[at] = false
			check(t, "Put", m, is)
		}
	}
}

// P2.2: a place that there is not is not put, whether to be set or not, and is not set.
func TestNoSuchPlace(t *testing.T) {
	for _, n := range lengths {
		m := made(t, n)
		for _, at := range append([]int{n, n + 1, n + 63, n + 64}, beyond...) {
			if m.Put(at, true) || m.Put(at, false) || m.Get(at) {
				t.Errorf("place %d of %d", at, n)
			}
		}
		if m.Count() != 0 || m.Len() != n {
			t.Errorf("%d places: Count %d, Len %d", n, m.Count(), m.Len())
		}
	}
}

// edges are ends of spans: those of words, and those that lie outside.
func edges(n int) []int {
	return []int{math.MinInt, -65, -1, 0, 1, 2, 62, 63, 64, 65, 66, 127, 128, 129, n - 1, n, n + 1, n + 64, math.MaxInt}
}

// P2.3: just the places of a span are cleared, and counted, and asked.
func TestClearAndAny(t *testing.T) {
	for _, n := range []int{0, 1, 63, 64, 65, 128, 130, 200} {
		for _, every := range []int{1, 2, 3, 64, 1000} {
			for _, from := range edges(n) {
				for _, to := range edges(n) {
					checkSpan(t, n, every, from, to)
				}
			}
		}
	}
}

// checkSpan clears a span of n places, of which every so many one is set.
func checkSpan(t *testing.T, n, every, from, to int) {
	t.Helper()
	m, is, want := made(t, n), make([]bool, n), 0
	for at := range n {
		is[at] = at%every == 0
		m.Put(at, is[at])
		if is[at] && at >= from && at < to {
			want++
		}
	}
	if m.Any(from, to) != (want > 0) {
		t.Errorf("%d places, every %d: Any(%d, %d) is not %v", n, every, from, to, want > 0)
	}
	check(t, "Any", m, is)
	if got := m.Clear(from, to); got != want {
		t.Errorf("%d places, every %d: Clear(%d, %d): %d, want %d", n, every, from, to, got, want)
	}
	for at := range n {
		is[at] = is[at] && (at < from || at >= to)
	}
	check(t, "Clear", m, is)
	if m.Any(from, to) || m.Clear(from, to) != 0 {
		t.Errorf("%d places, every %d: some of %d to %d are left", n, every, from, to)
	}
}

// P2.3: one place that is set is found in just the spans that hold it.
func TestAnyOfOne(t *testing.T) {
	const n = 140
	for _, at := range []int{0, 1, 63, 64, 127, 128, 139} {
		m := made(t, n, at)
		for from := range n + 2 {
			for to := range n + 2 {
				if m.Any(from, to) != (from <= at && at < to) {
					t.Fatalf("place %d: Any(%d, %d)", at, from, to)
				}
			}
		}
	}
}

// P2.3: the greatest map is cleared as a whole, and at its ends.
func TestClearMany(t *testing.T) {
	const n = 1 << 20
	m := made(t, n)
	for at := range n {
		m.Put(at, true)
	}
	if m.Count() != n || m.Clear(1, n-1) != n-2 || !slices.Equal(slices.Collect(m.All()), []int{0, n - 1}) {
		t.Error("all but the ends")
	}
	if !m.Any(n-1, math.MaxInt) || m.Clear(math.MinInt, math.MaxInt) != 2 || m.Count() != 0 {
		t.Error("the ends")
	}
}

// P2.4: All tells what was set at its moment, whatever comes behind it, and again.
func TestAllIsOfItsMoment(t *testing.T) {
	m := made(t, 200, 0, 63, 64, 199)
	all := m.All()
	m.Put(1, true)
	m.Put(63, false)
	m.Clear(100, 200)
	for range 3 {
		if got := slices.Collect(all); !slices.Equal(got, []int{0, 63, 64, 199}) {
			t.Errorf("All: %v", got)
		}
	}
	if got := slices.Collect(m.All()); !slices.Equal(got, []int{0, 1, 64}) {
		t.Errorf("All anew: %v", got)
	}
}

// P2.4: what is changed while All is gone through does not change what it tells.
func TestAllWhileChanged(t *testing.T) {
	m, got := made(t, 130, 0, 1, 64, 129), []int{}
	for at := range m.All() {
		got = append(got, at)
		m.Clear(0, 130)
		m.Put(at+1, true)
	}
	if !slices.Equal(got, []int{0, 1, 64, 129}) || m.Count() != 0 {
		t.Errorf("%v, then %d are set", got, m.Count())
	}
}

// P2.4: who leaves early may go through it again, from its first place on; two may go through it at once.
func TestAllLeftEarly(t *testing.T) {
	set := []int{2, 3, 70, 71, 129}
	all := made(t, 130, set...).All()
	for i := range set {
		got := []int{}
		for at := range all {
			got = append(got, at)
			if len(got) == i+1 {
				break
			}
		}
		if !slices.Equal(got, set[:i+1]) {
			t.Errorf("left behind %d: %v", i+1, got)
		}
	}
	pairs := 0
	for a := range all {
		for b := range all {
			if a < b {
				pairs++
			}
		}
	}
	if pairs != 10 {
		t.Errorf("%d pairs", pairs)
	}
}

// P2.5: a place is as it was put last, till it is cleared, whatever is asked between.
func TestAsPutLast(t *testing.T) {
	for _, n := range []int{1, 64, 67, 150} {
		m, is, seed := made(t, n), make([]bool, n), uint32(n)
		next := func(below int) int {
			seed = seed*1664525 + 1013904223
			return int(seed>>8) % below
		}
		for range 2000 {
			from, to, at := next(n+20)-10, next(n+20)-10, next(n)
			switch next(5) {
			case 0:
				m.Clear(from, to)
				for i := max(from, 0); i < min(to, n); i++ {
					is[i] = false
				}
			case 1:
				m.Any(from, to)
				m.Copy().Clear(0, n)
				m.Put(n, true)
			default:
				is[at] = next(2) == 0
				m.Put(at, is[at])
			}
			check(t, "as put last", m, is)
		}
	}
}

// P2.5: maps do not touch one another.
func TestApart(t *testing.T) {
	a, b := made(t, 70, 3, 69), made(t, 70)
	b.Put(4, true)
	a.Clear(0, 70)
	if a.Count() != 0 || !slices.Equal(slices.Collect(b.All()), []int{4}) {
		t.Error("two maps share places")
	}
}

// R1, R3: of a map that is nil, or that New did not make, nothing is told, and nothing panics.
func TestNoMap(t *testing.T) {
	for _, m := range []*tags.Map{nil, {}} {
		for _, at := range append([]int{0, 1, 64}, beyond...) {
			if m.Get(at) || m.Put(at, true) || m.Put(at, false) || m.Clear(at, math.MaxInt) != 0 || m.Any(0, at) {
				t.Errorf("place %d of none", at)
			}
		}
		if m.Len() != 0 || m.Count() != 0 || m.Copy() != nil {
			t.Error("Len, Count, Copy of none")
		}
		for at := range m.All() {
			t.Errorf("All of none: %d", at)
		}
	}
}

// P2.1, R3: a map of no places is one.
func TestNoPlaces(t *testing.T) {
	m := made(t, 0)
	if m.Len() != 0 || m.Clear(math.MinInt, math.MaxInt) != 0 || m.Any(math.MinInt, math.MaxInt) || m.Copy() == nil || m.Copy().Copy() == nil {
		t.Error("New(0)")
	}
	for at := range m.All() {
		t.Errorf("All: %d", at)
	}
}
