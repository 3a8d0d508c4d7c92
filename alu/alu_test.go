package alu_test

import (
	"math"
	"math/rand"
	"sync"
	"testing"

	"fallow/alu"
	"fallow/api"
)

// reckoners are the operations that Reckon knows, in the order of the chapter's table.
var reckoners = []int{
	api.OpAdd, api.OpSub, api.OpMul, api.OpDiv, api.OpRem, api.OpAnd, api.OpOr, api.OpXor, api.OpShl, api.OpShr, api.OpLt, api.OpLtu, api.OpEq,
}

// branches are those that Takes knows.
var branches = []int{api.OpBeq, api.OpBne, api.OpBlt, api.OpBge}

// edges are numbers at which something turns: about 0, the widths of shifts, 2^16, the sign, and 2^32.
var edges = []uint32{
	0, 1, 2, 3, 5, 7, 10, 15, 16, 30, 31, 32, 33, 63, 64, 65, 95, 96, 100, 255, 256, 257, 4095, 4096,
	1<<16 - 1, 1 << 16, 1<<16 + 1, 1<<24 - 1, 1 << 24, 1<<30 - 1, 1 << 30, 0x55555555, 1<<31 - 2, 1<<31 - 1, 1 << 31, 1<<31 + 1, 1<<31 + 2,
	0xaaaaaaaa, 3 << 30, math.MaxUint32 - 256, math.MaxUint32 - 32, math.MaxUint32 - 31, math.MaxUint32 - 2, math.MaxUint32 - 1, math.MaxUint32,
}

// pairs tells each two of the edges, and some more by chance, of which one may have few bits.
func pairs(yield func(a, b uint32) bool) {
	for _, a := range edges {
		for _, b := range edges {
			if !yield(a, b) {
				return
			}
		}
	}
	chance := rand.New(rand.NewSource(9))
	for range 20000 {
		a, b := chance.Uint32()>>chance.Intn(32), chance.Uint32()>>chance.Intn(32)
		if !yield(a, b) || !yield(a, a) {
			return
		}
	}
}

// triples tells each three of a part of the edges, and some more by chance.
func triples(yield func([3]uint32) bool) {
	for i := 0; i < len(edges); i += 2 {
		for j := 0; j < len(edges); j += 2 {
			for k := 0; k < len(edges); k += 2 {
				if !yield([3]uint32{edges[i], edges[j], edges[k]}) {
					return
				}
			}
		}
	}
	chance := rand.New(rand.NewSource(10))
	for range 20000 {
		if !yield([3]uint32{chance.Uint32() >> chance.Intn(32), chance.Uint32() >> chance.Intn(32), chance.Uint32() >> chance.Intn(32)}) {
			return
		}
	}
}

// signed tells the signed number of v, as the chapter's words say.
func signed(v uint32) int64 {
	if v < 1<<31 {
		return int64(v)
	}
	return int64(v) - 1<<32
}

// modulo tells v, which may be below 0, modulo 2^32.
func modulo(v int64) uint32 { return uint32((v%(1<<32) + 1<<32) % (1 << 32)) }

// power tells 2^n, n below 32.
func power(n uint32) int64 {
	v := int64(1)
	for range n {
		v *= 2
	}
	return v
}

// bitwise tells the number each of whose bits is chosen by how many of the two numbers' bits there are set.
func bitwise(a, b uint32, set func(count uint32) bool) uint32 {
	v := int64(0)
	for n := range uint32(32) {
		if set(uint32(int64(a)/power(n)%2) + uint32(int64(b)/power(n)%2)) {
			v += power(n)
		}
	}
	return uint32(v)
}

func one(is bool) uint32 {
	if is {
		return 1
	}
	return 0
}

// want reckons by whole numbers of 64 bits what Reckon must answer for one of the reckoners.
func want(op int, a, b uint32) (uint32, api.Trap) {
	m, n := int64(a), int64(b)
	if (op == api.OpDiv || op == api.OpRem) && n == 0 {
		return 0, api.TrapDiv
	}
	switch op {
	case api.OpAdd:
		return modulo(m + n), api.TrapNone
	case api.OpSub:
		return modulo(m - n), api.TrapNone
	case api.OpMul:
		return modulo(m*(n/65536)%(1<<32)*65536 + m*(n%65536)), api.TrapNone
	case api.OpDiv:
		return uint32((m - m%n) / n), api.TrapNone
	case api.OpRem:
		return uint32(m - m/n*n), api.TrapNone
	case api.OpAnd:
		return bitwise(a, b, func(count uint32) bool { return count == 2 }), api.TrapNone
	case api.OpOr:
		return bitwise(a, b, func(count uint32) bool { return count > 0 }), api.TrapNone
	case api.OpXor:
		return bitwise(a, b, func(count uint32) bool { return count == 1 }), api.TrapNone
	case api.OpShl:
		return modulo(m * power(b%32)), api.TrapNone
	case api.OpShr:
		return uint32(m / power(b%32)), api.TrapNone
	case api.OpLt:
		return one(signed(a) < signed(b)), api.TrapNone
	case api.OpLtu:
		return one(m < n), api.TrapNone
	}
	return one(m == n), api.TrapNone
}

// reckon tells what Reckon makes of a and b, where it must.
func reckon(t *testing.T, op int, a, b uint32) uint32 {
	t.Helper()
	v, trap, is := alu.Reckon(op, a, b)
	if trap != api.TrapNone || !is {
		t.Fatalf("Reckon(%d, %d, %d): %d, trap %d, %v", op, a, b, v, trap, is)
	}
	return v
}

// takes tells what Takes says, where it must say something.
func takes(t *testing.T, op int, a, b uint32) bool {
	t.Helper()
	taken, is := alu.Takes(op, a, b)
	if !is {
		t.Fatalf("Takes(%d, %d, %d): it is none", op, a, b)
	}
	return taken
}

// P9.1: the chapter's examples.
func TestReckonExamples(t *testing.T) {
	for _, x := range []struct {
		op   int
		a, b uint32
		v    uint32
		trap api.Trap
		is   bool
	}{
		{api.OpSub, 1, 2, math.MaxUint32, api.TrapNone, true},
		{api.OpMul, 65536, 65536, 0, api.TrapNone, true},
		{api.OpDiv, 7, 2, 3, api.TrapNone, true},
		{api.OpRem, 7, 2, 1, api.TrapNone, true},
		{api.OpDiv, 7, 0, 0, api.TrapDiv, true},
		{api.OpRem, 0, 0, 0, api.TrapDiv, true},
		{api.OpShl, 1, 33, 2, api.TrapNone, true},
		{api.OpShr, 1 << 31, 31, 1, api.TrapNone, true},
		{api.OpLt, math.MaxUint32, 0, 1, api.TrapNone, true},
		{api.OpLtu, math.MaxUint32, 0, 0, api.TrapNone, true},
		{api.OpAddi, 1, 1, 0, api.TrapNone, false},
		{api.OpLi, 1, 1, 0, api.TrapNone, false},
	} {
		if v, trap, is := alu.Reckon(x.op, x.a, x.b); v != x.v || trap != x.trap || is != x.is {
			t.Errorf("Reckon(%d, %d, %d): %d, trap %d, %v, want %d, trap %d, %v", x.op, x.a, x.b, v, trap, is, x.v, x.trap, x.is)
		}
	}
}

// P9.1: numbers written out, at each operation's own edges.
func TestReckonEdges(t *testing.T) {
	const most, high = math.MaxUint32, 1 << 31
	for _, x := range []struct {
		op      int
		a, b, v uint32
	}{
		{api.OpAdd, most, 1, 0}, {api.OpAdd, high, high, 0}, {api.OpAdd, most, most, most - 1},
		{api.OpSub, 0, most, 1}, {api.OpSub, 0, high, high}, {api.OpSub, 5, 5, 0},
		{api.OpMul, most, most, 1}, {api.OpMul, high, 2, 0}, {api.OpMul, high, 3, high}, {api.OpMul, 65537, 65537, 131073},
		{api.OpDiv, most, 1, most}, {api.OpDiv, most, most, 1}, {api.OpDiv, most, 2, high - 1}, {api.OpDiv, high, most, 0}, {api.OpDiv, 0, 9, 0},
		{api.OpRem, most, 10, 5}, {api.OpRem, high, most, high}, {api.OpRem, most, high, high - 1}, {api.OpRem, 9, 1, 0},
		{api.OpAnd, 12, 10, 8}, {api.OpOr, 12, 10, 14}, {api.OpXor, 12, 10, 6}, {api.OpXor, most, high, high - 1},
		{api.OpShl, 3, 31, high}, {api.OpShl, 7, 32, 7}, {api.OpShl, 7, 64, 7}, {api.OpShl, 1, most, high}, {api.OpShl, most, 0, most},
		{api.OpShr, most, 1, high - 1}, {api.OpShr, high, 32, high}, {api.OpShr, high, 63, 1}, {api.OpShr, most, most, 1}, {api.OpShr, most, 16, 65535},
		{api.OpLt, high, high - 1, 1}, {api.OpLt, high - 1, high, 0}, {api.OpLt, high, high, 0}, {api.OpLt, most - 1, most, 1}, {api.OpLt, 0, most, 0},
		{api.OpLtu, high, high - 1, 0}, {api.OpLtu, high - 1, high, 1}, {api.OpLtu, most, most, 0}, {api.OpLtu, 0, most, 1}, {api.OpLtu, 0, 0, 0},
		{api.OpEq, most, most, 1}, {api.OpEq, 0, 0, 1}, {api.OpEq, high, 0, 0}, {api.OpEq, 1, 65537, 0},
	} {
		if v := reckon(t, x.op, x.a, x.b); v != x.v {
			t.Errorf("Reckon(%d, %d, %d): %d, want %d", x.op, x.a, x.b, v, x.v)
		}
	}
}

// P9.1: each operation, as whole numbers say.
func TestReckon(t *testing.T) {
	for a, b := range pairs {
		for _, op := range reckoners {
			v, trap, is := alu.Reckon(op, a, b)
			if wv, wtrap := want(op, a, b); v != wv || trap != wtrap || !is {
				t.Fatalf("Reckon(%d, %d, %d): %d, trap %d, %v, want %d, trap %d", op, a, b, v, trap, is, wv, wtrap)
			}
		}
	}
}

// P9.1: a division by 0 traps, whatever is divided, and leaves nothing behind for the call after it; no other operation traps at 0.
func TestDivisionByZero(t *testing.T) {
	for _, a := range edges {
		for _, op := range reckoners {
			v, trap, is := alu.Reckon(op, a, 0)
			divides := op == api.OpDiv || op == api.OpRem
			if !is || (trap == api.TrapDiv) != divides || divides && v != 0 {
				t.Errorf("Reckon(%d, %d, 0): %d, trap %d, %v", op, a, v, trap, is)
			}
		}
		if v := reckon(t, api.OpDiv, a, 1); v != a {
			t.Errorf("Reckon(OpDiv, %d, 1) behind it: %d", a, v)
		}
	}
}

// noOps are numbers of no operation; some of them would be one's, if they were reckoned modulo 2^8, 2^16 or 2^32.
func noOps() []int {
	l := []int{0, -1, -2, api.LastOp + 1, 100, 127, 128, 255, 256, 1 << 31, 1 << 32, math.MaxInt, math.MinInt, math.MaxInt32, math.MinInt32}
	for _, op := range append(append([]int{}, reckoners...), branches...) {
		l = append(l, -op, op+1<<8, op+1<<16, op+1<<32, op-1<<8, op-1<<32, op+math.MinInt)
	}
	return l
}

// other tells the operations, and numbers of none, that are not among those.
func other(those []int) (l []int) {
	known := map[int]bool{}
	for _, op := range those {
		known[op] = true
	}
	for op := range api.LastOp + 1 {
		if !known[op] {
			l = append(l, op)
		}
	}
	return append(l, noOps()...)
}

// P9.1: what is no operation of the table is refused, with zero values, also where it would divide by 0.
func TestReckonRefuses(t *testing.T) {
	for _, op := range other(reckoners) {
		for _, a := range edges {
			for _, b := range edges {
				if v, trap, is := alu.Reckon(op, a, b); v != 0 || trap != api.TrapNone || is {
					t.Fatalf("Reckon(%d, %d, %d): %d, trap %d, %v", op, a, b, v, trap, is)
				}
			}
		}
	}
}

// P9.2: the chapter's examples, and numbers written out at the edges of the sign.
func TestTakesExamples(t *testing.T) {
	const most, high = math.MaxUint32, 1 << 31
	for _, x := range []struct {
		op        int
		a, b      uint32
		taken, is bool
	}{
		{api.OpBlt, most, 0, true, true}, {api.OpBge, most, 0, false, true}, {api.OpBne, 1, 1, false, true}, {api.OpAdd, 1, 1, false, false},
		{api.OpBeq, 1, 1, true, true}, {api.OpBeq, 1, 2, false, true}, {api.OpBeq, high, 0, false, true}, {api.OpBne, most, 0, true, true},
		{api.OpBlt, 1, 1, false, true}, {api.OpBlt, high, high - 1, true, true}, {api.OpBlt, high - 1, high, false, true}, {api.OpBlt, 1, 2, true, true},
		{api.OpBge, 1, 1, true, true}, {api.OpBge, high - 1, high, true, true}, {api.OpBge, high, high - 1, false, true}, {api.OpBge, 0, most, true, true},
	} {
		if taken, is := alu.Takes(x.op, x.a, x.b); taken != x.taken || is != x.is {
			t.Errorf("Takes(%d, %d, %d): %v, %v, want %v, %v", x.op, x.a, x.b, taken, is, x.taken, x.is)
		}
	}
}

// P9.2: each branch, as whole numbers say.
func TestTakes(t *testing.T) {
	for a, b := range pairs {
		for op, wanted := range map[int]bool{
			api.OpBeq: int64(a) == int64(b), api.OpBne: int64(a) != int64(b), api.OpBlt: signed(a) < signed(b), api.OpBge: signed(a) >= signed(b),
		} {
			if taken, is := alu.Takes(op, a, b); taken != wanted || !is {
				t.Fatalf("Takes(%d, %d, %d): %v, %v, want %v", op, a, b, taken, is, wanted)
			}
		}
	}
}

// P9.2: what is no branch is refused, also where one would be taken.
func TestTakesRefuses(t *testing.T) {
	for _, op := range other(branches) {
		for _, a := range edges {
			for _, b := range edges {
				if taken, is := alu.Takes(op, a, b); taken || is {
					t.Fatalf("Takes(%d, %d, %d): %v, %v", op, a, b, taken, is)
				}
			}
		}
	}
}

// P9.3: sums and products hang on no order, and go by the rules of numbers modulo 2^32.
func TestRulesOfNumbers(t *testing.T) {
	add := func(a, b uint32) uint32 { return reckon(t, api.OpAdd, a, b) }
	sub := func(a, b uint32) uint32 { return reckon(t, api.OpSub, a, b) }
	mul := func(a, b uint32) uint32 { return reckon(t, api.OpMul, a, b) }
	for a, b := range pairs {
		if add(a, b) != add(b, a) || mul(a, b) != mul(b, a) {
			t.Fatalf("%d, %d: the order counts", a, b)
		}
		if add(a, 0) != a || mul(a, 1) != a || mul(a, 0) != 0 || sub(a, a) != 0 {
			t.Fatalf("%d: 0 and 1", a)
		}
		if add(sub(a, b), b) != a || sub(a, b) != add(a, sub(0, b)) || mul(a, sub(0, b)) != sub(0, mul(a, b)) {
			t.Fatalf("%d, %d: what was taken does not come back", a, b)
		}
	}
	for three := range triples {
		a, b, c := three[0], three[1], three[2]
		if add(add(a, b), c) != add(a, add(b, c)) || mul(mul(a, b), c) != mul(a, mul(b, c)) {
			t.Fatalf("%d, %d, %d: the order counts", a, b, c)
		}
		if mul(a, add(b, c)) != add(mul(a, b), mul(a, c)) {
			t.Fatalf("%d, %d, %d: a product of a sum is no sum of products", a, b, c)
		}
	}
}

// P9.3: what was divided comes together again, and what is left is less than what it was divided by.
func TestDividedComesTogether(t *testing.T) {
	for a, b := range pairs {
		if b == 0 {
			continue
		}
		div, rem := reckon(t, api.OpDiv, a, b), reckon(t, api.OpRem, a, b)
		if reckon(t, api.OpAdd, reckon(t, api.OpMul, div, b), rem) != a || reckon(t, api.OpLtu, rem, b) != 1 || reckon(t, api.OpLtu, a, div) != 0 {
			t.Fatalf("%d by %d: %d, and %d is left", a, b, div, rem)
		}
	}
}

// P9.3: bits that were moved, or set apart, come together again.
func TestBitsComeTogether(t *testing.T) {
	for a, b := range pairs {
		and, or, xor := reckon(t, api.OpAnd, a, b), reckon(t, api.OpOr, a, b), reckon(t, api.OpXor, a, b)
		if reckon(t, api.OpAdd, and, or) != reckon(t, api.OpAdd, a, b) || reckon(t, api.OpSub, or, and) != xor || reckon(t, api.OpXor, xor, b) != a {
			t.Fatalf("%d, %d: %d, %d, %d", a, b, and, or, xor)
		}
		up, down := reckon(t, api.OpShl, a, b), reckon(t, api.OpShr, a, b)
		two := reckon(t, api.OpShl, 1, b)
		if up != reckon(t, api.OpMul, a, two) || down != reckon(t, api.OpDiv, a, two) {
			t.Fatalf("%d moved by %d: %d, %d", a, b, up, down)
		}
	}
}

// P9.3: of two numbers just one is less, or they are the same; and branches go by the same order as numbers that tell it.
func TestOneOrder(t *testing.T) {
	for a, b := range pairs {
		same := reckon(t, api.OpEq, a, b)
		for _, op := range []int{api.OpLt, api.OpLtu} {
			if reckon(t, op, a, b)+reckon(t, op, b, a)+same != 1 {
				t.Fatalf("%d, %d: the order of %d", a, b, op)
			}
		}
		less := reckon(t, api.OpLt, a, b) == 1
		if takes(t, api.OpBlt, a, b) != less || takes(t, api.OpBge, a, b) == less || takes(t, api.OpBeq, a, b) != (same == 1) || takes(t, api.OpBne, a, b) == (same == 1) {
			t.Fatalf("%d, %d: branches go otherwise", a, b)
		}
		if reckon(t, api.OpLt, a, b) != reckon(t, api.OpLtu, reckon(t, api.OpAdd, a, 1<<31), reckon(t, api.OpAdd, b, 1<<31)) {
			t.Fatalf("%d, %d: signed numbers are not those 2^31 further", a, b)
		}
	}
	for three := range triples {
		a, b, c := three[0], three[1], three[2]
		for _, op := range []int{api.OpLt, api.OpLtu} {
			if reckon(t, op, a, b) == 1 && reckon(t, op, b, c) == 1 && reckon(t, op, a, c) != 1 {
				t.Fatalf("%d, %d, %d: the order of %d", a, b, c, op)
			}
		}
	}
}

// R6: what is answered hangs on nothing but the arguments, also where others reckon, and trap, at the same time.
func TestNothingIsKept(t *testing.T) {
	var all sync.WaitGroup
	for start := range 8 {
		all.Go(func() {
			for i := range 2000 {
				op, a, b := reckoners[(start+i)%len(reckoners)], edges[i%len(edges)], edges[(start*i)%len(edges)]
				v, trap, is := alu.Reckon(op, a, b)
				if wv, wtrap := want(op, a, b); v != wv || trap != wtrap || !is {
					t.Errorf("Reckon(%d, %d, %d): %d, trap %d, %v, want %d, trap %d", op, a, b, v, trap, is, wv, wtrap)
				}
			}
		})
	}
	all.Wait()
}
