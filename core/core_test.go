package core_test

import (
	"math"
	"math/rand"
	"slices"
	"testing"

	"fallow/alu"
	"fallow/api"
	"fallow/arena"
	"fallow/caps"
	"fallow/core"
	"fallow/derive"
	"fallow/isa"
)

const (
	last  = math.MaxUint32
	whole = 4096 // bytes of the arenas here
	data  = api.PermLoad | api.PermStore | api.PermLoadCap | api.PermStoreCap
)

// The operations that go to memory, and to how many bytes.
var widths = []struct {
	op     int
	size   uint32
	stores bool
}{
	{api.OpLb, 1, false}, {api.OpLh, 2, false}, {api.OpLw, 4, false}, {api.OpLc, 16, false},
	{api.OpSb, 1, true}, {api.OpSh, 2, true}, {api.OpSw, 4, true}, {api.OpSc, 16, true},
}

// made is caps.Make's capability, that there must be.
func made(t *testing.T, at, size uint32, perms uint16) api.Cap {
	t.Helper()
	c, ok := caps.Make(api.Region{At: at, Size: size}, perms)
	if !ok {
		t.Fatalf("Make(At %d, Size %d, %d): false", at, size, perms)
	}
	return c
}

// all is a capability of all addresses, that every cursor tells.
func all(perms uint16) api.Cap { return api.Cap{E: 21, T: 2048, Perms: perms, Valid: true} }

// at is c with another cursor, whatever this does to its bounds.
func at(c api.Cap, cursor uint32) api.Cap {
	c.Cursor = cursor
	return c
}

// typed is c with another object type.
func typed(c api.Cap, kind uint16) api.Cap {
	c.Type = kind
	return c
}

// off is c, not valid.
func off(c api.Cap) api.Cap {
	c.Valid = false
	return c
}

// only is c with those permissions.
func only(c api.Cap, perms uint16) api.Cap {
	c.Perms = perms
	return c
}

// memory is an arena of 16 pages, each of whose bytes is told apart from its neighbours.
func memory(t *testing.T) *arena.Arena {
	t.Helper()
	a, e := arena.New(api.MinPages)
	if e != api.OK {
		t.Fatal(e)
	}
	for n := range uint32(whole) {
		a.Store(n, 1, n*37+n>>8+128)
	}
	return a
}

// start is the frame of the chapter's examples.
func start(t *testing.T) api.Frame {
	t.Helper()
	f := api.Frame{Pc: made(t, 0, 64, api.PermExec|api.PermLoad)}
	f.Regs[1] = made(t, 256, 64, data)
	return f
}

// with is f with c in a register.
func with(f api.Frame, reg int, c api.Cap) api.Frame {
	f.Regs[reg] = c
	return f
}

// to is f with another capability of the program.
func to(f api.Frame, pc api.Cap) api.Frame {
	f.Pc = pc
	return f
}

// content is what an arena has: its bytes, and which tags are set.
func content(a *arena.Arena) (string, []uint32) {
	s, _ := a.Read(0, a.Size())
	var set []uint32
	for page := range a.Size() / api.Page {
		set = append(set, a.Tagged(page)...)
	}
	return s, set
}

// same holds two arenas against each other.
func same(t *testing.T, what string, a, b *arena.Arena) {
	t.Helper()
	s, set := content(a)
	r, tagged := content(b)
	if s != r || !slices.Equal(set, tagged) {
		t.Fatalf("%s: the arena is another one: tagged %v, want %v", what, set, tagged)
	}
}

// does is the frame behind an instruction that must not trap.
func does(t *testing.T, f api.Frame, i api.Instr, a *arena.Arena) api.Frame {
	t.Helper()
	g, trap := core.Do(f, i, a)
	if trap != api.TrapNone {
		t.Fatalf("Do(%v): trap %d", i, trap)
	}
	return g
}

// traps holds Do to a trap: the frame is a zero one, and the arena as it was.
func traps(t *testing.T, f api.Frame, i api.Instr, a *arena.Arena, want api.Trap) {
	t.Helper()
	was := a.Copy()
	g, trap := core.Do(f, i, a)
	if trap != want || g != (api.Frame{}) {
		t.Errorf("Do(%v): trap %d, want %d; %v", i, trap, want, g)
	}
	same(t, "with a trap", a, was)
}

// P10.1, P10.2, P10.3: the chapter's examples.
func TestExamples(t *testing.T) {
	a, f := memory(t), start(t)
	f = does(t, f, api.Instr{Op: api.OpLi, A: 3, Imm: -7}, a)
	if f.Regs[3] != caps.Number(1<<32-7) || f.Pc.Cursor != 4 {
		t.Errorf("li: %v, %v", f.Regs[3], f.Pc)
	}
	f = does(t, f, api.Instr{Op: api.OpAdd, A: 3, B: 3, C: 3}, a)
	if f.Regs[3] != caps.Number(1<<32-14) || f.Pc.Cursor != 8 {
		t.Errorf("add: %v, %v", f.Regs[3], f.Pc)
	}
	does(t, f, api.Instr{Op: api.OpSw, A: 3, B: 1, Imm: 4}, a)
	if v, _ := a.Load(260, 4); v != 1<<32-14 {
		t.Errorf("sw: %d", v)
	}
	traps(t, f, api.Instr{Op: api.OpSw, A: 3, B: 1, Imm: 62}, a, api.TrapBounds)
	traps(t, f, api.Instr{Op: api.OpSw, A: 3, B: 1, Imm: 2}, a, api.TrapAlign)
	traps(t, f, api.Instr{Op: api.OpSw, A: 3, B: 3}, a, api.TrapTag)
	does(t, f, api.Instr{Op: api.OpSc, A: 1, B: 1, Imm: 16}, a)
	if c, _ := a.LoadCap(272); c != f.Regs[1] {
		t.Errorf("sc: %v", c)
	}
	lc := api.Instr{Op: api.OpLc, A: 4, B: 1, Imm: 16}
	if page, is := core.Touch(f, lc, a); page != 1 || !is {
		t.Errorf("Touch: %d, %v", page, is)
	}
	if g := does(t, f, lc, a); g.Regs[4] != f.Regs[1] {
		t.Errorf("lc: %v", g.Regs[4])
	}
	f = start(t)
	traps(t, f, api.Instr{Op: api.OpJalr, A: 5, B: 1}, a, api.TrapPerm)
	f = does(t, f, api.Instr{Op: api.OpBeq, A: 3, B: 3, Imm: 16}, a)
	if f.Pc != at(start(t).Pc, 64) {
		t.Errorf("beq: %v", f.Pc)
	}
	if i, trap := core.Fetch(f, a); trap != api.TrapBounds || i != (api.Instr{}) {
		t.Errorf("Fetch: %v, trap %d", i, trap)
	}
	traps(t, f, api.Instr{Op: api.OpTrap}, a, api.TrapBad)
	traps(t, f, api.Instr{Op: api.OpLi, A: 16}, a, api.TrapBad)
	traps(t, f, api.Instr{Op: api.OpDiv, A: 3, B: 3}, a, api.TrapDiv)
}

// P10.1: the word at the program's capability, as an instruction; what is none is no trap yet.
func TestFetch(t *testing.T) {
	a, f := memory(t), start(t)
	for n, w := range []uint32{0x01300ff9, 0x03123000, 0x1d1ffffe, 0x34000004, 0x35000000, 0, last, 0x01310000, 0x36000000} {
		a.Store(uint32(4*n), 4, w)
		i, trap := core.Fetch(to(f, at(f.Pc, uint32(4*n))), a)
		if i != isa.Decode(w) || trap != api.TrapNone {
			t.Errorf("%x: %v, trap %d", w, i, trap)
		}
	}
	a.Store(0, 4, 0x01300ff9)
	if i, _ := core.Fetch(f, a); i != (api.Instr{Op: api.OpLi, A: 3, Imm: -7}) {
		t.Errorf("li c3 -7: %v", i)
	}
	a.Store(whole-4, 4, 0x34000004)
	i, trap := core.Fetch(to(f, at(made(t, 0, whole, api.PermExec), whole-4)), a)
	if i != (api.Instr{Op: api.OpEcall, Imm: 4}) || trap != api.TrapNone {
		t.Errorf("the last word: %v, trap %d", i, trap)
	}
}

// P10.1: the traps of the way by Pc, each alone, and the first of several.
func TestFetchTraps(t *testing.T) {
	a := memory(t)
	pc := made(t, 64, 64, api.PermExec)
	most := all(api.AllPerms)
	for n, x := range []struct {
		pc   api.Cap
		trap api.Trap
	}{
		{pc, api.TrapNone}, {at(pc, 124), api.TrapNone},
		{off(pc), api.TrapTag}, {caps.Number(64), api.TrapTag}, {api.Cap{}, api.TrapTag},
		{off(typed(at(only(pc, 0), 2), 5)), api.TrapTag},
		{typed(pc, 1), api.TrapSeal}, {typed(pc, 4095), api.TrapSeal}, {typed(at(only(pc, 0), 2), 5), api.TrapSeal},
		{only(pc, 0), api.TrapPerm}, {only(pc, api.AllPerms&^api.PermExec), api.TrapPerm}, {at(only(pc, data), 2), api.TrapPerm},
		{at(pc, 128), api.TrapBounds}, {at(pc, 60), api.TrapBounds}, {at(pc, 0), api.TrapBounds}, {at(pc, 126), api.TrapBounds}, {at(pc, 125), api.TrapBounds}, {at(pc, 62), api.TrapBounds},
		{at(most, whole), api.TrapBounds}, {at(most, whole-2), api.TrapBounds}, {at(most, 1<<31-4), api.TrapBounds}, {at(most, last), api.TrapBounds}, {at(most, last-3), api.TrapBounds},
		{at(most, whole-4), api.TrapNone},
		{at(pc, 65), api.TrapAlign}, {at(pc, 66), api.TrapAlign}, {at(pc, 67), api.TrapAlign}, {at(pc, 122), api.TrapAlign},
		{made(t, 66, 4, api.PermExec), api.TrapAlign}, {made(t, 64, 3, api.PermExec), api.TrapBounds}, {made(t, 64, 0, api.PermExec), api.TrapBounds},
		{api.Cap{Cursor: 64, E: 22, T: 4095, Perms: api.AllPerms, Valid: true}, api.TrapBounds},
	} {
		i, trap := core.Fetch(api.Frame{Pc: x.pc}, a)
		if trap != x.trap || trap != api.TrapNone && i != (api.Instr{}) {
			t.Errorf("%d: %v, trap %d, want %d", n, i, trap, x.trap)
		}
	}
}

// P10.1: Next is the frame, its Pc one word further, as derive.Addr says; nothing else is changed.
func TestNext(t *testing.T) {
	f := start(t)
	f.Regs[7], f.Regs[0] = f.Pc, caps.Number(9)
	for n, x := range []struct{ pc, want api.Cap }{
		{f.Pc, at(f.Pc, 4)}, {at(f.Pc, 64), at(f.Pc, 68)}, {at(f.Pc, 1), at(f.Pc, 5)},
		{off(f.Pc), off(at(f.Pc, 4))}, {typed(f.Pc, 3), off(typed(at(f.Pc, 4), 3))}, {at(f.Pc, 3068), off(at(f.Pc, 3072))},
		{caps.Number(last - 3), caps.Number(0)}, {caps.Number(last), caps.Number(3)}, {only(f.Pc, 0), at(only(f.Pc, 0), 4)},
		{at(all(255), last-3), all(255)}, {at(all(255), last), at(all(255), 3)},
	} {
		if g := core.Next(to(f, x.pc)); g != to(f, x.want) {
			t.Errorf("%d: %v, want %v", n, g.Pc, x.want)
		}
	}
}

// P10.2: each load and store has the traps of its way, of several the one that is named first; and then nothing has changed.
func TestWays(t *testing.T) {
	a := memory(t)
	for _, w := range widths {
		for _, c := range []api.Cap{caps.Number(77), made(t, 16, 32, 3)} {
			need := uint16(api.PermLoad)
			if w.stores {
				need = api.PermStore
			}
			for faults := range 32 { // each set of what may be wrong, a bit for each fault
				b, imm, want := made(t, 512, 64, need|api.PermStoreCap), 16, api.TrapNone
				if faults&16 != 0 && w.size > 1 {
					imm, want = 17, api.TrapAlign
				}
				if faults&8 != 0 {
					b, want = made(t, 512, 16, need|api.PermStoreCap), api.TrapBounds
				}
				if faults&4 != 0 {
					b, want = only(b, api.AllPerms&^need), api.TrapPerm
				}
				if faults&2 != 0 {
					b, want = typed(b, 9), api.TrapSeal
				}
				if faults&1 != 0 {
					b, want = off(b), api.TrapTag
				}
				f := with(with(start(t), 5, c), 6, b)
				i := api.Instr{Op: w.op, A: 5, B: 6, Imm: imm}
				if want != api.TrapNone {
					traps(t, f, i, a, want)
				} else {
					does(t, f, i, a)
				}
			}
		}
	}
}

// P10.2: the edges of a way: the first and the last bytes of the bounds, and of the arena; addresses go round at 2^32.
func TestWaysEdges(t *testing.T) {
	a := memory(t)
	for _, w := range widths {
		n := int(w.size)
		full, sub, most, each := made(t, 0, whole, data), made(t, 1024, 256, data), made(t, 0, 1<<31, data), all(data)
		for k, x := range []struct {
			b    api.Cap
			imm  int
			trap api.Trap
		}{
			{sub, 0, api.TrapNone}, {sub, 256 - n, api.TrapNone}, {sub, 256, api.TrapBounds}, {sub, 256 - n + 1, api.TrapBounds}, {sub, -1, api.TrapBounds}, {sub, -n, api.TrapBounds},
			{at(sub, 1300), -276, api.TrapNone}, {at(sub, 1300), -20 - n, api.TrapNone}, {at(sub, 1300), -20, api.TrapBounds}, {at(sub, 1000), 24, api.TrapNone}, {at(sub, 1000), 0, api.TrapBounds},
			{at(full, whole-w.size), 0, api.TrapNone}, {at(full, whole), -n, api.TrapNone}, {at(full, whole), 0, api.TrapBounds},
			{at(most, whole), -n, api.TrapNone}, {at(most, whole), 0, api.TrapBounds}, {at(most, whole), 1 - n, api.TrapBounds}, {at(most, 1<<31-16), 0, api.TrapBounds},
			{at(each, last), 1, api.TrapNone}, {at(each, last-15), 16, api.TrapNone}, {at(each, last-15), 0, api.TrapBounds}, {at(each, last), 0, api.TrapBounds}, {each, -16, api.TrapBounds}, {each, -1, api.TrapBounds},
			{made(t, 1024, 0, data), 0, api.TrapBounds}, {api.Cap{Cursor: 1024, B: 1030, T: 1024, Perms: data, Valid: true}, 0, api.TrapBounds}, {api.Cap{Cursor: 1024, E: 22, T: 4095, Perms: data, Valid: true}, 0, api.TrapBounds},
		} {
			f := with(start(t), 6, x.b)
			f.Regs[5] = caps.Number(uint32(k) * 0x01010101)
			i := api.Instr{Op: w.op, A: 5, B: 6, Imm: x.imm}
			if _, trap := core.Do(f, i, a.Copy()); trap != x.trap {
				t.Errorf("%v, %d: trap %d, want %d", i, k, trap, x.trap)
			}
		}
	}
}

// P10.2: bytes are loaded as a number without a sign, of the lowest byte first; the other registers stay, and Pc is one word further.
func TestLoads(t *testing.T) {
	a, f := memory(t), start(t)
	a.Write(264, "\xfe\xff\x80\x81\x00\x00\x00\x80")
	for _, x := range []struct {
		op, imm int
		v       uint32
	}{
		{api.OpLb, 8, 0xfe}, {api.OpLb, 9, 0xff}, {api.OpLb, 12, 0}, {api.OpLh, 8, 0xfffe}, {api.OpLh, 10, 0x8180}, {api.OpLw, 8, 0x8180fffe}, {api.OpLw, 12, 0x80000000},
	} {
		for _, reg := range []int{0, 1, 2, 15} {
			want := core.Next(with(f, reg, caps.Number(x.v)))
			if g := does(t, f, api.Instr{Op: x.op, A: reg, B: 1, Imm: x.imm}, a); g != want {
				t.Errorf("%d at %d: %v, want %d", x.op, x.imm, g.Regs[reg], x.v)
			}
		}
	}
	if g := does(t, with(f, 1, only(f.Regs[1], api.PermLoad)), api.Instr{Op: api.OpLw, A: 2, B: 1, Imm: 8}, a); g.Regs[2] != caps.Number(0x8180fffe) {
		t.Errorf("with PermLoad alone: %v", g.Regs[2])
	}
}

// P10.2, P10.5: so many lowest bytes of the number are stored, of a capability those of its cursor; the granule's tag is gone.
func TestStores(t *testing.T) {
	f := start(t)
	f.Regs[1].Perms = api.PermStore
	for _, x := range []struct {
		op, imm int
		bytes   string
	}{
		{api.OpSb, 20, "\x44"}, {api.OpSh, 20, "\x44\x33"}, {api.OpSw, 20, "\x44\x33\x22\xf1"}, {api.OpSb, 31, "\x44"}, {api.OpSw, 28, "\x44\x33\x22\xf1"},
	} {
		for _, c := range []api.Cap{caps.Number(0xf1223344), typed(at(made(t, 0, 1<<31, 255), 0xf1223344), 7)} {
			a := memory(t)
			a.StoreCap(272, f.Pc)
			a.StoreCap(288, f.Pc)
			want := a.Copy()
			want.Write(uint32(256+x.imm), x.bytes)
			g := with(f, 4, c)
			if does(t, g, api.Instr{Op: x.op, A: 4, B: 1, Imm: x.imm}, a) != core.Next(g) {
				t.Errorf("%d: the frame", x.op)
			}
			same(t, "store", a, want)
			if l := a.Tagged(1); !slices.Equal(l, []uint32{288}) {
				t.Errorf("%d: tagged %v", x.op, l)
			}
		}
	}
}

// P10.2, P10.4: a capability is moved through memory as it is; who lacks PermLoadCap gets one that is not valid, who lacks PermStoreCap stores one that is not.
func TestCapsMove(t *testing.T) {
	f := start(t)
	sealed := typed(made(t, 4096, 8192, api.AllPerms), 77)
	sealed.Rest = 1<<24 - 1
	for n, c := range []api.Cap{sealed, off(sealed), f.Pc, f.Regs[1], caps.Number(5), {Valid: true}} {
		a := memory(t)
		g := with(f, 2, c)
		sc, lc := api.Instr{Op: api.OpSc, A: 2, B: 1, Imm: 48}, api.Instr{Op: api.OpLc, A: 3, B: 1, Imm: 48}
		want := a.Copy()
		want.StoreCap(304, c)
		if does(t, g, sc, a) != core.Next(g) {
			t.Errorf("%d: sc: the frame", n)
		}
		same(t, "sc", a, want)
		if h := does(t, g, lc, a); h != core.Next(with(g, 3, c)) {
			t.Errorf("%d: lc: %v", n, h.Regs[3])
		}
		h := with(g, 1, only(f.Regs[1], data&^api.PermLoadCap))
		if h = does(t, h, lc, a); h.Regs[3] != off(c) {
			t.Errorf("%d: without PermLoadCap: %v", n, h.Regs[3])
		}
		h = with(g, 1, only(f.Regs[1], api.AllPerms&^api.PermStoreCap))
		if c.Valid {
			traps(t, h, sc, a, api.TrapPerm)
		} else {
			does(t, h, sc, a)
			same(t, "what is not valid", a, want)
		}
	}
}

// P10.2: what is valid, but not sound, is stored by PermStoreCap, too, and sets no tag.
func TestUnsoundIsStored(t *testing.T) {
	a, f := memory(t), start(t)
	f.Regs[2] = api.Cap{Cursor: 3, E: 22, Valid: true}
	i := api.Instr{Op: api.OpSc, A: 2, B: 1}
	traps(t, with(f, 1, only(f.Regs[1], data&^api.PermStoreCap)), i, a, api.TrapPerm)
	does(t, f, i, a)
	if c, _ := a.LoadCap(256); c != off(f.Regs[2]) || len(a.Tagged(1)) != 0 {
		t.Errorf("%v, tagged %v", c, a.Tagged(1))
	}
}

// P10.2: numbers of an Imm, of 12 bits and of 20, at their edges.
func TestImms(t *testing.T) {
	a, f := memory(t), start(t)
	f.Regs[4] = typed(at(made(t, 0, 1<<31, 255), 100), 7)
	for _, x := range []struct {
		op, b, imm int
		v          uint32
	}{
		{api.OpLi, 0, 0, 0}, {api.OpLi, 0, 2047, 2047}, {api.OpLi, 0, -2048, last - 2047}, {api.OpLi, 0, -1, last},
		{api.OpLui, 0, 0, 0}, {api.OpLui, 0, 1, 4096}, {api.OpLui, 0, -1, last - 4095}, {api.OpLui, 0, 524287, 0x7ffff000}, {api.OpLui, 0, -524288, 0x80000000},
		{api.OpAddi, 4, 2047, 2147}, {api.OpAddi, 4, -100, 0}, {api.OpAddi, 4, -101, last}, {api.OpAddi, 4, 0, 100},
	} {
		want := core.Next(with(f, 9, caps.Number(x.v)))
		if g := does(t, f, api.Instr{Op: x.op, A: 9, B: x.b, Imm: x.imm}, a); g != want {
			t.Errorf("%v: %v", x, g.Regs[9])
		}
	}
}

// P10.2: branches go imm words from where they stand, or one word on.
func TestBranches(t *testing.T) {
	a, f := memory(t), start(t)
	f.Pc.Cursor = 20
	f.Regs[2], f.Regs[3], f.Regs[4] = caps.Number(5), caps.Number(last), at(made(t, 0, 1<<31, 255), 5)
	for _, x := range []struct {
		op, a, b int
		taken    bool
	}{
		{api.OpBeq, 2, 4, true}, {api.OpBeq, 2, 3, false}, {api.OpBne, 2, 3, true}, {api.OpBne, 4, 2, false},
		{api.OpBlt, 3, 2, true}, {api.OpBlt, 2, 3, false}, {api.OpBlt, 2, 4, false}, {api.OpBge, 2, 3, true}, {api.OpBge, 3, 2, false}, {api.OpBge, 2, 2, true},
	} {
		for _, imm := range []int{0, 1, -1, -5, -6, 11, 2047, -2048} {
			want := core.Next(f)
			if x.taken {
				want = to(f, derive.Addr(f.Pc, uint32(20+4*imm)))
			}
			if g := does(t, f, api.Instr{Op: x.op, A: x.a, B: x.b, Imm: imm}, a); g != want {
				t.Errorf("%v by %d: %v, want %v", x, imm, g.Pc, want.Pc)
			}
		}
	}
}

// P10.2: jumps, and where they come from; jalr's traps, of several the first one.
func TestJumps(t *testing.T) {
	a, f := memory(t), start(t)
	f.Pc.Cursor = 20
	for _, imm := range []int{0, 1, -5, -6, 11, 700, 1000, 524287, -524288} {
		want := to(with(f, 5, at(f.Pc, 24)), derive.Addr(f.Pc, uint32(20+4*imm)))
		if g := does(t, f, api.Instr{Op: api.OpJal, A: 5, Imm: imm}, a); g != want {
			t.Errorf("jal by %d: %v, %v", imm, g.Regs[5], g.Pc)
		}
	}
	b := at(made(t, 512, 64, api.PermExec|api.PermStore), 513)
	f.Regs[6] = b
	if g := does(t, f, api.Instr{Op: api.OpJalr, A: 5, B: 6}, a); g != to(with(f, 5, at(f.Pc, 24)), b) {
		t.Errorf("jalr: %v, %v", g.Regs[5], g.Pc)
	}
	if g := does(t, f, api.Instr{Op: api.OpJalr, A: 6, B: 6}, a); g != to(with(f, 6, at(f.Pc, 24)), b) {
		t.Errorf("jalr of what it writes: %v, %v", g.Regs[6], g.Pc)
	}
	if g := does(t, with(f, 6, at(b, 9000)), api.Instr{Op: api.OpJalr, A: 5, B: 6}, a); g.Pc != at(b, 9000) {
		t.Errorf("jalr beyond: %v", g.Pc)
	}
	for _, x := range []struct {
		b    api.Cap
		trap api.Trap
	}{
		{off(b), api.TrapTag}, {off(typed(only(b, 0), 3)), api.TrapTag}, {caps.Number(512), api.TrapTag},
		{typed(b, 1), api.TrapSeal}, {typed(only(b, 0), 3), api.TrapSeal}, {only(b, api.AllPerms&^api.PermExec), api.TrapPerm},
	} {
		traps(t, with(f, 6, x.b), api.Instr{Op: api.OpJalr, A: 5, B: 6}, a, x.trap)
	}
}

// P10.2: what is told of a capability, as a number.
func TestTold(t *testing.T) {
	a, f := memory(t), start(t)
	c := typed(at(made(t, 4096, 8192, data|api.PermExec), 5000), 4095)
	for n, x := range []struct {
		b                                         api.Cap
		addr, base, size, perms, kind, tag, isint uint32
	}{
		{c, 5000, 4096, 8192, data | api.PermExec, 4095, 1, 0},
		{off(c), 5000, 4096, 8192, data | api.PermExec, 4095, 0, 0},
		{at(all(api.AllPerms), 1<<30), 1 << 30, 0, last, api.AllPerms, 0, 1, 0},
		{made(t, 1<<31, 1<<31, 1), 1 << 31, 1 << 31, 1 << 31, 1, 0, 1, 0},
		{made(t, 300, 0, 0), 300, 300, 0, 0, 0, 1, 0},
		{caps.Number(7), 7, 0, 0, 0, 0, 0, 1}, {api.Cap{}, 0, 0, 0, 0, 0, 0, 1}, {api.Cap{Cursor: 7, Valid: true}, 7, 0, 0, 0, 0, 1, 0},
		{api.Cap{Cursor: 7, Rest: 1}, 7, 0, 0, 0, 0, 0, 0},
		{api.Cap{Cursor: last, E: 22, Perms: 65535, Type: 65535, Valid: true}, last, 0, 0, 65535, 65535, 1, 0},
	} {
		g := with(f, 6, x.b)
		for op, v := range map[int]uint32{
			api.OpGaddr: x.addr, api.OpGbase: x.base, api.OpGlen: x.size, api.OpGperm: x.perms, api.OpGtype: x.kind, api.OpGtag: x.tag, api.OpIsint: x.isint,
		} {
			for _, reg := range []int{0, 6, 15} {
				if h := does(t, g, api.Instr{Op: op, A: reg, B: 6}, a); h != core.Next(with(g, reg, caps.Number(v))) {
					t.Errorf("%d, %d: %v, want %d", n, op, h.Regs[reg], v)
				}
			}
		}
	}
}

// P10.2, P10.4: capabilities of capabilities, by unlike registers, of unlike kinds.
func TestDerived(t *testing.T) {
	a, f := memory(t), start(t)
	c := at(made(t, 4096, 8192, data), 4200)
	u := at(made(t, 0, 100, api.PermSeal|api.PermUnseal), 9)
	n := caps.Number(100)
	part := derive.Set(c, 100)
	for k, x := range []struct {
		op, imm    int
		b, c, want api.Cap
	}{
		{api.OpMove, 0, c, api.Cap{}, c}, {api.OpMove, 0, typed(c, 5), api.Cap{}, typed(c, 5)}, {api.OpMove, 0, n, api.Cap{}, n},
		{api.OpClear, 0, c, api.Cap{}, off(c)}, {api.OpClear, 0, typed(c, 5), api.Cap{}, typed(off(c), 5)},
		{api.OpInc, 0, c, n, at(c, 4300)}, {api.OpInc, 0, c, caps.Number(last), at(c, 4199)}, {api.OpInc, 0, n, c, caps.Number(4300)}, {api.OpInc, 0, c, caps.Number(1 << 20), off(at(c, 4200+1<<20))},
		{api.OpInci, 100, c, api.Cap{}, at(c, 4300)}, {api.OpInci, -2048, c, api.Cap{}, at(c, 2152)}, {api.OpInci, -1, caps.Number(0), api.Cap{}, caps.Number(last)}, {api.OpInci, 1, typed(c, 5), api.Cap{}, off(typed(at(c, 4201), 5))},
		{api.OpAddr, 0, c, n, at(c, 100)}, {api.OpAddr, 0, c, caps.Number(1 << 20), off(at(c, 1<<20))}, {api.OpAddr, 0, c, caps.Number(5000), at(c, 5000)}, {api.OpAddr, 0, c, at(u, 5001), at(c, 5001)},
		{api.OpSet, 0, c, n, part}, {api.OpSet, 0, at(c, 4097), caps.Number(4095), derive.Set(at(c, 4097), 4095)}, {api.OpSet, 0, c, caps.Number(last), off(c)},
		{api.OpExact, 0, c, n, part}, {api.OpExact, 0, at(c, 4097), caps.Number(4095), off(derive.Set(at(c, 4097), 4095))},
		{api.OpAnds, 0, c, caps.Number(api.PermLoad | api.PermExec), only(c, api.PermLoad)}, {api.OpAnds, 0, typed(c, 5), caps.Number(last), off(typed(c, 5))}, {api.OpAnds, 0, c, caps.Number(1 << 16), only(c, 0)},
		{api.OpSeal, 0, c, u, typed(c, 9)}, {api.OpSeal, 0, u, c, off(u)}, {api.OpSeal, 0, c, n, off(c)}, {api.OpSeal, 0, c, only(u, api.PermUnseal), off(c)},
		{api.OpOpen, 0, typed(c, 9), u, c}, {api.OpOpen, 0, typed(c, 8), u, off(typed(c, 8))}, {api.OpOpen, 0, c, u, off(c)}, {api.OpOpen, 0, u, typed(c, 9), off(u)},
		{api.OpBuild, 0, c, off(part), part}, {api.OpBuild, 0, part, off(c), off(c)}, {api.OpBuild, 0, part, c, off(c)}, {api.OpBuild, 0, typed(c, 5), part, off(part)},
	} {
		i := api.Instr{Op: x.op, A: 8, B: 6, Imm: x.imm}
		if isa.Form(x.op) == "abc" {
			i.C = 7
		}
		g := with(with(f, 6, x.b), 7, x.c)
		if h := does(t, g, i, a); h != core.Next(with(g, 8, x.want)) {
			t.Errorf("%d: %s: %v, want %v", k, isa.Name(x.op), h.Regs[8], x.want)
		}
		i.A = 6
		if h := does(t, g, i, a); h != core.Next(with(g, 6, x.want)) {
			t.Errorf("%d: %s of what it writes: %v, want %v", k, isa.Name(x.op), h.Regs[6], x.want)
		}
	}
}

// P10.2: pc tells the program's capability from here, and goes one word on.
func TestPc(t *testing.T) {
	a, f := memory(t), start(t)
	f.Pc.Cursor = 20
	for _, pc := range []api.Cap{f.Pc, off(f.Pc), typed(f.Pc, 3)} {
		for _, imm := range []int{0, 1, -5, -6, 700, 1000, 524287, -524288} {
			g := to(f, pc)
			if h := does(t, g, api.Instr{Op: api.OpPc, A: 5, Imm: imm}, a); h != core.Next(with(g, 5, derive.Addr(pc, uint32(20+4*imm)))) {
				t.Errorf("pc by %d: %v", imm, h.Regs[5])
			}
		}
	}
}

// P10.2: calls, their ends and services change nothing here.
func TestOthersDoThese(t *testing.T) {
	a, f := memory(t), start(t)
	f.Regs[2] = typed(f.Pc, 5)
	was := a.Copy()
	for _, i := range []api.Instr{
		{Op: api.OpCall, A: 2, B: 1}, {Op: api.OpCall}, {Op: api.OpCall, A: 15, B: 15}, {Op: api.OpRet},
		{Op: api.OpEcall}, {Op: api.OpEcall, Imm: 6}, {Op: api.OpEcall, Imm: 7}, {Op: api.OpEcall, Imm: -2048}, {Op: api.OpEcall, Imm: 2047},
	} {
		if g := does(t, f, i, a); g != f {
			t.Errorf("%v: %v", i, g)
		}
	}
	same(t, "others", a, was)
}

// badOnes tells instructions that may not be, of each operation, and such of none.
func badOnes() (l []api.Instr) {
	for _, op := range []int{0, -1, api.LastOp + 1, 255, 256, api.OpLc + 256, api.OpLi - 256, 1<<32 + api.OpLc, math.MaxInt, math.MinInt} {
		l = append(l, api.Instr{Op: op}, api.Instr{Op: op, A: 16, B: -1, Imm: 5000})
	}
	for op := range api.LastOp + 1 {
		for _, r := range []int{16, 17, -1, 256, 1 << 32, math.MaxInt, math.MinInt} {
			l = append(l, api.Instr{Op: op, A: r}, api.Instr{Op: op, B: r}, api.Instr{Op: op, C: r})
		}
		for _, imm := range []int{524288, -524289, 1 << 32, -1 << 32, math.MaxInt, math.MinInt} {
			l = append(l, api.Instr{Op: op, Imm: imm})
		}
		switch isa.Form(op) {
		case "abi", "ai", "i":
			l = append(l, api.Instr{Op: op, Imm: 2048}, api.Instr{Op: op, Imm: -2049}, api.Instr{Op: op, C: 1})
		case "abc", "ab", "":
			l = append(l, api.Instr{Op: op, Imm: 1}, api.Instr{Op: op, Imm: -1})
		case "aj":
			l = append(l, api.Instr{Op: op, B: 1}, api.Instr{Op: op, C: 1})
		}
	}
	return append(l, api.Instr{Op: api.OpTrap}, api.Instr{Op: api.OpTrap, A: 1}, api.Instr{Op: api.OpRet, A: 1}, api.Instr{Op: api.OpEcall, B: 1})
}

// P10.2, P10.3: an instruction that may not be traps ahead of all else, and touches nothing.
func TestBad(t *testing.T) {
	a, f := memory(t), start(t)
	f.Regs[0] = f.Regs[1]
	for _, i := range badOnes() {
		for _, g := range []api.Frame{f, {}} {
			traps(t, g, i, a, api.TrapBad)
			if page, is := core.Touch(g, i, a); page != 0 || is {
				t.Errorf("Touch(%v): %d, %v", i, page, is)
			}
		}
	}
}

// P10.3: the page of the bytes, whatever its capability may load there; nothing of what has a trap, or is no lc.
func TestTouch(t *testing.T) {
	a, f := memory(t), start(t)
	for page := range 16 {
		for _, in := range []uint32{0, 16, 128, 240} {
			for _, imm := range []int{0, -16, 32, 2032, -2048} {
				g := with(f, 6, at(all(api.PermLoad), uint32(page)*256+in-uint32(imm)))
				i := api.Instr{Op: api.OpLc, A: 5, B: 6, Imm: imm}
				if got, is := core.Touch(g, i, a); got != page || !is {
					t.Errorf("at %d of page %d: %d, %v", in, page, got, is)
				}
				does(t, g, i, a)
			}
		}
	}
	full := made(t, 0, whole, api.PermLoad)
	for n, b := range []api.Cap{
		off(full), typed(full, 1), only(full, api.AllPerms&^api.PermLoad), at(full, whole), at(full, 8), at(full, 1), at(full, whole-8),
		at(made(t, 0, 1<<31, data), whole), made(t, 512, 15, data), made(t, 520, 16, data), caps.Number(512),
	} {
		if page, is := core.Touch(with(f, 6, b), api.Instr{Op: api.OpLc, A: 5, B: 6}, a); page != 0 || is {
			t.Errorf("%d: %d, %v", n, page, is)
		}
	}
	f.Regs[6] = at(made(t, 0, whole, api.AllPerms), 512)
	for op := range api.LastOp + 1 {
		if page, is := core.Touch(f, api.Instr{Op: op, A: 5, B: 6}, a); (page != 0 || is) && op != api.OpLc {
			t.Errorf("%s: %d, %v", isa.Name(op), page, is)
		}
	}
}

// maker makes frames and instructions by chance: capabilities of all sorts, such as are not sound among them.
type maker struct{ *rand.Rand }

func (m maker) cap() api.Cap {
	base := uint32(m.Intn(whole + 256))
	c := derive.Set(at(all(uint16(m.Intn(256))), base), uint32(m.Intn(1<<m.Intn(14))))
	c.Valid = m.Intn(6) > 0
	if m.Intn(2) == 0 {
		c.Cursor = base&^15 + uint32(m.Intn(12))*8
	}
	if m.Intn(3) == 0 {
		c.Perms |= data
	}
	if m.Intn(7) == 0 {
		c.Type = uint16(m.Intn(12))
	}
	switch m.Intn(20) {
	case 0:
		return caps.Number(m.Uint32() >> m.Intn(32))
	case 1:
		return api.Cap{Cursor: uint32(m.Intn(12)), E: 0, T: 100, Perms: api.PermSeal | api.PermUnseal, Valid: true}
	case 2:
		return api.Cap{Cursor: m.Uint32(), E: uint8(m.Intn(256)), B: uint16(m.Uint32()), T: uint16(m.Uint32()), Perms: uint16(m.Uint32()), Type: uint16(m.Uint32()), Rest: m.Uint32(), Valid: m.Intn(2) == 0}
	case 3, 4, 5:
		return caps.Number(uint32(m.Intn(20)) - 3)
	}
	return c
}

func (m maker) frame() (f api.Frame) {
	for n := range f.Regs {
		f.Regs[n] = m.cap()
	}
	f.Pc = m.cap()
	return f
}

// instr is one that may be, of any operation.
func (m maker) instr() (i api.Instr) {
	for i.Op == api.OpBad {
		w := uint32(1+m.Intn(api.LastOp))<<24 | m.Uint32()>>8
		switch isa.Form(int(w >> 24)) {
		case "abc":
			w &= 0xfffff000
		case "ab":
			w &= 0xffff0000
		case "abi":
			w &= 0xffff00ff
		case "ai":
			w &= 0xfff00fff
		case "i":
			w &= 0xff000fff
		case "":
			w &= 0xff000000
		}
		i = isa.Decode(w)
	}
	return i
}

// arena is one with some capabilities laid into it.
func (m maker) arena(t *testing.T) *arena.Arena {
	a := memory(t)
	for range 64 {
		a.StoreCap(uint32(m.Intn(whole/16))*16, m.cap())
	}
	return a
}

// want is what the table says of an instruction that may be: the frame, the trap; the arena is changed as it says.
func want(f api.Frame, i api.Instr, a *arena.Arena) (api.Frame, api.Trap) {
	ra, b, c, imm := f.Regs[i.A], f.Regs[i.B], f.Regs[i.C], uint32(int64(i.Imm))
	g := to(f, derive.Addr(f.Pc, f.Pc.Cursor+4))
	set := func(c api.Cap) (api.Frame, api.Trap) { return with(g, i.A, c), api.TrapNone }
	num := func(v uint32) (api.Frame, api.Trap) { return set(caps.Number(v)) }
	base, top := caps.Range(b)
	there := derive.Addr(f.Pc, f.Pc.Cursor+4*imm)
	switch i.Op {
	case api.OpTrap:
		return api.Frame{}, api.TrapBad
	case api.OpLi:
		return num(imm)
	case api.OpLui:
		return num(imm << 12)
	case api.OpAddi:
		return num(b.Cursor + imm)
	case api.OpLb, api.OpLh, api.OpLw, api.OpSb, api.OpSh, api.OpSw, api.OpLc, api.OpSc:
		return wantMemory(f, g, i, a)
	case api.OpBeq, api.OpBne, api.OpBlt, api.OpBge:
		if taken, _ := alu.Takes(i.Op, ra.Cursor, b.Cursor); taken {
			g.Pc = there
		}
		return g, api.TrapNone
	case api.OpJal:
		return to(with(g, i.A, g.Pc), there), api.TrapNone
	case api.OpJalr:
		if !b.Valid {
			return api.Frame{}, api.TrapTag
		} else if b.Type > 0 {
			return api.Frame{}, api.TrapSeal
		} else if b.Perms/api.PermExec%2 == 0 {
			return api.Frame{}, api.TrapPerm
		}
		return to(with(g, i.A, g.Pc), b), api.TrapNone
	case api.OpMove:
		return set(b)
	case api.OpClear:
		return set(off(b))
	case api.OpInc:
		return set(derive.Addr(b, b.Cursor+c.Cursor))
	case api.OpInci:
		return set(derive.Addr(b, b.Cursor+imm))
	case api.OpAddr:
		return set(derive.Addr(b, c.Cursor))
	case api.OpSet:
		return set(derive.Set(b, c.Cursor))
	case api.OpExact:
		return set(derive.Exact(b, c.Cursor))
	case api.OpAnds:
		return set(derive.And(b, c.Cursor))
	case api.OpSeal:
		return set(derive.Seal(b, c))
	case api.OpOpen:
		return set(derive.Open(b, c))
	case api.OpBuild:
		return set(derive.Build(c, b))
	case api.OpGaddr:
		return num(b.Cursor)
	case api.OpGperm:
		return num(uint32(b.Perms))
	case api.OpGtype:
		return num(uint32(b.Type))
	case api.OpGbase:
		return num(base)
	case api.OpGlen:
		if top-uint64(base) == 1<<32 {
			return num(last)
		}
		return num(uint32(top) - base)
	case api.OpGtag:
		return num(map[bool]uint32{true: 1}[b.Valid])
	case api.OpIsint:
		return num(map[bool]uint32{true: 1}[b == api.Cap{Cursor: b.Cursor}])
	case api.OpPc:
		return set(there)
	case api.OpCall, api.OpRet, api.OpEcall:
		return f, api.TrapNone
	}
	v, trap, _ := alu.Reckon(i.Op, b.Cursor, c.Cursor)
	if trap != api.TrapNone {
		return api.Frame{}, trap
	}
	return num(v)
}

// wantMemory is want of a load, or a store.
func wantMemory(f, g api.Frame, i api.Instr, a *arena.Arena) (api.Frame, api.Trap) {
	var size, need uint32 = 0, 2
	for _, w := range widths {
		if w.op == i.Op {
			size = w.size
			if !w.stores {
				need = 1
			}
		}
	}
	c, b := f.Regs[i.A], f.Regs[i.B]
	to := b.Cursor + uint32(int64(i.Imm))
	base, top := caps.Range(b)
	end := int64(to) + int64(size)
	for _, x := range []struct {
		is   bool
		trap api.Trap
	}{
		{!b.Valid, api.TrapTag}, {b.Type != 0, api.TrapSeal},
		{uint32(b.Perms)/need%2 == 0 || i.Op == api.OpSc && c.Valid && b.Perms/api.PermStoreCap%2 == 0, api.TrapPerm},
		{to < base || end > int64(top) || end > int64(a.Size()), api.TrapBounds}, {to%size != 0, api.TrapAlign},
	} {
		if x.is {
			return api.Frame{}, x.trap
		}
	}
	switch i.Op {
	case api.OpLc:
		l, _ := a.LoadCap(to)
		l.Valid = l.Valid && b.Perms/api.PermLoadCap%2 == 1
		return with(g, i.A, l), api.TrapNone
	case api.OpSc:
		a.StoreCap(to, c)
	case api.OpSb, api.OpSh, api.OpSw:
		a.Store(to, int(size), c.Cursor)
	default:
		v, _ := a.Load(to, int(size))
		return with(g, i.A, caps.Number(v)), api.TrapNone
	}
	return g, api.TrapNone
}

// P10.2, P10.3: each operation, by chance, as the table says: the frame, the trap, and the arena; each of them is done, and each of its traps met.
func TestTable(t *testing.T) {
	m := maker{rand.New(rand.NewSource(10))}
	met := map[[2]int]int{}
	a := m.arena(t)
	for n := range 60000 {
		if n%200 == 0 {
			a = m.arena(t)
		}
		f, i, b := m.frame(), m.instr(), a.Copy()
		w, trap := want(f, i, b)
		page, is := core.Touch(f, i, a)
		g, got := core.Do(f, i, a)
		if g != w || got != trap {
			t.Fatalf("%v: trap %d, want %d\n%v, want\n%v", i, got, trap, g, w)
		}
		if n%8 == 0 || trap != api.TrapNone || f.Regs[i.A] != g.Regs[i.A] {
			same(t, isa.Name(i.Op), a, b)
		}
		lc := i.Op == api.OpLc && trap == api.TrapNone
		if is != lc || lc && uint32(page) != (f.Regs[i.B].Cursor+uint32(i.Imm))/256 || !lc && page != 0 {
			t.Fatalf("Touch(%v): %d, %v", i, page, is)
		}
		met[[2]int{i.Op, int(trap)}]++
	}
	for op := 1; op < api.OpTrap; op++ {
		if met[[2]int{op, 0}] == 0 {
			t.Errorf("%s was not done", isa.Name(op))
		}
	}
	for _, w := range widths {
		for trap := api.TrapTag; trap <= api.TrapAlign; trap++ {
			if met[[2]int{w.op, int(trap)}] == 0 && (w.size > 1 || trap != api.TrapAlign) {
				t.Errorf("%s had not the trap %d", isa.Name(w.op), trap)
			}
		}
	}
}

// known tells the valid capabilities of a frame.
func known(f api.Frame) (l []api.Cap) {
	for _, c := range append(f.Regs[:], f.Pc) {
		if c.Valid {
			l = append(l, c)
		}
	}
	return l
}

// stored tells the valid capabilities of an arena.
func stored(a *arena.Arena) (l []api.Cap) {
	for page := range a.Size() / api.Page {
		for _, at := range a.Tagged(page) {
			c, _ := a.LoadCap(at)
			l = append(l, c)
		}
	}
	return l
}

// comes tells whether c may come of what there was: it was there, or lies within one that is not sealed, or was opened by an authority over its type.
func comes(c api.Cap, was []api.Cap) bool {
	for _, x := range was {
		opened := func(u api.Cap) bool {
			base, top := caps.Range(u)
			return u.Valid && u.Type == 0 && u.Perms&api.PermUnseal != 0 && u.Cursor == uint32(x.Type) && base <= u.Cursor && uint64(u.Cursor) < top
		}
		switch {
		case x == c, x.Type == 0 && caps.Within(c, x), x.Type != 0 && typed(x, 0) == c && slices.ContainsFunc(was, opened):
			return true
		}
	}
	return false
}

// P10.4 (W3, W4), P10.5 (W5): behind any instruction what is valid comes of what was; tags are set by sc of a valid capability alone, and there alone.
func TestNoMoreThanThereWas(t *testing.T) {
	m := maker{rand.New(rand.NewSource(11))}
	for range 150 {
		f, a := m.frame(), m.arena(t)
		for range 60 {
			i := m.instr()
			was, had := known(f), stored(a)
			_, before := content(a)
			g, trap := core.Do(f, i, a)
			_, behind := content(a)
			if trap == api.TrapNone {
				if i.Op == api.OpLc {
					was = append(was, had...)
				}
				for _, c := range known(g) {
					if !comes(c, was) {
						t.Fatalf("%v: %v comes of nothing", i, c)
					}
				}
			}
			for _, at := range behind {
				c, _ := a.LoadCap(at)
				fresh := !slices.Contains(before, at)
				if (fresh || !slices.Contains(had, c)) && (i.Op != api.OpSc || !f.Regs[i.A].Valid || c != f.Regs[i.A] || at != f.Regs[i.B].Cursor+uint32(i.Imm)) {
					t.Fatalf("%v: the tag at %d", i, at)
				}
			}
			if f = with(f, m.Intn(16), m.cap()); trap == api.TrapNone {
				f = g
			}
		}
	}
}

// P10.5 (W5): a capability's bytes, stored number by number beside its old ones, are not valid.
func TestBytesAreNoCapability(t *testing.T) {
	a, f := memory(t), start(t)
	s := caps.Bytes(f.Regs[1])
	does(t, f, api.Instr{Op: api.OpSc, A: 1, B: 1}, a)
	for n := range 16 {
		g := with(f, 2, caps.Number(uint32(s[n])))
		does(t, g, api.Instr{Op: api.OpSb, A: 2, B: 1, Imm: n}, a)
		if g = does(t, g, api.Instr{Op: api.OpLc, A: 3, B: 1}, a); g.Regs[3] != off(f.Regs[1]) {
			t.Errorf("%d bytes: %v", n+1, g.Regs[3])
		}
	}
}

// P10.6 (W2): there is a frame or a trap of any frame, instruction and arena, of none too, where nothing is loaded or stored.
func TestWhatever(t *testing.T) {
	m := maker{rand.New(rand.NewSource(12))}
	wild := []int{0, 1, 15, 16, -1, 255, 2047, -2048, 2048, 524287, 1 << 31, 1 << 32, math.MaxInt, math.MinInt}
	some := func() int { return wild[m.Intn(len(wild))] }
	for n := range 30000 {
		f, i := m.frame(), m.instr()
		switch n % 4 {
		case 0:
			i = api.Instr{Op: m.Intn(api.LastOp + 3), A: some(), B: some(), C: some(), Imm: some()}
		case 1:
			i.Imm = some()
		}
		for _, a := range []*arena.Arena{nil, {}} {
			g, trap := core.Do(f, i, a)
			w, expected := api.Frame{}, api.TrapBad
			if _, e := isa.Encode(i); e == api.OK {
				w, expected = want(f, i, a)
			}
			if g != w || trap != expected {
				t.Fatalf("%v without an arena: trap %d, want %d", i, trap, expected)
			}
			if page, is := core.Touch(f, i, a); page != 0 || is {
				t.Fatalf("Touch(%v) without an arena: %d, %v", i, page, is)
			}
			j, trap := core.Fetch(f, a)
			if trap == api.TrapNone || j != (api.Instr{}) {
				t.Fatalf("Fetch without an arena: %v, trap %d", j, trap)
			}
			if core.Next(f) != to(f, derive.Addr(f.Pc, f.Pc.Cursor+4)) {
				t.Fatal("Next")
			}
		}
	}
	for _, i := range []api.Instr{{Op: api.OpLb, B: 1}, {Op: api.OpLc, B: 1}, {Op: api.OpSw, B: 1}, {Op: api.OpSc, B: 1}} {
		if g, trap := core.Do(start(t), i, nil); g != (api.Frame{}) || trap != api.TrapBounds {
			t.Errorf("%v without an arena: trap %d", i, trap)
		}
	}
	if _, trap := core.Fetch(start(t), nil); trap != api.TrapBounds {
		t.Errorf("Fetch without an arena: trap %d", trap)
	}
}
