package isa_test

import (
	"math"
	"strings"
	"testing"

	"fallow/api"
	"fallow/isa"
)

// chapter is the chapter's table: each operation's name and form, by the operation's number.
var chapter = [256]struct{ name, form string }{
	api.OpLi: {"li", "ai"}, api.OpLui: {"lui", "aj"},
	api.OpAdd: {"add", "abc"}, api.OpSub: {"sub", "abc"}, api.OpMul: {"mul", "abc"}, api.OpDiv: {"div", "abc"}, api.OpRem: {"rem", "abc"},
	api.OpAnd: {"and", "abc"}, api.OpOr: {"or", "abc"}, api.OpXor: {"xor", "abc"}, api.OpShl: {"shl", "abc"}, api.OpShr: {"shr", "abc"},
	api.OpLt: {"lt", "abc"}, api.OpLtu: {"ltu", "abc"}, api.OpEq: {"eq", "abc"}, api.OpAddi: {"addi", "abi"},
	api.OpLb: {"lb", "abi"}, api.OpLh: {"lh", "abi"}, api.OpLw: {"lw", "abi"}, api.OpSb: {"sb", "abi"}, api.OpSh: {"sh", "abi"}, api.OpSw: {"sw", "abi"},
	api.OpLc: {"lc", "abi"}, api.OpSc: {"sc", "abi"},
	api.OpBeq: {"beq", "abi"}, api.OpBne: {"bne", "abi"}, api.OpBlt: {"blt", "abi"}, api.OpBge: {"bge", "abi"},
	api.OpJal: {"jal", "aj"}, api.OpJalr: {"jalr", "ab"}, api.OpMove: {"move", "ab"},
	api.OpInc: {"inc", "abc"}, api.OpInci: {"inci", "abi"}, api.OpAddr: {"addr", "abc"},
	api.OpSet: {"set", "abc"}, api.OpExact: {"exact", "abc"}, api.OpAnds: {"ands", "abc"},
	api.OpSeal: {"seal", "abc"}, api.OpOpen: {"open", "abc"}, api.OpBuild: {"build", "abc"}, api.OpClear: {"clear", "ab"},
	api.OpGaddr: {"gaddr", "ab"}, api.OpGbase: {"gbase", "ab"}, api.OpGlen: {"glen", "ab"}, api.OpGperm: {"gperm", "ab"},
	api.OpGtype: {"gtype", "ab"}, api.OpGtag: {"gtag", "ab"}, api.OpIsint: {"isint", "ab"},
	api.OpPc: {"pc", "aj"}, api.OpCall: {"call", "ab"}, api.OpRet: {"ret", ""}, api.OpEcall: {"ecall", "i"}, api.OpTrap: {"trap", ""},
}

// noOps are numbers of no operation; some of them would be one's, if they were reckoned modulo 2^8, 2^16 or 2^32.
var noOps = []int{
	0, -1, -2, -53, -255, 54, 55, 100, 127, 128, 255, 256, 257, 256 + 53, 512, 1<<16 + 1, 1 << 24, 1 << 31, 1<<31 + 1, 1 << 32, 1<<32 + 1, 1<<32 + 53,
	1 - 256, 1 - 1<<32, math.MaxInt, math.MinInt, math.MinInt + 1,
}

// imms are numbers about the ends of the fields of 12 and of 20 bits.
var imms = []int{
	-524288, -524287, -4096, -2049, -2048, -2047, -1024, -256, -2, -1, 0, 1, 2, 85, 255, 256, 1023, 2046, 2047, 2048, 4095, 4096, 65536, 524286, 524287,
}

// span is the numbers that a field may have.
type span struct{ least, most int }

// spansOf tells the numbers that A, B, C and Imm of an instruction of that form may be: 0 alone, if it has no such field.
func spansOf(form string) (out [4]span) {
	for i, letter := range "abc" {
		if strings.ContainsRune(form, letter) {
			out[i] = span{0, 15}
		}
	}
	if strings.Contains(form, "i") {
		out[3] = span{-2048, 2047}
	}
	if strings.Contains(form, "j") {
		out[3] = span{-524288, 524287}
	}
	return out
}

// within tells those of l that are in the span.
func (s span) within(l ...int) (out []int) {
	for _, v := range l {
		if v >= s.least && v <= s.most {
			out = append(out, v)
		}
	}
	return out
}

// someOf tells instructions of that operation that may be: each field that it has at its ends, and between them.
func someOf(op int) (out []api.Instr) {
	s := spansOf(chapter[op].form)
	for _, a := range s[0].within(0, 1, 3, 7, 8, 14, 15) {
		for _, b := range s[1].within(0, 1, 2, 4, 8, 9, 15) {
			for _, c := range s[2].within(0, 1, 2, 6, 8, 15) {
				for _, imm := range s[3].within(imms...) {
					out = append(out, api.Instr{Op: op, A: a, B: b, C: c, Imm: imm})
				}
			}
		}
	}
	return out
}

// wordOf reckons the word of an instruction that may be by sums: what is below 0 is told by 2^12, or 2^20, more.
func wordOf(i api.Instr) uint32 {
	imm := i.Imm
	if imm < 0 {
		imm += 2 * (spansOf(chapter[i.Op].form)[3].most + 1)
	}
	return uint32(i.Op*16777216 + i.A*1048576 + i.B*65536 + i.C*4096 + imm)
}

// read reckons by quotients what a word is; it is of none, if a field that the form has not is not 0.
func read(w uint32) api.Instr {
	n := int(w)
	i := api.Instr{Op: n / 16777216, A: n / 1048576 % 16, B: n / 65536 % 16, C: n / 4096 % 16, Imm: n % 4096}
	form := chapter[i.Op].form
	if form == "aj" {
		i.B, i.C, i.Imm = 0, 0, n%1048576
	}
	s := spansOf(form)
	if s[3].most > 0 && i.Imm > s[3].most {
		i.Imm -= 2 * (s[3].most + 1)
	}
	for at, v := range [4]int{i.A, i.B, i.C, i.Imm} {
		if v < s[at].least || v > s[at].most {
			return api.Instr{}
		}
	}
	if chapter[i.Op].name == "" {
		return api.Instr{}
	}
	return i
}

// refuses holds that Encode refuses the instruction.
func refuses(t *testing.T, i api.Instr) {
	t.Helper()
	if w, e := isa.Encode(i); w != 0 || e != api.ErrArg {
		t.Errorf("Encode(%v): %08x, %v", i, w, e)
	}
}

// P7.1: the chapter's examples.
func TestExamples(t *testing.T) {
	for _, x := range []struct {
		i api.Instr
		w uint32
	}{
		{api.Instr{Op: api.OpLi, A: 3, Imm: -1}, 0x01300fff},
		{api.Instr{Op: api.OpLi, A: 3, Imm: -7}, 0x01300ff9},
		{api.Instr{Op: api.OpAdd, A: 1, B: 2, C: 3}, 0x03123000},
		{api.Instr{Op: api.OpJal, A: 1, Imm: -2}, 0x1d1ffffe},
		{api.Instr{Op: api.OpEcall, Imm: 4}, 0x34000004},
		{api.Instr{Op: api.OpTrap}, 0x35000000},
	} {
		if w, e := isa.Encode(x.i); w != x.w || e != api.OK {
			t.Errorf("Encode(%v): %08x, %v, want %08x", x.i, w, e, x.w)
		}
		if i := isa.Decode(x.w); i != x.i {
			t.Errorf("Decode(%08x): %v, want %v", x.w, i, x.i)
		}
	}
	refuses(t, api.Instr{Op: api.OpLi, A: 16})
	refuses(t, api.Instr{Op: api.OpLi, A: 1, Imm: 2048})
	refuses(t, api.Instr{Op: api.OpAdd, A: 1, B: 2, C: 3, Imm: 1})
	refuses(t, api.Instr{Op: api.OpBad})
	for _, w := range []uint32{0, 0x01310000, 0xffffffff} {
		if i := isa.Decode(w); i != (api.Instr{}) {
			t.Errorf("Decode(%08x): %v", w, i)
		}
	}
}

// P7.1: each field that a form has stands in its place, at its ends and between them; all other bits are 0.
func TestEncode(t *testing.T) {
	for op := 1; op <= api.LastOp; op++ {
		for _, i := range someOf(op) {
			if w, e := isa.Encode(i); w != wordOf(i) || e != api.OK {
				t.Errorf("Encode(%v): %08x, %v, want %08x", i, w, e, wordOf(i))
			}
		}
	}
}

// P7.1: a field outside its range is refused, and one that the form has not, but for 0; also what a field would cut to a number that may be.
func TestEncodeRefusesFields(t *testing.T) {
	far := []int{
		-1, -2, -16, 1, 2, 15, 16, 17, 255, 256, -2049, -2048, 2047, 2048, 4095, 4096, 4097, 65536, -524289, -524288, 524287, 524288, 1048575, 1048576,
		1 << 24, 1 << 31, 1<<31 - 1, -1 << 31, 1 << 32, 1<<32 + 1, -1 << 32, 1<<32 - 1, 1 << 60, math.MaxInt, math.MinInt, math.MaxInt - 15, math.MinInt + 15,
	}
	for op := 1; op <= api.LastOp; op++ {
		some := someOf(op)
		for at, s := range spansOf(chapter[op].form) {
			for _, v := range far {
				if v >= s.least && v <= s.most {
					continue
				}
				for _, i := range []api.Instr{{Op: op}, some[len(some)-1]} {
					*[]*int{&i.A, &i.B, &i.C, &i.Imm}[at] = v
					refuses(t, i)
				}
			}
		}
	}
}

// P7.1: what is no operation is refused, whatever its fields are.
func TestEncodeRefusesOperations(t *testing.T) {
	for _, op := range noOps {
		for _, i := range []api.Instr{
			{}, {A: 1}, {B: 2}, {C: 3}, {Imm: 4}, {Imm: -1}, {A: 1, B: 2, C: 3}, {A: 15, B: 15, C: 15, Imm: 2047},
			{A: math.MinInt, B: math.MaxInt, C: 1 << 32, Imm: 1 << 31},
		} {
			i.Op = op
			refuses(t, i)
		}
	}
}

// P7.1: of each operation, and of each number that is none, the words whose lower bits are few, or many, or go by a stride.
func TestDecode(t *testing.T) {
	const stride = 4093
	holds := func(w uint32) {
		if got, want := isa.Decode(w), read(w); got != want {
			t.Errorf("Decode(%08x): %v, want %v", w, got, want)
		}
	}
	for op := range uint32(256) {
		w := op << 24
		holds(w)
		holds(w | 1<<24 - 1)
		for one := range 24 {
			for two := range 24 {
				holds(w | 1<<one | 1<<two)
				holds(w | (1<<24-1)&^(1<<one|1<<two))
			}
		}
		for low := op; low < 1<<24; low += stride {
			holds(w | low)
		}
	}
}

// P7.1: a bit that the form leaves free makes a word no instruction's.
func TestDecodeFreeBits(t *testing.T) {
	for form, free := range map[string]uint32{
		"ai": 0x000ff000, "aj": 0, "abc": 0x00000fff, "abi": 0x0000f000, "ab": 0x0000ffff, "": 0x00ffffff, "i": 0x00fff000,
	} {
		for op := 1; op <= api.LastOp; op++ {
			if chapter[op].form != form {
				continue
			}
			for bit := range 24 {
				w := uint32(op)<<24 | 1<<bit
				got := isa.Decode(w)
				if is := got != (api.Instr{}); is == (free>>bit&1 == 1) {
					t.Errorf("Decode(%08x), of the form %q: %v", w, form, got)
				}
			}
		}
	}
}

// P7.2: each operation has its name and its form, and is found by its name.
func TestNames(t *testing.T) {
	for op := 1; op <= api.LastOp; op++ {
		x := chapter[op]
		if name := isa.Name(op); name != x.name || name == "" {
			t.Errorf("Name(%d): %q, want %q", op, name, x.name)
		}
		if got := isa.Op(x.name); got != op {
			t.Errorf("Op(%q): %d, want %d", x.name, got, op)
		}
		if form := isa.Form(op); form != x.form {
			t.Errorf("Form(%d): %q, want %q", op, form, x.form)
		}
	}
	if isa.Name(1) != "li" || isa.Op("trap") != 53 || isa.Form(3) != "abc" {
		t.Error("the chapter's examples")
	}
}

// P7.2: what is no operation has no name and no form.
func TestNoOperation(t *testing.T) {
	for _, op := range noOps {
		if name, form := isa.Name(op), isa.Form(op); name != "" || form != "" {
			t.Errorf("%d: Name %q, Form %q", op, name, form)
		}
	}
}

// P7.2: what is just like a name, but is none, is no operation's.
func TestNoName(t *testing.T) {
	wrong := []string{"", " ", "\x00", "bad", "opbad", "OpLi", "opli", "Trap", "word", "c0", "1", "53", "c", "nop", "lii", "ad", "a", "\xff", "лi", strings.Repeat("add", 1<<20)}
	for op := 1; op <= api.LastOp; op++ {
		name := chapter[op].name
		wrong = append(wrong, strings.ToUpper(name), strings.ToUpper(name[:1])+name[1:], " "+name, name+" ", name+"\x00", name+"\n", "Op"+name, name+name, name+"x")
	}
	for _, name := range wrong {
		if op := isa.Op(name); op != api.OpBad {
			t.Errorf("Op(%.20q): %d", name, op)
		}
	}
}

// P7.3: each instruction that may be is read back from its word, and no two have the same one.
func TestOneWord(t *testing.T) {
	seen := map[uint32]api.Instr{}
	for op := 1; op <= api.LastOp; op++ {
		for _, i := range someOf(op) {
			w, e := isa.Encode(i)
			if e != api.OK {
				t.Fatalf("Encode(%v): %v", i, e)
			}
			if other, is := seen[w]; is {
				t.Errorf("%v and %v have the word %08x", i, other, w)
			}
			seen[w] = i
			if got := isa.Decode(w); got != i {
				t.Errorf("Decode(%08x): %v, want %v", w, got, i)
			}
		}
	}
}

// P7.3 (W2): of all the words of an operation of each form just so many are instructions as the form's fields have numbers, and each of these is laid as the same word again.
func TestEachWord(t *testing.T) {
	for op, want := range map[uint32]int{
		api.OpLi: 1 << 16, api.OpPc: 1 << 24, api.OpBuild: 1 << 12, api.OpInci: 1 << 20, api.OpCall: 1 << 8, api.OpRet: 1, api.OpEcall: 1 << 12, api.OpBad: 0, api.LastOp + 1: 0,
	} {
		n := 0
		for low := range uint32(1 << 24) {
			i := isa.Decode(op<<24 | low)
			if i.Op == api.OpBad {
				if i != (api.Instr{}) {
					t.Fatalf("Decode(%08x): %v", op<<24|low, i)
				}
				continue
			}
			n++
			if w, e := isa.Encode(i); w != op<<24|low || e != api.OK {
				t.Fatalf("Encode(Decode(%08x)): %08x, %v", op<<24|low, w, e)
			}
		}
		if n != want {
			t.Errorf("%s: %d of its words are instructions, want %d", isa.Name(int(op)), n, want)
		}
	}
}

// P7.3: no two operations have the same name.
func TestOneName(t *testing.T) {
	seen := map[string]int{}
	for op := 1; op <= api.LastOp; op++ {
		if other, is := seen[isa.Name(op)]; is {
			t.Errorf("%d and %d are named %q", op, other, isa.Name(op))
		}
		seen[isa.Name(op)] = op
		if got := isa.Op(isa.Name(op)); got != op {
			t.Errorf("Op(Name(%d)): %d", op, got)
		}
	}
}
