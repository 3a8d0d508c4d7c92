package asm_test

import (
	"errors"
	"fmt"
	"math/rand"
	"regexp"
	"slices"
	"strconv"
	"strings"
	"testing"

	"fallow/api"
	"fallow/asm"
	"fallow/isa"
)

// forms are the forms of chapter 7, and the names of the operations that have them.
var forms = map[string]string{
	"ai":  "li",
	"aj":  "lui jal pc",
	"abc": "add sub mul div rem and or xor shl shr lt ltu eq inc addr set exact ands seal open build",
	"abi": "addi lb lh lw sb sh sw lc sc beq bne blt bge inci",
	"ab":  "jalr move clear gaddr gbase glen gperm gtype gtag isint call",
	"":    "ret trap",
	"i":   "ecall",
}

// jumps are the operations in which a label's name may stand, each with what stands ahead of it.
var jumps = map[string]string{"beq": "beq c1 c15 ", "bne": "bne c0 c0 ", "blt": "blt c14 c2 ", "bge": "bge c9 c10 ", "jal": "jal c1 "}

// text is an instruction, and its text.
type text struct {
	i api.Instr
	s string
}

// texts tells instructions of all operations, with their fields at their ends, and between them.
func texts() (out []text) {
	for form, names := range forms {
		imms := []int{0, 1, -1, 9, 10, -10, 100, 2047, -2048}
		if form == "aj" {
			imms = append(imms, 2048, -2049, 99999, 524287, -524288)
		}
		for _, name := range strings.Fields(names) {
			for at, imm := range imms {
				out = append(out, textOf(name, form, 15-at, at*2%16, at+7, imm))
			}
		}
	}
	slices.SortFunc(out, func(a, b text) int { return strings.Compare(a.s, b.s) })
	return slices.Compact(out)
}

// textOf writes the instruction with those of the fields that the form has.
func textOf(name, form string, a, b, c, imm int) text {
	x := text{api.Instr{Op: isa.Op(name)}, name}
	for _, letter := range form {
		switch letter {
		case 'a':
			x.i.A, x.s = a, x.s+fmt.Sprintf(" c%d", a)
		case 'b':
			x.i.B, x.s = b, x.s+fmt.Sprintf(" c%d", b)
		case 'c':
			x.i.C, x.s = c, x.s+fmt.Sprintf(" c%d", c)
		default:
			x.i.Imm, x.s = imm, x.s+fmt.Sprintf(" %d", imm)
		}
	}
	return x
}

// word tells the word of an instruction that may be.
func word(t *testing.T, i api.Instr) uint32 {
	t.Helper()
	w, e := isa.Encode(i)
	if e != api.OK {
		t.Fatalf("Encode(%v): %v", i, e)
	}
	return w
}

// noInstructions are words of no instruction.
var noInstructions = []uint32{
	0, 1, 9, 10, 255, 4096, 0x00ffffff, 0x01310000, 0x01301000, 0x03123001, 0x33000001, 0x34100000, 0x35000001, 0x36000000,
	0x36ffffff, 0x7fffffff, 0x80000000, 0xfffffffe, 0xffffffff,
}

// isText tells by the words of the chapter whether s is a word's text.
func isText(s string) bool {
	const number = `(0|-?[1-9][0-9]*)`
	if m := regexp.MustCompile(`^word ` + number + `$`).FindStringSubmatch(s); m != nil {
		v, err := strconv.ParseUint(m[1], 10, 32)
		return err == nil && isa.Decode(uint32(v)).Op == api.OpBad
	}
	name, rest, _ := strings.Cut(s, " ")
	for form, names := range forms {
		if !slices.Contains(strings.Fields(names), name) {
			continue
		}
		want, least, most := "^"+name, 0, 0
		for _, letter := range form {
			switch letter {
			case 'i':
				want, least, most = want+" "+number, -2048, 2047
			case 'j':
				want, least, most = want+" "+number, -524288, 524287
			default:
				want += " c([0-9]|1[0-5])"
			}
		}
		last, _ := strconv.Atoi(rest[strings.LastIndex(rest, " ")+1:])
		return regexp.MustCompile(want+"$").MatchString(s) && last >= least && last <= most
	}
	return false
}

// refusesLine holds that s is no word's text.
func refusesLine(t *testing.T, s string) {
	t.Helper()
	if w, e := asm.Line(s); w != 0 || e != api.ErrForm {
		t.Errorf("Line(%.60q): %08x, %v", s, w, e)
	}
}

// gives holds that the source is assembled to the words of these texts.
func gives(t *testing.T, source string, want ...string) {
	t.Helper()
	l, err := asm.Assemble(source)
	if err != nil {
		t.Errorf("Assemble(%.100q): %v", source, err)
		return
	}
	var got []string
	for _, w := range l {
		got = append(got, asm.Print(w))
	}
	if !slices.Equal(got, want) {
		t.Errorf("Assemble(%.100q): %.200q, want %.200q", source, got, want)
	}
}

// faults holds that the source is refused with that code alone, at that line.
func faults(t *testing.T, source string, code api.Errno, at int) {
	t.Helper()
	l, err := asm.Assemble(source)
	var f *api.Fault
	if len(l) != 0 || !errors.As(err, &f) || f.Code != code || f.At != at {
		t.Errorf("Assemble(%.100q): %d words, %v, want %v at %d", source, len(l), err, code, at)
		return
	}
	for e := api.OK; e <= api.ErrDone+1; e++ {
		if errors.Is(err, e) != (e == code) {
			t.Errorf("Assemble(%.100q): of %v errors.Is tells %v", source, err, e)
		}
	}
}

// P8.1, P8.2: the chapter's examples.
func TestExamples(t *testing.T) {
	for w, want := range map[uint32]string{
		0x01300ff9: "li c3 -7", 0x03123000: "add c1 c2 c3", 1<<32 - 1: "word 4294967295",
	} {
		if got := asm.Print(w); got != want {
			t.Errorf("Print(%08x): %q, want %q", w, got, want)
		}
	}
	if w, e := asm.Line("li c3 -7"); w != 0x01300ff9 || e != api.OK {
		t.Errorf("Line: %08x, %v", w, e)
	}
	for _, s := range []string{"li  c3 -7", "li c16 0", "li c3 -07", "word 01"} {
		refusesLine(t, s)
	}
	gives(t, "loop: \n addi c1 c1 -1 ; less \n bne c1 c0 loop\ntrap", "addi c1 c1 -1", "bne c1 c0 -1", "trap")
	faults(t, "beq c0 c0 on", api.ErrWord, 0)
	faults(t, "a:\na:", api.ErrTwice, 1)
	faults(t, "b", api.ErrForm, 0)
	gives(t, "")
}

// P8.1: the text of each operation's words, and of words of none.
func TestPrint(t *testing.T) {
	ops := map[int]bool{}
	for _, x := range texts() {
		ops[x.i.Op] = true
		if got := asm.Print(word(t, x.i)); got != x.s {
			t.Errorf("Print of %v: %q, want %q", x.i, got, x.s)
		}
	}
	if len(ops) != api.LastOp {
		t.Errorf("%d operations, want %d", len(ops), api.LastOp)
	}
	for _, w := range noInstructions {
		if got, want := asm.Print(w), fmt.Sprintf("word %d", w); got != want {
			t.Errorf("Print(%08x): %q, want %q", w, got, want)
		}
	}
}

// P8.1, P8.3: what is printed is read as the word.
func TestLine(t *testing.T) {
	for _, x := range texts() {
		if w, e := asm.Line(x.s); w != word(t, x.i) || e != api.OK {
			t.Errorf("Line(%q): %08x, %v, want %08x", x.s, w, e, word(t, x.i))
		}
	}
	for _, want := range noInstructions {
		if w, e := asm.Line(fmt.Sprintf("word %d", want)); w != want || e != api.OK {
			t.Errorf("Line of %08x: %08x, %v", want, w, e)
		}
	}
}

// P8.1: what is written otherwise than it is printed is no word's text.
func TestLineRefuses(t *testing.T) {
	for _, s := range []string{
		"", " ", "  ", "\n", ";", "; remark", "a:", "a", "li", "li ", "li c3", "li c3 ", "li -7", "li -7 c3", "li c3 -7 0", "li c3 c7", "li c3 x",
		"li c3 -", "li c3 --7", "li c3 -0", "li c3 +7", "li c3 00", "li c3 07", "li c3 0x7", "li c3 7_0", "li c3 7.0", "li c3 1e1", "li c3 ٣",
		"li c3 2048", "li c3 -2049", "lui c3 524288", "lui c3 -524289", "ecall 2048", "ecall c1", "li c3 9223372036854775808", "li c3 4294967296", "li c3 18446744073709551616",
		"li C3 7", "li 3 7", "li c 7", "li c03 7", "li c00 7", "li c-0 7", "li c-1 7", "li c+3 7", "li c16 7", "li c99999999999999999999 7", "li r3 7", "li cc3 7", "li c3c 7", "li c3\x00 7",
		"Li c3 7", "LI c3 7", "lic3 7", "l c3 7", "li, c3, 7", "li c3,7", "li\tc3 7", "li c3\t7", "li c3 7\n", "li c3 7\r", "\nli c3 7", "li c3 7;", "li c3 7 ; seven",
		"add c1 c2", "add c1 c2 c3 c4", "add c1 c2 3", "add c1 c2 c16", "move c1", "move c1 c2 0", "ret 0", "trap c0", "ret trap", "jal c1 loop", "beq c0 c0 a", "call c1 c2 c3",
		"word", "word ", "word -1", "word -0", "word 00", "word +1", "word 4294967296", "word 18446744073709551616", "word x", "word c1", "word 1 2", "word  1", "Word 1", "words 1",
		"word 19927033", "word 889192448", "bad", "bad 0", "0", "19927033",
		strings.Repeat("9", 1<<20), strings.Repeat(" ", 1<<20), "li" + strings.Repeat(" ", 1<<20) + "c3 7", strings.Repeat("li ", 1<<20), "word " + strings.Repeat("1", 1<<20), "li c" + strings.Repeat("1", 1<<20) + " 7",
	} {
		refusesLine(t, s)
	}
	for _, x := range texts() {
		for _, s := range []string{
			" " + x.s, x.s + " ", x.s + "\n", x.s + ";", x.s + " 0", x.s + " c0", x.s + " a", x.s + "x", strings.ToUpper(x.s), x.s + " " + x.s,
			fmt.Sprintf("word %d", word(t, x.i)),
		} {
			refusesLine(t, s)
		}
		if strings.Contains(x.s, " ") {
			refusesLine(t, strings.Replace(x.s, " ", "  ", 1))
			refusesLine(t, strings.Replace(x.s, " ", "\t", 1))
			refusesLine(t, x.s[:strings.LastIndex(x.s, " ")])
		}
	}
}

// P8.1, P8.3: of texts that are changed in one byte just those are taken that the chapter takes, and they are printed again.
func TestLineEdits(t *testing.T) {
	holds := func(s string) {
		w, e := asm.Line(s)
		if is := isText(s); is != (e == api.OK) || !is && (w != 0 || e != api.ErrForm) {
			t.Fatalf("Line(%q): %08x, %v", s, w, e)
		}
		if e == api.OK && asm.Print(w) != s {
			t.Fatalf("Line(%q): %08x, that is %q", s, w, asm.Print(w))
		}
	}
	const signs = " 019cbil-;:\n\x00\xff"
	for _, s := range []string{"li c3 -7", "lui c15 524287", "add c1 c10 c15", "lw c0 c9 -2048", "jalr c5 c11", "beq c1 c2 0", "jal c1 -1", "ret", "ecall 6", "word 0", "word 4294967295", "word 19927033"} {
		holds(s)
		for at := range len(s) {
			holds(s[:at] + s[at+1:])
			for _, sign := range []byte(signs) {
				holds(s[:at] + string([]byte{sign}) + s[at:])
				holds(s[:at] + string([]byte{sign}) + s[at+1:])
			}
		}
	}
}

// P8.1: each word's text, and a line feed behind each.
func TestDisassemble(t *testing.T) {
	if s := asm.Disassemble(nil) + asm.Disassemble([]uint32{}); s != "" {
		t.Errorf("of no words: %q", s)
	}
	l := []uint32{0x01300ff9, 0, 0x35000000, 0x03123000, 0xffffffff}
	const want = "li c3 -7\nword 0\ntrap\nadd c1 c2 c3\nword 4294967295\n"
	if s := asm.Disassemble(l); s != want {
		t.Errorf("%q, want %q", s, want)
	}
	if s := asm.Disassemble(l[:1]); s != "li c3 -7\n" || !slices.Equal(l, []uint32{0x01300ff9, 0, 0x35000000, 0x03123000, 0xffffffff}) {
		t.Errorf("%q, and the words are %x", s, l)
	}
	many := make([]uint32, 3*api.MaxWords)
	if s := asm.Disassemble(many); s != strings.Repeat("word 0\n", len(many)) {
		t.Errorf("of more words than an image may have: %d bytes", len(s))
	}
}

// P8.2: lines in all the forms that a source may have them in.
func TestAssembleLines(t *testing.T) {
	for _, x := range texts() {
		gives(t, x.s, x.s)
		gives(t, "  "+strings.ReplaceAll(x.s, " ", "   ")+"  ;"+x.s, x.s)
		gives(t, fmt.Sprintf("word %d", word(t, x.i)), x.s)
	}
	for source, want := range map[string]string{
		"\n":     "",
		"\n\n\n": "",
		"   \n ": "",
		";":      "",
		"  ; a : remark ; of any \x00\xff\r\tbytes": "",
		";;;\n;":                    "",
		"a:":                        "",
		"  a:  ; here":              "",
		"a:;here":                   "",
		"a:;b:":                     "",
		"ret":                       "ret",
		"ret\n":                     "ret",
		"\nret":                     "ret",
		"ret;":                      "ret",
		"ret;trap":                  "ret",
		"ret\ntrap":                 "ret/trap",
		"ret\n\n;x\na:\n\ntrap\n\n": "ret/trap",
		"li c3 -7;7":                "li c3 -7",
		"word 4294967295":           "word 4294967295",
		"  word   0  ; none":        "word 0",
		"word 19927033":             "li c3 -7",
	} {
		var l []string
		if want != "" {
			l = strings.Split(want, "/")
		}
		gives(t, source, l...)
	}
}

// P8.2: what is no line.
func TestAssembleForm(t *testing.T) {
	for _, s := range []string{
		"li", "li c3", "li c3 7 8", "li c3 07", "li c3 -0", "li c3 +7", "li c3 2048", "li c3 -2049", "li c16 0", "li c03 0", "li 3 0", "li C3 0", "add c1 c2 3", "ecall c1", "li,c3,7", "li\tc3 7", "li c3 7\t", "\tli c3 7", "li c3 7\r", "ret\r", "\r", "\t", "\x00", "\xff", "\u00a0",
		"Li c3 7", "nop", "bad", "bad 0", "word", "word -1", "word 01", "word 4294967296", "word a", "word 1 2", "19927033", "ret ret", "ret 0", "trap: trap", "# x", "// x", "c1",
		":", " : ", "a :", "a: ret", "a:b:", "a::", ":a", "A:", "aB:", "a-b:", "a.b:", "a b:", "1:", "1a:", "9_:", "ä:", "a\x00:", "a\t:", "-a:", "a", "a;:", "a ; :", strings.Repeat("a", 33) + ":",
		"beq c0 c0", "beq c0 c0 A", "beq c0 c0 a b", "beq c0 c0 a:", "beq c0 c0 1a", "beq c0 c0 -a", "beq c0 c0 a-b", "beq c0 c0 ä", "beq a c0 0", "beq c0 a 0", "beq c16 c0 a", "beq c0 c16 a", "beq a", "beq c0 a", "beq c0 c0 2048", "beq c0 c0 -2049",
		"jal", "jal a", "jal c1", "jal c1 a b", "jal a c1", "jal c16 a", "jal c1 524288", "jal c1 -524289", "jal c1 " + strings.Repeat("a", 33),
		"li c1 a", "lui c1 a", "pc c1 a", "addi c1 c2 a", "lw c1 c2 a", "inci c1 c2 a", "jalr c1 a", "ecall a", "add c1 c2 a", "ret a", "call c1 a",
	} {
		faults(t, s, api.ErrForm, 0)
		faults(t, "a:\nret\n\n"+s+"\nret\na:\nbeq c0 c0 none\nno line", api.ErrForm, 3)
	}
}

// P8.2: what labels may be named, also as other things are.
func TestAssembleNames(t *testing.T) {
	for _, name := range []string{
		"a", "z", "_", "__", "_1", "a1", "z9_", "c0", "c1", "c16", "li", "beq", "jal", "ret", "word", "bad", "x0123456789", "abcdefghijklmnopqrstuvwxyz_", strings.Repeat("a", 31), strings.Repeat("z", 32), "_" + strings.Repeat("9", 31),
	} {
		for _, ahead := range jumps {
			gives(t, ahead+name+"\nret\n"+name+":\ntrap", ahead+"2", "ret", "trap")
			gives(t, "ret\n"+name+":\n\nret;\n "+strings.ReplaceAll(ahead, " ", "   ")+name+" ;", "ret", "ret", ahead+"-1")
			faults(t, "ret\n"+ahead+name+"\nother:", api.ErrWord, 1)
		}
	}
}

// P8.2: a label says the word that comes next, whether it stands behind, or ahead, or is that of the jump itself; a number is a number.
func TestAssembleLabels(t *testing.T) {
	for _, ahead := range jumps {
		gives(t, "a:\n"+ahead+"a", ahead+"0")
		gives(t, ahead+"a\na:", ahead+"1")
		gives(t, "a:\n\n;x\nb:\nret\nc:\n"+ahead+"a\n"+ahead+"b\n"+ahead+"c\n"+ahead+"d\nd:\ne:", "ret", ahead+"-1", ahead+"-2", ahead+"-2", ahead+"1")
		gives(t, "word 7\na:\n"+ahead+"-1\n"+ahead+"a", "word 7", ahead+"-1", ahead+"-1")
		gives(t, ahead+"2047\n"+ahead+"-2048\na:", ahead+"2047", ahead+"-2048")
	}
	gives(t, "jal c0 524287\njal c0 -524288", "jal c0 524287", "jal c0 -524288")
}

// P8.2: at the first line that may not be.
func TestAssembleTwice(t *testing.T) {
	faults(t, "a:\na:", api.ErrTwice, 1)
	faults(t, "a:\nb:\nret\n\n  a:  ; again\nno line", api.ErrTwice, 4)
	faults(t, "a:\nb:\nb:\na:", api.ErrTwice, 2)
	faults(t, "a:\nno line\na:", api.ErrForm, 1)
	faults(t, "beq c0 c0 none\na:\na:", api.ErrTwice, 2)
	gives(t, "a:\nb:\naa:\na_:\n_a:\na1:")
}

// P8.2: labels are looked for when all lines may be, at the first line of which one is missing, or too far.
func TestAssembleWord(t *testing.T) {
	faults(t, "ret\n\nbeq c0 c0 a\njal c0 b", api.ErrWord, 2)
	faults(t, "a:\nbeq c0 c0 a\njal c0 b", api.ErrWord, 2)
	faults(t, "aa:\na1:\n;a:\nbge c0 c0 a", api.ErrWord, 3)
	faults(t, "jal c0 a\nno line", api.ErrForm, 1)
	faults(t, "jal c0 a\nb:\nb:", api.ErrTwice, 2)
	faults(t, "jal c0 a\n"+strings.Repeat("ret\n", api.MaxWords), api.ErrLong, api.MaxWords)
	far := strings.Repeat("ret\n", 2048)
	faults(t, "beq c0 c0 a\nbeq c0 c0 none\n"+far+"a:", api.ErrLong, 0)
	faults(t, "beq c0 c0 none\nbeq c0 c0 a\n"+far+"a:", api.ErrWord, 0)
	faults(t, "a:\n"+far+"ret\nbeq c0 c0 a\nbeq c0 c0 none", api.ErrLong, 2050)
}

// P8.2: how far a label may be from a branch, and from a jump.
func TestAssembleFar(t *testing.T) {
	for name, ahead := range jumps {
		for _, n := range []int{0, 1, 2046, 2047, 2048, 2049, api.MaxWords - 1} {
			rets := strings.Repeat("ret\n", n)
			for source, x := range map[string]struct{ place, line, way int }{
				ahead + "a\n" + rets + "a:\n": {0, 0, n + 1},
				"a:\n" + rets + ahead + "a\n": {n, n + 1, -n},
			} {
				if name != "jal" && (x.way < -2048 || x.way > 2047) {
					faults(t, source, api.ErrLong, x.line)
					continue
				}
				want := slices.Repeat([]string{"ret"}, n+1)
				want[x.place] = ahead + strconv.Itoa(x.way)
				gives(t, source, want...)
			}
		}
	}
}

// P8.2: a text has so many bytes at the most; of a longer one nothing else counts.
func TestAssembleMaxText(t *testing.T) {
	for _, piece := range []string{" ", "\n", ";", "; x"} {
		s := strings.Repeat(piece, api.MaxText/len(piece)+1)
		gives(t, s[:api.MaxText-1])
		gives(t, s[:api.MaxText])
		gives(t, "ret"+s[:api.MaxText-3], "ret")
		faults(t, "ret"+s[:api.MaxText-2], api.ErrLong, 0)
	}
	faults(t, strings.Repeat("x", api.MaxText), api.ErrForm, 0)
	faults(t, strings.Repeat("x", api.MaxText+1), api.ErrLong, 0)
	faults(t, strings.Repeat("\n", api.MaxText)+"x", api.ErrLong, 0)
	faults(t, strings.Repeat("\n", api.MaxText-1)+"x", api.ErrForm, api.MaxText-1)
	faults(t, strings.Repeat("ret\n", 1<<20), api.ErrLong, 0)
}

// P8.2: there are so many words at the most; lines without words may come behind.
func TestAssembleMaxWords(t *testing.T) {
	full := strings.Repeat("ret\n", api.MaxWords)
	want := slices.Repeat([]string{"ret"}, api.MaxWords)
	gives(t, full, want...)
	gives(t, full+"\n;x\na:\n \nb:", want...)
	faults(t, full+"ret", api.ErrLong, api.MaxWords)
	faults(t, full+"\n;x\na:\nword 1\nno line", api.ErrLong, api.MaxWords+3)
	faults(t, full+"no line\nret", api.ErrForm, api.MaxWords)
	faults(t, full+"a:\na:\nret", api.ErrTwice, api.MaxWords+1)
	faults(t, full+"beq c0 c0 none", api.ErrLong, api.MaxWords)
	faults(t, "\n"+full+"ret\nret", api.ErrLong, api.MaxWords+1)
	gives(t, strings.Repeat("ret\n", api.MaxWords-1)+"jal c0 a\na:", append(want[1:], "jal c0 1")...)
}

// P8.3: the texts of all kinds of words are assembled to the words again, and each text is read as its word.
func TestRoundTrip(t *testing.T) {
	var all []uint32
	for _, x := range texts() {
		all = append(all, word(t, x.i))
	}
	all = append(all, noInstructions...)
	chance := rand.New(rand.NewSource(8))
	for range 50000 {
		w := chance.Uint32()
		if chance.Intn(2) == 0 {
			w = w%(api.LastOp+2)<<24 | chance.Uint32()>>8&chance.Uint32()
		}
		all = append(all, w)
	}
	for _, w := range all {
		if got, e := asm.Line(asm.Print(w)); got != w || e != api.OK {
			t.Errorf("Line(%q): %08x, %v, want %08x", asm.Print(w), got, e, w)
		}
	}
	for l := range slices.Chunk(all, 1000) {
		if got, err := asm.Assemble(asm.Disassemble(l)); err != nil || !slices.Equal(got, l) {
			t.Errorf("Assemble of Disassemble: %v, %d words, want %d", err, len(got), len(l))
		}
	}
	most := slices.Repeat([]uint32{0x35000000}, api.MaxWords)
	if got, err := asm.Assemble(asm.Disassemble(most)); err != nil || !slices.Equal(got, most) {
		t.Errorf("of as many words as may be: %v, %d words", err, len(got))
	}
}

// P8.4: remarks, labels that nobody names, empty lines and blanks change no word, wherever they stand.
func TestNothingChanges(t *testing.T) {
	lines := []string{"start:", "li c3 -7", "loop:", "addi c3 c3 1", "beq c3 c0 on", "bne c3 c0 loop", "word 5", "jal c0 start", "on:", "blt c1 c2 end", "bge c1 c2 on", "trap", "end:"}
	want, err := asm.Assemble(strings.Join(lines, "\n"))
	if err != nil || len(want) != 9 {
		t.Fatalf("%d words, %v", len(want), err)
	}
	holds := func(lines []string) {
		t.Helper()
		source := strings.Join(lines, "\n")
		if got, err := asm.Assemble(source); err != nil || !slices.Equal(got, want) {
			t.Errorf("Assemble(%q): %x, %v, want %x", source, got, err, want)
		}
	}
	nothing := []string{"", "   ", ";", "; ret", " ;nobody:", "nobody:", " ret:  ; ret", ";\n\nnobody:\n  \nnone:;"}
	for at := range len(lines) + 1 {
		for _, more := range nothing {
			holds(slices.Insert(slices.Clone(lines), at, more))
		}
	}
	for at := range lines {
		for _, behind := range []string{" ", ";", ";ret", "  ; ret", " ; on: ; beq c0 c0 none", ";\x00\xff\t\r", "\n", ";\nnobody:\n"} {
			more := slices.Clone(lines)
			more[at] += behind
			holds(more)
			more[at] = "  " + strings.ReplaceAll(lines[at], " ", "  ") + behind
			holds(more)
		}
	}
}

// R1, W11: whatever a text's bytes are, it is refused at one of its lines, or is a source whose words are told as a source again.
func TestAnyBytes(t *testing.T) {
	holds := func(s string) {
		l, err := asm.Assemble(s)
		if err == nil {
			if got, err := asm.Assemble(asm.Disassemble(l)); err != nil || !slices.Equal(got, l) {
				t.Fatalf("Assemble(%q): %x, and again %x, %v", s, l, got, err)
			}
			return
		}
		var f *api.Fault
		if l != nil || !errors.As(err, &f) || f.At < 0 || f.At > strings.Count(s, "\n") || !slices.Contains([]api.Errno{api.ErrForm, api.ErrTwice, api.ErrWord}, f.Code) {
			t.Fatalf("Assemble(%q): %x, %v", s, l, err)
		}
	}
	for a := range 256 {
		for b := range 256 {
			holds(string([]byte{byte(a), byte(b)}))
		}
	}
	pieces := []string{" ", "\n", "\n", ":", ";", "c0", "c15", "c16", "0", "-1", "9", "a", "a:", "b:", "jal c1 a", "beq c0 c0 b", "ret", "word ", "li ", "li c1 7", "\xff", "\x00", "\t", "-", "99999999999"}
	chance := rand.New(rand.NewSource(9))
	for range 50000 {
		var s strings.Builder
		for range chance.Intn(12) {
			s.WriteString(pieces[chance.Intn(len(pieces))])
		}
		holds(s.String())
		if w, e := asm.Line(s.String()); (e == api.OK) != isText(s.String()) || e != api.OK && w != 0 {
			t.Fatalf("Line(%q): %08x, %v", s.String(), w, e)
		}
	}
}

// R5, R6: what is answered shares with nothing, and hangs on the text alone.
func TestAnswersAreNew(t *testing.T) {
	const source = "a:\nli c1 1\nbeq c0 c0 a"
	first, _ := asm.Assemble(source)
	want := slices.Clone(first)
	clear(first)
	if _, err := asm.Assemble("b:\nbeq c0 c0 b\na"); err == nil {
		t.Error("no fault")
	}
	if second, err := asm.Assemble(source); err != nil || !slices.Equal(second, want) {
		t.Errorf("%x, %v, want %x", second, err, want)
	}
	faults(t, "beq c0 c0 a", api.ErrWord, 0)
}
