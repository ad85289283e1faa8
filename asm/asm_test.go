package asm

import (
	"cmp"
	"slices"
	"strconv"
	"strings"
	"testing"
	"unsafe"

	"forerunner/api"
	"forerunner/image"
)

// all are the names of operations from 1 on, by the forms of these, from 1 on.
var all = [][]string{
	{"add", "sub", "and", "or", "xor", "sll", "srl", "sra", "slt", "sltu", "mul", "mulh", "div", "divu", "rem", "remu"},
	{"addi", "andi", "ori", "xori", "slti", "slli", "srli", "srai"},
	{"lui"},
	{"lw", "lh", "lhu", "lb", "lbu"},
	{"sw", "sh", "sb"},
	{"beq", "bne", "blt", "bge", "bltu", "bgeu"},
	{"j"},
	{"halt"},
}

var halt = api.Ins{Op: api.Halt}

// short is as much of a text as a report shows.
func short(s string) string { return strconv.Quote(s[:min(len(s), 200)]) }

func same(a, b api.Program) bool {
	return a.Size == b.Size && slices.Equal(a.Code, b.Code) && slices.Equal(a.Data, b.Data)
}

// reads holds that a text is this program.
func reads(t *testing.T, s string, want api.Program) {
	t.Helper()
	if p, at, e := Read(s); !same(p, want) || at != -1 || e != api.OK {
		t.Errorf("Read(%s) = %v, %d, %d, want %v", short(s), p, at, e, want)
	}
}

// codes holds that a text has this code, and nothing else.
func codes(t *testing.T, s string, code ...api.Ins) {
	t.Helper()
	reads(t, s, api.Program{Code: code})
}

// fails holds that a text is none, by a fault at this place.
func fails(t *testing.T, s string, want int, fault api.Errno) {
	t.Helper()
	if p, at, e := Read(s); p.Code != nil || p.Data != nil || p.Size != 0 || at != want || e != fault {
		t.Errorf("Read(%s) = %v, %d, %d, want none, %d, %d", short(s), p, at, e, want, fault)
	}
}

// P801: the names, in the order of their operations.
func TestNames(t *testing.T) {
	want := slices.Concat(all...)
	if got := Names(); !slices.Equal(got, want) || len(got) != api.Halt {
		t.Errorf("Names() = %q, want %q", got, want)
	}
	for op, name := range map[int]string{api.Add: "add", api.Remu: "remu", api.Addi: "addi", api.Slli: "slli", api.Lui: "lui", api.Lw: "lw", api.Lbu: "lbu", api.Sw: "sw", api.Sb: "sb", api.Beq: "beq", api.Bgeu: "bgeu", api.J: "j", api.Halt: "halt"} {
		if got := Names()[op-1]; got != name {
			t.Errorf("the name of operation %d is %q, want %q", op, got, name)
		}
	}
}

// written is the text of an instruction, and itself: registers 1, 2, 3 as they are written, and a number.
func written(form, op int, name string, n int) (string, api.Ins) {
	number := strconv.Itoa(n)
	switch form {
	case 1:
		return name + " r1, r2, r3", api.Ins{Op: op, D: 1, A: 2, B: 3}
	case 2:
		return name + " r1, r2, " + number, api.Ins{Op: op, D: 1, A: 2, Imm: n}
	case 3:
		return name + " r1, " + number, api.Ins{Op: op, D: 1, Imm: n}
	case 4:
		return name + " r1, " + number + "(r2)", api.Ins{Op: op, D: 1, A: 2, Imm: n}
	case 5:
		return name + " r1, " + number + "(r2)", api.Ins{Op: op, B: 1, A: 2, Imm: n}
	case 6:
		return name + " r1, r2, " + number, api.Ins{Op: op, A: 1, B: 2, Imm: n}
	case 7:
		return name + " " + number, api.Ins{Op: op, Imm: n}
	}
	return name, api.Ins{Op: op}
}

// P801: each operation, by its form.
func TestOperations(t *testing.T) {
	op := 0
	for i, names := range all {
		for _, name := range names {
			op++
			s, ins := written(i+1, op, name, 1)
			codes(t, s+"\nhalt", ins, halt)
			codes(t, "l: "+s+" # x\r\nhalt\n", ins, halt)
			codes(t, strings.NewReplacer(" ", "\t ", ",", "\r , ", "(", " (\t", ")", " )").Replace(s)+"\nhalt", ins, halt)
			codes(t, strings.ReplaceAll(s, ", ", ",")+"\nhalt", ins, halt)
			fails(t, strings.ToUpper(s)+"\nhalt", 0, api.ErrSyntax)
			fails(t, strings.ToUpper(s[:1])+s[1:]+"\nhalt", 0, api.ErrSyntax)
			fails(t, name+"x"+s[len(name):]+"\nhalt", 0, api.ErrSyntax)
			fails(t, "_"+s+"\nhalt", 0, api.ErrSyntax)
			fails(t, s+" halt", len(s)+1, api.ErrSyntax)
			fails(t, s+" 1\nhalt", len(s)+1, api.ErrSyntax)
			fails(t, s+",\nhalt", len(s), api.ErrSyntax)
			if i < 7 {
				fails(t, name+"\nhalt", len(name), api.ErrSyntax)
			}
		}
	}
}

// P801: the numbers that isa.Right takes, and those that it does not.
func TestNumbersOfInstructions(t *testing.T) {
	op := 0
	for i, names := range all {
		for _, name := range names {
			op++
			low, high := -8192, 8191
			if op == api.Slli || op == api.Srli || op == api.Srai {
				low, high = 0, 31
			}
			form := i + 1
			if form == 1 || form == 8 {
				continue
			}
			for _, n := range []int{low - 1, low, high, high + 1, -1 << 32, -1 << 31, 1 << 31, 1 << 32, 1 << 14, -1 << 14, -1, 0, 1, 32} {
				s, ins := written(form, op, name, n)
				switch {
				case n < low || n > high:
					fails(t, s+"\nhalt", 0, api.ErrRange)
					fails(t, "halt\nl: m: "+s, 11, api.ErrRange)
				case form < 6 || n == 0 || n == 1:
					codes(t, s+"\nhalt", ins, halt)
				default:
					fails(t, s+"\nhalt", 0, api.ErrTarget)
				}
			}
		}
	}
	codes(t, "lui r1, 0x1F\naddi r2, r3, -0007\nhalt", api.Ins{Op: api.Lui, D: 1, Imm: 31}, api.Ins{Op: api.Addi, D: 2, A: 3, Imm: -7}, halt)
	fails(t, "lui r1, 0x2000", 0, api.ErrRange)
}

// P801: registers, in each field.
func TestRegisters(t *testing.T) {
	for n := range 16 {
		r := "r" + strconv.Itoa(n)
		codes(t, "add "+r+", r1, r2", api.Ins{Op: api.Add, D: n, A: 1, B: 2})
		codes(t, "add r1, "+r+", r2", api.Ins{Op: api.Add, D: 1, A: n, B: 2})
		codes(t, "add r1, r2, "+r, api.Ins{Op: api.Add, D: 1, A: 2, B: n})
		codes(t, "ori "+r+", r1, 2", api.Ins{Op: api.Ori, D: n, A: 1, Imm: 2})
		codes(t, "lui "+r+", 2", api.Ins{Op: api.Lui, D: n, Imm: 2})
		codes(t, "lb "+r+", 3(r4)", api.Ins{Op: api.Lb, D: n, A: 4, Imm: 3})
		codes(t, "lb r4, 3("+r+")", api.Ins{Op: api.Lb, D: 4, A: n, Imm: 3})
		codes(t, "sh "+r+", 3(r4)", api.Ins{Op: api.Sh, A: 4, B: n, Imm: 3})
		codes(t, "sh r4, 3("+r+")", api.Ins{Op: api.Sh, A: n, B: 4, Imm: 3})
		codes(t, "bne "+r+", r3, 0", api.Ins{Op: api.Bne, A: n, B: 3})
		codes(t, "bne r3, "+r+", 0", api.Ins{Op: api.Bne, A: 3, B: n})
	}
}

// P801: names that are no register's.
func TestNoRegisters(t *testing.T) {
	for _, r := range []string{
		"r", "R1", "r00", "r01", "r001", "r010", "r015", "r16", "r17", "r19", "r20", "r99", "r100", "r150", "r_1", "r1_", "r1x", "rx", "ra", "rr1", "rr",
		"x1", "s1", "q1", "_r1", "r1é", "ré", "é1", "r1r", "x", "_", "_1", "a0", "halt", "size", "r4294967297", "r18446744073709551617", "r" + strings.Repeat("1", 9000), "r" + strings.Repeat("0", 9000),
	} {
		fails(t, "add "+r+", r1, r2", 4, api.ErrSyntax)
		fails(t, "add r1, "+r+", r2", 8, api.ErrSyntax)
		fails(t, "add r1, r2, "+r, 12, api.ErrSyntax)
		fails(t, "lw "+r+", 4(r1)", 3, api.ErrSyntax)
		fails(t, "lw r1, 4("+r+")", 9, api.ErrSyntax)
		// They may be labels, as those of registers may.
		codes(t, r+": j "+r, api.Ins{Op: api.J})
	}
	fails(t, "add 1, r1, r2", 4, api.ErrSyntax)
	fails(t, "add r 1, r1, r2", 4, api.ErrSyntax)
	fails(t, "add (r1), r1, r2", 4, api.ErrSyntax)
	for r := 'a'; r <= 'z'; r++ {
		if r != 'r' {
			fails(t, "lui "+string(r)+"1, 1", 4, api.ErrSyntax)
		}
	}
}

// P801: labels.
func TestLabels(t *testing.T) {
	j := func(n int) api.Ins { return api.Ins{Op: api.J, Imm: n} }
	codes(t, "a: j a", j(0))
	codes(t, "a:j a", j(0))
	codes(t, "a : j a", j(0))
	codes(t, "j a\nhalt\na: halt", j(2), halt, halt)
	codes(t, "a: halt\nhalt\nj a", halt, halt, j(-2))
	codes(t, "a: b: c: halt\nj a\nj b\nj c", halt, j(-1), j(-2), j(-3))
	codes(t, "halt\na:\n\n # x\nb:\nc: j a\nj b\nj c", halt, j(0), j(-1), j(-2))
	codes(t, "a: halt\nbgeu r1, r2, a\nblt r3, r4, b\nb: halt", halt, api.Ins{Op: api.Bgeu, A: 1, B: 2, Imm: -1}, api.Ins{Op: api.Blt, A: 3, B: 4, Imm: 1}, halt)
	codes(t, "\u00e9\u65e5_9: j \u00e9\u65e5_9", j(0))
	codes(t, "a: A: aa: j A\nj a\nj aa", j(0), j(-1), j(-2))
	codes(t, "a: halt\nb: halt # a:\n#a:\nj b", halt, halt, j(-1))
	codes(t, "halt\na:", halt)
	codes(t, "halt\na: b:\n", halt)
	reads(t, "a: size 3\nb: byte 1, 2\nc: halt\nd: byte 3\ne: size 9\nj a\nj b\nj c\nj d\nj e", api.Program{Code: []api.Ins{halt, j(-1), j(-2), j(-3), j(-3), j(-4)}, Size: 9, Data: []byte{1, 2, 3}})
	for _, name := range slices.Concat(append(all, []string{"size", "byte", "r0", "r15", "_", "x"})...) {
		codes(t, name+": j "+name, j(0))
		codes(t, name+": beq r1, r2, "+name, api.Ins{Op: api.Beq, A: 1, B: 2})
		codes(t, "j "+name+"\n"+name+":\n"+"halt", j(1), halt)
		fails(t, "j "+name, 2, api.ErrLabel)
		fails(t, name+": "+name+": halt", len(name)+2, api.ErrLabel)
	}
}

// P801: labels that are there twice, or nowhere.
func TestWrongLabels(t *testing.T) {
	fails(t, "a: halt\na: halt", 8, api.ErrLabel)
	fails(t, "a: halt\na:", 8, api.ErrLabel)
	fails(t, "a: a: a: halt", 3, api.ErrLabel)
	fails(t, "a: b: a: b: halt", 6, api.ErrLabel)
	fails(t, "a:\na: halt", 3, api.ErrLabel)
	fails(t, "a: a: j a", 3, api.ErrLabel)
	fails(t, "a: j a\na: j a", 7, api.ErrLabel)
	fails(t, "j a\na: b: b: halt", 10, api.ErrLabel)
	fails(t, "A: j a", 5, api.ErrLabel)
	fails(t, "a: j b\nj c", 5, api.ErrLabel)
	fails(t, "a: beq r1, r2, aa\nhalt", 15, api.ErrLabel)
	fails(t, "j a # a:\nhalt", 2, api.ErrLabel)
	fails(t, "r1: bltu r1, r1, r2", 17, api.ErrLabel)
}

// P801: sizes and bytes.
func TestSizesAndBytes(t *testing.T) {
	size := func(s string, n int, data ...byte) {
		t.Helper()
		reads(t, s, api.Program{Code: []api.Ins{halt}, Size: n, Data: data})
	}
	size("halt", 0)
	size("size 0\nhalt", 0)
	size("size 65536\nhalt", api.MaxMem)
	size("size 0x10\nhalt", 16)
	size("size 4\nsize 7\nhalt\nsize 5", 5)
	size("size -1\nsize 999999999\nsize 5\nhalt", 5)
	size("size 5\nsize 0\nhalt", 0)
	size("size 3\nbyte 1\nbyte 2, 3\nhalt", 3, 1, 2, 3)
	size("byte 0,255 , 0xfE\nhalt\nbyte 00, -0\nsize 9", 9, 0, 255, 254, 0, 0)
	size("l: byte 1\nm: size 1\nhalt", 1, 1)
	fails(t, "size -1\nhalt", 0, api.ErrArg)
	fails(t, "size 65537\nhalt", 0, api.ErrArg)
	fails(t, "size 4294967296\nhalt", 0, api.ErrArg)
	fails(t, "size -4294967296\nhalt", 0, api.ErrArg)
	fails(t, "size 4\nsize 65537\nhalt", 0, api.ErrArg)
	fails(t, "size 2\nbyte 1, 2, 3\nhalt", 0, api.ErrArg)
	fails(t, "size 2\nbyte 1, 2\nhalt\nsize 1", 0, api.ErrArg)
	fails(t, "byte 0\nhalt", 0, api.ErrArg)
	for _, n := range []string{"256", "-1", "511", "0x100", "65536", "4294967296", "-256", "-255", "-4294967296"} {
		fails(t, "size 9\nbyte "+n+"\nhalt", 12, api.ErrRange)
		fails(t, "size 9\nbyte 1,"+n+", 300\nhalt", 14, api.ErrRange)
		fails(t, "byte 1, 2, 3\nl: byte 255, "+n, 26, api.ErrRange)
	}
}

// P801: what does not fit, where it is.
func TestSyntax(t *testing.T) {
	for s, at := range map[string]int{
		"x": 0, "x\n": 0, " x": 1, "x\n:": 0, "halt\n:": 5, "x 1": 0, "x x:": 0, "x, x": 0, "x(": 0, "x # :": 0, "a: x": 3, "a: b: x": 6, "\n\nx": 2, "x r1, r2, r3": 0,
		"r1": 0, "r1 1": 0, "sizes 4": 0, "Size 4": 0, "SIZE 4": 0, "bytes 4": 0, "Byte 4": 0, "byt 1": 0, "siz": 0,
		"a::": 2, "a: :": 3, ":": 0, ": a": 0, ",": 0, "(": 0, ")": 0, "1": 0, "1:": 0, "-1": 0, "a: 1": 3, "a: ,": 3, "a: b c: halt": 3,
		"add:r1, r2, r3": 4, "halt:halt halt": 10,
		"halt a:": 5, "halt,": 4, "halt halt": 5, "halt (": 5, "halt 1": 5, "halt #\n1": 7, "halt\nhalt 1": 10,
		"add": 3, "add ": 4, "add # r1": 8, "add\n": 3, "add \n r1, r2, r3": 4, "add ,": 4, "add 1": 4, "add r1": 6, "add r1\n": 6, "add r1,": 7, "add r1,\n": 7, "add r1 r2, r3": 7, "add r1, r2 r3": 11,
		"add r1, r2, r3,": 14, "add r1, r2, r3, r4": 14, "add r1, r2, r3 r4": 15, "add r1, r2, 5": 12, "add r1, r2,\nr3": 11, "add r1: r2": 6, "add r1, r2, r3: halt": 14, "add (r1, r2, r3": 4,
		"addi r1, r2": 11, "addi r1, r2,": 12, "addi r1, r2, r3": 13, "addi r1, r2, x": 13, "addi r1, 5, r2": 9, "addi r1, r2, 5(": 14, "addi r1, r2, 5, 6": 14, "addi r1, r2, (5)": 13, "addi r1, r2, halt": 13,
		"lui r1": 6, "lui r1, r2": 8, "lui r1, x": 8, "lui r1, 1, 2": 9, "lui 1": 4, "lui r1 1": 7, "lui r1, 1(r2)": 9,
		"lw": 2, "lw r1": 5, "lw r1,": 6, "lw r1, 4": 8, "lw r1, 4,": 8, "lw r1, 4, r2": 8, "lw r1, 4(": 9, "lw r1, 4()": 9, "lw r1, 4(4)": 9, "lw r1, 4(r2": 11, "lw r1, 4(r2,": 11, "lw r1, 4(r2))": 12, "lw r1, 4(r2), r3": 12, "lw r1, 4)": 8, "lw r1, 4 r2": 9, "lw r1, x(r2)": 7, "lw r1, r2(r3)": 7, "lw r1, (r2)": 7, "lw r1, 4(r2\n)": 11, "lw 4(r2), r1": 3,
		"sw": 2, "sw r1": 5, "sw r1, r2": 7, "sw r1, x(r2)": 7, "sw r1, 4": 8, "sw r1, 4(": 9, "sw r1, 4(x)": 9, "sw r1, 4(r2": 11, "sw r1, 4(r2) 5": 13, "sw 4(r2), r1": 3,
		"beq": 3, "beq r1": 6, "beq r1, r2": 10, "beq r1, r2,": 11, "beq r1, r2, ,": 12, "beq r1, r2, (x)": 12, "beq r1, r2\nx": 10, "beq r1, x, r2": 8, "beq r1, 5, x": 8, "beq x, r1, r2": 4, "beq r1, r2, x y": 14, "beq r1, r2, x:": 13, "beq r1, r2, 4(r1)": 13, "beq r1, r2, 4 x": 14,
		"j": 1, "j\n": 1, "j ,": 2, "j (x)": 2, "j x y": 4, "j x:": 3, "j x, y": 3, "j 1 2": 4, "j 1(r1)": 3, "j 1x": 3, "j 0x": 3, "j\nx": 1,
		"size": 4, "size ": 5, "size\n4": 4, "size x": 5, "size r1": 5, "size ,": 5, "size 4, 5": 6, "size 4 5": 7, "size 4 halt": 7, "size 4: halt": 6, "size (4)": 5, "size size": 5, "size 0x": 6,
		"byte": 4, "byte\n": 4, "byte x": 5, "byte ,": 5, "byte 1,": 7, "byte 1,\n": 7, "byte 1, x": 8, "byte 1,,2": 7, "byte 1 2": 7, "byte 1, 2 3": 10, "byte 1, 2, # 3": 14, "byte 1(": 6, "byte 1: halt": 6, "byte 1, 2, halt": 11, "byte byte": 5, "byte 1\n, 2": 7,
		"halt\nhalt\nfoo": 10, "halt\r\n\r\nfoo": 8, "\u00e9\u00e9: foo": 6, "# \u00e9\nfoo": 5, "a: # b:\n1": 8,
	} {
		fails(t, s, at, api.ErrSyntax)
		fails(t, "halt\nl: "+s, at+8, api.ErrSyntax)
	}
	// A name with `:` behind is a label, whatever it is else.
	codes(t, "halt :halt", halt)
	codes(t, "halt\nj :", halt)
	codes(t, "halt\nhalt: add:size:", halt)
}

// P801: an error of lex.Split is told ahead of all others, where that is.
func TestErrorsOfSplit(t *testing.T) {
	fails(t, "foo\n+", 4, api.ErrSyntax)
	fails(t, "foo\n# \xff", 6, api.ErrSyntax)
	fails(t, "foo 4294967297", 4, api.ErrRange)
	fails(t, "j x\nsize -4294967297", 9, api.ErrRange)
	fails(t, "\xff", 0, api.ErrSyntax)
	fails(t, ".size 4\nhalt", 0, api.ErrSyntax)
	fails(t, "foo -", 4, api.ErrSyntax)
	fails(t, "foo"+strings.Repeat(" ", api.MaxText-2), 0, api.ErrLong)
	fails(t, "+"+strings.Repeat("\xff", api.MaxText), 0, api.ErrLong)
	fails(t, "halt"+strings.Repeat("\n", api.MaxText-3), 0, api.ErrLong)
	codes(t, "halt"+strings.Repeat("\n", api.MaxText-4), halt)
}

// P801: of several faults ErrSyntax is told first, then the first in the text, then ErrTarget, then ErrArg.
func TestOrderOfFaults(t *testing.T) {
	fails(t, "a: a: j x\nbyte 256\naddi r1, r1, 9999\nj 99\nsize -1\nfoo", 50, api.ErrSyntax)
	fails(t, "j 99\nsize -1\nbyte 300\na: a: halt", 18, api.ErrRange)
	fails(t, "j 99\nsize -1\na: a: byte 300", 16, api.ErrLabel)
	fails(t, "j x\na: a:", 2, api.ErrLabel)
	fails(t, "a: a: j x", 3, api.ErrLabel)
	fails(t, "a: j x\na: halt", 5, api.ErrLabel)
	fails(t, "lui r1, 9999\nj x", 0, api.ErrRange)
	fails(t, "j x\nlui r1, 9999", 2, api.ErrLabel)
	fails(t, "a: lui r1, 9999\na: halt", 3, api.ErrRange)
	fails(t, "a: a: lui r1, 9999", 3, api.ErrLabel)
	fails(t, "byte 256\nlui r1, 9999", 5, api.ErrRange)
	fails(t, "lui r1, 9999\nbyte 256", 0, api.ErrRange)
	fails(t, "byte 1, 256\nj x", 8, api.ErrRange)
	fails(t, "j x\nbyte 256", 2, api.ErrLabel)
	fails(t, "size 65537\nj 9000", 11, api.ErrRange)
	fails(t, "size -1\nj 1", 0, api.ErrTarget)
	fails(t, "byte 1\nhalt\nj -2", 0, api.ErrTarget)
	fails(t, "\n\n j 1", 0, api.ErrTarget)
	fails(t, "size 65537\nhalt\nfoo", 16, api.ErrSyntax)
	fails(t, strings.Repeat("halt\n", api.MaxCode+1)+"j 1", 0, api.ErrTarget)
	fails(t, strings.Repeat("halt\n", api.MaxCode+1)+"j x", 5*api.MaxCode+7, api.ErrLabel)
}

// P801: targets that are not in the code.
func TestTargets(t *testing.T) {
	fails(t, "halt\nj a\na:", 0, api.ErrTarget)
	fails(t, "j a\na: size 4", 0, api.ErrTarget)
	fails(t, "beq r1, r2, a\na:", 0, api.ErrTarget)
	fails(t, "j -1", 0, api.ErrTarget)
	fails(t, "bne r0, r0, 1", 0, api.ErrTarget)
	fails(t, "halt\nbne r0, r0, -2\nhalt", 0, api.ErrTarget)
	fails(t, "halt\nj 8191", 0, api.ErrTarget)
	fails(t, "halt\nj -8192", 0, api.ErrTarget)
	codes(t, "halt\nj -1", halt, api.Ins{Op: api.J, Imm: -1})
	codes(t, "j 1\nhalt", api.Ins{Op: api.J, Imm: 1}, halt)
}

// P801: programs as long as they may be, and longer ones.
func TestLongPrograms(t *testing.T) {
	most := strings.Repeat("halt\n", api.MaxCode)
	reads(t, "size 65536\n"+most, api.Program{Code: slices.Repeat([]api.Ins{halt}, api.MaxCode), Size: api.MaxMem})
	fails(t, most+"halt", 0, api.ErrArg)
	far := slices.Repeat([]api.Ins{halt}, api.MaxCode)
	far[0].Op, far[0].Imm = api.J, api.MaxCode-1
	codes(t, "j a\n"+strings.Repeat("halt\n", api.MaxCode-2)+"a: halt", far...)
	far = slices.Repeat([]api.Ins{halt}, api.MaxCode)
	far[api.MaxCode-1] = api.Ins{Op: api.J, Imm: 1 - api.MaxCode}
	codes(t, "a: "+strings.Repeat("halt\n", api.MaxCode-1)+"j a", far...)
	const count = 9900
	reads(t, "halt\nsize 9900\nbyte 7"+strings.Repeat(",7", count-1), api.Program{Code: []api.Ins{halt}, Size: count, Data: []byte(strings.Repeat("\a", count))})
	fails(t, "halt\nsize 9899\nbyte 7"+strings.Repeat(",7", count-1), 0, api.ErrArg)
	fails(t, strings.Repeat("a:", 9000), 2, api.ErrLabel)
	fails(t, strings.Repeat("j a\n", 5000), 2, api.ErrLabel)
	fails(t, "a:"+strings.Repeat("j a\n", 4999), 0, api.ErrArg)
}

// P801: nothing that is a program.
func TestNothing(t *testing.T) {
	for _, s := range []string{"", " ", "\n", "\r\n\r\n", "# halt", "a:", "a: b:\nc:", "size 4", "size 4\nbyte 1", "byte 1"} {
		fails(t, s, 0, api.ErrArg)
	}
	codes(t, "\n\nhalt", halt)
	codes(t, "# x\n \r\n\thalt # y\n\n# z", halt)
}

// kinds are words, and the letters that stand for them in what a line may be.
var kinds = map[string]byte{
	"add": '1', "addi": '2', "lui": '3', "lb": '4', "sb": '5', "beq": '6', "j": '7', "halt": '8', "size": 's', "byte": 'b', "r3": 'r', "x": 'x', "2": 'n',
	",": ',', ":": ':', "(": '(', ")": ')', "\n": '/',
}

// named are the letters of names.
const named = "12345678sbrx"

// beginnings are all that a label, or a line without one, may begin with, by letters.
func beginnings() map[string]bool {
	whole := []string{"/", "1r,r,r/", "2r,r,n/", "3r,n/", "4r,n(r)/", "5r,n(r)/", "6r,r,n/", "7n/", "8/", "sn/", "bn/", "bn,n/", "bn,n,n/", "bn,n,n,n/"}
	for _, r := range named {
		whole = append(whole, "6r,r,"+string(r)+"/", "7"+string(r)+"/", string(r)+":")
	}
	out := map[string]bool{}
	for _, s := range whole {
		for n := range len(s) + 1 {
			out[s[:n]] = true
		}
	}
	return out
}

// misfit is which word of a text does not fit; below 0: none.
func misfit(words []string, may map[string]bool) int {
	line := ""
	for i, w := range append(slices.Clone(words), "\n") {
		line += string(kinds[w])
		if !may[line] {
			// What is behind an unknown name tells that it is none.
			if len(line) == 2 && (line[0] == 'x' || line[0] == 'r') {
				return i - 1
			}
			return i
		}
		if w == "\n" || len(line) == 2 && w == ":" {
			line = ""
		}
	}
	return -1
}

// P801: each short text of some words, also behind other beginnings.
func TestAllShort(t *testing.T) {
	may := beginnings()
	var vocabulary []string
	for w := range kinds {
		vocabulary = append(vocabulary, w)
	}
	slices.Sort(vocabulary)
	var try func(words []string, left int)
	try = func(words []string, left int) {
		// Lines' ends that follow one another are one token, and those ahead of all are none.
		if n := len(words); n > 0 && words[n-1] == "\n" && (n == 1 || words[n-2] == "\n") {
			return
		}
		text, begins := "", []int{}
		for _, w := range words {
			begins = append(begins, len(text))
			text += w + " "
		}
		// The end is a line's end that follows what is there.
		begins = append(begins, len(text))
		want := misfit(words, may)
		_, at, e := Read(text)
		if (e == api.ErrSyntax) != (want >= 0) || want >= 0 && at != begins[want] {
			t.Fatalf("Read(%q): %d, %d, want word %d of %v", text, at, e, want, begins)
		}
		if left == 0 {
			return
		}
		for _, w := range vocabulary {
			try(append(slices.Clone(words), w), left-1)
		}
	}
	try(nil, 4)
	for _, begun := range []string{"add r3 ,", "addi r3 , r3", "lui r3", "lb r3 , 2", "sb r3 , 2 (", "beq r3 , r3", "j x", "size 2", "byte 2 ,", "x : j", "x : x :", "halt \n"} {
		words := strings.Split(begun, " ")
		for n := range words {
			try(words[:n+1], 2)
		}
		try(words, 3)
	}
}

// chance makes numbers, the same ones each time.
type chance uint32

// next is the next number, from 0 to below most.
func (c *chance) next(most int) int {
	*c = *c*1664525 + 1013904223
	return int(*c>>9) % most
}

// fault is an error at a place.
type fault struct {
	at int
	e  api.Errno
}

// maker writes a text, and keeps what it is.
type maker struct {
	c       *chance
	text    string
	program api.Program
	labels  map[string]int
	named   []fault // where each branch or jump names a label, by the place of the instruction; at 0: it does not
	names   []string
	faults  []fault
}

// label writes a label.
func (m *maker) label() {
	name := []string{"a", "b", "c", "add", "r1", "\u00e9", "size"}[m.c.next(7)]
	if _, ok := m.labels[name]; ok {
		if m.c.next(9) > 0 {
			return
		}
		m.faults = append(m.faults, fault{len(m.text), api.ErrLabel})
	} else {
		m.labels[name] = len(m.program.Code)
	}
	m.text += name + ": "
}

// instruction writes an instruction.
func (m *maker) instruction() {
	form := 1 + m.c.next(8)
	op := 1
	for _, names := range all[:form-1] {
		op += len(names)
	}
	which := m.c.next(len(all[form-1]))
	name, n := all[form-1][which], m.c.next(32)
	if m.c.next(40) == 0 {
		n = []int{-8193, 8192, 1 << 20}[m.c.next(3)]
	}
	if form == 6 || form == 7 {
		n = m.c.next(len(m.program.Code)+4) - len(m.program.Code) - 1
	}
	s, ins := written(form, op+which, name, n)
	if n > 8191 || n < -8192 {
		if form != 1 && form != 8 {
			m.faults = append(m.faults, fault{len(m.text), api.ErrRange})
		}
	}
	use := ""
	if (form == 6 || form == 7) && m.c.next(2) == 0 {
		use = []string{"a", "b", "c", "add", "r1", "\u00e9", "size", "x"}[m.c.next(8)]
		s = strings.TrimSuffix(s, strconv.Itoa(n)) + use
	}
	m.names = append(m.names, use)
	m.named = append(m.named, fault{len(m.text) + len(s) - len(use), api.ErrLabel})
	m.text += s
	m.program.Code = append(m.program.Code, ins)
}

// line writes a line.
func (m *maker) line() {
	for range m.c.next(3) {
		m.label()
	}
	switch m.c.next(8) {
	case 0:
		m.program.Size = 10 + m.c.next(90)
		m.text += "size " + strconv.Itoa(m.program.Size)
	case 1:
		between := "byte "
		for range 1 + m.c.next(4) {
			n := m.c.next(256)
			if m.c.next(30) == 0 {
				n = 256 + m.c.next(1000)
			}
			m.text += between
			if n > 255 {
				m.faults = append(m.faults, fault{len(m.text), api.ErrRange})
			}
			m.text += strconv.Itoa(n)
			m.program.Data = append(m.program.Data, byte(n))
			between = ", "
		}
	case 2:
	default:
		m.instruction()
	}
	m.text += []string{"\n", "\r\n", " # x: y\n", "\n\n\n"}[m.c.next(4)]
}

// end is what the text is when all is written: the program, or the first fault.
func (m *maker) end() (api.Program, int, api.Errno) {
	for place, use := range m.names {
		at, ok := m.labels[use]
		switch {
		case use == "":
		case ok:
			m.program.Code[place].Imm = at - place
		default:
			m.faults = append(m.faults, m.named[place])
		}
	}
	slices.SortFunc(m.faults, func(a, b fault) int { return cmp.Compare(a.at, b.at) })
	if len(m.faults) > 0 {
		return api.Program{}, m.faults[0].at, m.faults[0].e
	}
	for place, i := range m.program.Code {
		if to := place + i.Imm; i.Op >= api.Beq && i.Op <= api.J && (to < 0 || to >= len(m.program.Code)) {
			return api.Program{}, 0, api.ErrTarget
		}
	}
	if !image.Right(m.program) {
		return api.Program{}, 0, api.ErrArg
	}
	return m.program, -1, api.OK
}

// P801: texts of many lines, whose program or fault is known as they are written.
func TestWholeTexts(t *testing.T) {
	c := chance(801)
	seen := map[api.Errno]int{}
	for range 20000 {
		m := maker{c: &c, labels: map[string]int{}}
		for range 1 + c.next(14) {
			m.line()
		}
		want, place, e := m.end()
		seen[e]++
		if p, at, f := Read(m.text); !same(p, want) || at != place || f != e {
			t.Fatalf("Read(%q) = %v, %d, %d, want %v, %d, %d", m.text, p, at, f, want, place, e)
		}
	}
	for _, e := range []api.Errno{api.OK, api.ErrLabel, api.ErrRange, api.ErrTarget, api.ErrArg} {
		if seen[e] < 500 {
			t.Errorf("error %d is there %d times only", e, seen[e])
		}
	}
}

// some are texts of all kinds.
var some = []string{
	"", "halt", "a: j a", "size 4\nbyte 1, 2\nlw r1, 0(r2)\nhalt", "j x", "foo", "a: a:", "byte 256", "j 1", "+", "99999999999",
	strings.Repeat("a", api.MaxText+1), strings.Repeat("halt\n", 50) + "size 50\nbyte 1" + strings.Repeat(", 9", 49),
}

// P802: the same text has the same answer, whatever was asked between.
func TestSameAnswers(t *testing.T) {
	type answer struct {
		p  api.Program
		at int
		e  api.Errno
	}
	var first []answer
	for _, s := range some {
		p, at, e := Read(s)
		first = append(first, answer{api.Program{Code: slices.Clone(p.Code), Size: p.Size, Data: slices.Clone(p.Data)}, at, e})
	}
	for range 3 {
		for i := len(some) - 1; i >= 0; i-- {
			if p, at, e := Read(some[i]); !same(p, first[i].p) || at != first[i].at || e != first[i].e {
				t.Errorf("Read(%s) = %v, %d, %d, and %v before", short(some[i]), p, at, e, first[i])
			}
		}
	}
}

// P802: an answered list written to, or made longer, changes no other one.
func TestListsOfTheirOwn(t *testing.T) {
	for _, s := range some {
		one, _, _ := Read(s)
		two, _, _ := Read(s)
		want := api.Program{Code: slices.Clone(two.Code), Size: two.Size, Data: slices.Clone(two.Data)}
		clear(append(one.Code, halt, halt))
		clear(append(one.Data, 1, 2))
		clear(one.Code)
		clear(one.Data)
		if three, _, _ := Read(s); !same(two, want) || !same(three, want) {
			t.Errorf("Read(%s) is changed by what is done to another answer: %v, %v, want %v", short(s), two, three, want)
		}
	}
	one, two := Names(), Names()
	for i := range append(one, "behind") {
		one[min(i, len(one)-1)] = "changed"
	}
	want := slices.Concat(all...)
	if !slices.Equal(two, want) || !slices.Equal(Names(), want) {
		t.Errorf("Names is changed by what is done to another answer: %q", two)
	}
	codes(t, "add r1, r2, r3", api.Ins{Op: api.Add, D: 1, A: 2, B: 3})
}

// P802: the text that is handed in stays as it is, and the answer keeps nothing of it.
func TestTextIsNotKept(t *testing.T) {
	for _, s := range some {
		memory := []byte(s)
		// A text whose bytes may be changed behind it.
		p, at, e := Read(unsafe.String(unsafe.SliceData(memory), len(memory)))
		if string(memory) != s {
			t.Fatalf("Read changes the text %s", short(s))
		}
		for i := range memory {
			memory[i] = '?'
		}
		if want, place, f := Read(s); !same(p, want) || at != place || e != f {
			t.Errorf("Read(%s) keeps the text: %v, want %v", short(s), p, want)
		}
	}
}
