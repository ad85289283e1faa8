package show

import (
	"math"
	"slices"
	"strconv"
	"strings"
	"testing"

	"forerunner/api"
	"forerunner/asm"
)

// all are the names of operations from 1 on, by the forms of these, from 1 on.
var all = [][]string{
	{"add", "sub", "and", "or", "xor", "sll", "srl", "sra", "slt", "sltu", "mul", "mulh", "div", "divu", "rem", "remu"},
	{"addi", "andi", "ori", "xori", "slti", "slli", "srli", "srai"},
	{"lui"},
	{"lw", "lh", "lhu", "lb", "lbu"},
	{"sw", "sh", "sb"},
	{"beq", "bne", "blt", "bge", "bltu", "bgeu"},
	{"j"},
	{"halt"},
}

// far are numbers that no field has.
var far = []int{math.MinInt, math.MinInt + 1, -1 << 32, -1<<32 + 1, -1 << 31, -1 << 16, -16384, 16384, 1 << 16, 1 << 31, 1 << 32, 1<<32 + 1, math.MaxInt - 1, math.MaxInt}

var halt = api.Ins{Op: api.Halt}

// each calls f for each operation.
func each(f func(op, form int, name string)) {
	op := 0
	for i, names := range all {
		for _, name := range names {
			op++
			f(op, i+1, name)
		}
	}
}

// made is the instruction of a form with these numbers in the fields that it has, and its text as it is written.
func made(op, form int, name string, d, a, b, n int) (api.Ins, string) {
	reg := func(r int) string { return "r" + strconv.Itoa(r) }
	num := strconv.Itoa(n)
	switch form {
	case 1:
		return api.Ins{Op: op, D: d, A: a, B: b}, name + " " + reg(d) + ", " + reg(a) + ", " + reg(b)
	case 2:
		return api.Ins{Op: op, D: d, A: a, Imm: n}, name + " " + reg(d) + ", " + reg(a) + ", " + num
	case 3:
		return api.Ins{Op: op, D: d, Imm: n}, name + " " + reg(d) + ", " + num
	case 4:
		return api.Ins{Op: op, D: d, A: a, Imm: n}, name + " " + reg(d) + ", " + num + "(" + reg(a) + ")"
	case 5:
		return api.Ins{Op: op, A: a, B: b, Imm: n}, name + " " + reg(b) + ", " + num + "(" + reg(a) + ")"
	case 6:
		return api.Ins{Op: op, A: a, B: b, Imm: n}, name + " " + reg(a) + ", " + reg(b) + ", " + num
	case 7:
		return api.Ins{Op: op, Imm: n}, name + " " + num
	}
	return api.Ins{Op: op}, name
}

// isShift answers whether the number of an operation is one of bits.
func isShift(op int) bool { return op == api.Slli || op == api.Srli || op == api.Srai }

// few are instructions and their texts, of each operation one.
func few() map[string]api.Ins {
	out := map[string]api.Ins{}
	each(func(op, form int, name string) {
		i, want := made(op, form, name, 1+op%15, 15-op%15, op%16, op%32)
		out[want] = i
	})
	return out
}

// wrong are instructions that are none.
func wrong() []api.Ins {
	out := []api.Ins{{}, {Op: -1}, {Op: 42}, {Op: 64 + api.Add}, {D: 1, A: 2, B: 3}}
	for _, n := range far {
		out = append(out, api.Ins{Op: n}, api.Ins{Op: n, D: 1, Imm: 2})
	}
	each(func(op, form int, name string) {
		i, _ := made(op, form, name, 1, 2, 3, 4)
		fields := func(i *api.Ins) []*int { return []*int{&i.D, &i.A, &i.B} }
		for k := range fields(&i) {
			for _, n := range append([]int{-1, 16}, far...) {
				bad := i
				*fields(&bad)[k] = n
				out = append(out, bad)
			}
			if *fields(&i)[k] == 0 {
				bad := i
				*fields(&bad)[k] = 1
				out = append(out, bad)
			}
		}
		numbers := append([]int{-8193, 8192}, far...)
		if isShift(op) {
			numbers = append(numbers, -1, 32)
		}
		if form == 1 || form == 8 {
			numbers = append(numbers, -1, 1)
		}
		for _, n := range numbers {
			bad := i
			bad.Imm = n
			out = append(out, bad)
		}
	})
	return out
}

// shows holds the text of a cell.
func shows(t *testing.T, c api.Cell, want string) {
	t.Helper()
	if got := Cell(c); got != want {
		t.Errorf("Cell(%v) = %q, want %q", c, got, want)
	}
}

// writes holds the text of a program.
func writes(t *testing.T, p api.Program, want string) {
	t.Helper()
	if got := Text(p); got != want {
		t.Errorf("Text(%v) = %.300q, want %.300q", p, got, want)
	}
}

// isRead holds that asm.Read of a program's text is the program.
func isRead(t *testing.T, p api.Program) {
	t.Helper()
	s := Text(p)
	got, at, e := asm.Read(s)
	if got.Size != p.Size || !slices.Equal(got.Code, p.Code) || !slices.Equal(got.Data, p.Data) || at != -1 || e != api.OK {
		t.Fatalf("Read(%.300q) = %v, %d, %d, want %v", s, got, at, e, p)
	}
}

// P901: each operation, with each register in each field, and numbers.
func TestInsOfEachOperation(t *testing.T) {
	each(func(op, form int, name string) {
		numbers := []int{0, 1, 2, 9, 10, 15, 16, 31}
		if !isShift(op) {
			numbers = append(numbers, -8192, -8191, -1000, -100, -10, -9, -1, 32, 99, 100, 999, 1000, 8190, 8191)
		}
		for r := range 16 {
			for _, n := range numbers {
				for _, f := range [][3]int{{r, 1, 2}, {1, r, 2}, {1, 2, r}, {r, r, r}, {15 - r, r, 0}} {
					i, want := made(op, form, name, f[0], f[1], f[2], n)
					if got := Ins(i); got != want {
						t.Errorf("Ins(%v) = %q, want %q", i, got, want)
					}
				}
			}
		}
	})
}

// P901: instructions by hand, as chapter 8 writes them.
func TestInsByHand(t *testing.T) {
	for want, i := range map[string]api.Ins{
		"add r1, r2, r3":     {Op: api.Add, D: 1, A: 2, B: 3},
		"remu r15, r0, r10":  {Op: api.Remu, D: 15, B: 10},
		"addi r0, r0, 0":     {Op: api.Addi},
		"srai r4, r5, 31":    {Op: api.Srai, D: 4, A: 5, Imm: 31},
		"andi r4, r5, -8192": {Op: api.Andi, D: 4, A: 5, Imm: -8192},
		"lui r9, 8191":       {Op: api.Lui, D: 9, Imm: 8191},
		"lw r1, 0(r2)":       {Op: api.Lw, D: 1, A: 2},
		"lbu r1, -16(r0)":    {Op: api.Lbu, D: 1, Imm: -16},
		"sw r2, 4(r1)":       {Op: api.Sw, A: 1, B: 2, Imm: 4},
		"beq r1, r2, -1":     {Op: api.Beq, A: 1, B: 2, Imm: -1},
		"j 0":                {Op: api.J},
		"j -7":               {Op: api.J, Imm: -7},
		"halt":               {Op: api.Halt},
	} {
		if got := Ins(i); got != want {
			t.Errorf("Ins(%v) = %q, want %q", i, got, want)
		}
	}
}

// P901: of an instruction that is not Right there is nothing, nor of a program or a cell with it.
func TestWrongInstructions(t *testing.T) {
	for _, i := range wrong() {
		if got := Ins(i); got != "" {
			t.Errorf("Ins(%v) = %q", i, got)
		}
		writes(t, api.Program{Code: []api.Ins{i}}, "")
		for _, kind := range []int{api.KDo, api.KLoad, api.KFetch, api.KStore, api.KBranch, api.KPop} {
			shows(t, api.Cell{Kind: kind, Ins: i, Reg: 1}, "")
		}
	}
}

// P901: cells that have an instruction; the other fields are not looked at.
func TestCellsOfInstructions(t *testing.T) {
	words := map[string]int{"do": api.KDo, "load": api.KLoad, "fetch": api.KFetch, "store": api.KStore, "branch": api.KBranch}
	for text, i := range few() {
		for word, kind := range words {
			for _, n := range append([]int{-1, 0, 1, 16}, far...) {
				shows(t, api.Cell{Kind: kind, Ins: i, Reg: n, Pc: n, Off: n}, word+" "+text)
			}
		}
	}
}

// P901: a KPop has its instruction's D, whatever that is else.
func TestPops(t *testing.T) {
	for r := range 16 {
		want := "pop r" + strconv.Itoa(r)
		for op := api.Lw; op <= api.Lbu; op++ {
			for _, n := range append([]int{-1, 0, 1, 16}, far...) {
				shows(t, api.Cell{Kind: api.KPop, Ins: api.Ins{Op: op, D: r, A: 15 - r, Imm: 4}, Reg: n, Pc: n, Off: n}, want)
			}
		}
	}
	for _, i := range few() {
		shows(t, api.Cell{Kind: api.KPop, Ins: i}, "pop r"+strconv.Itoa(i.D))
	}
}

// P901: cells that have a register from 0 to 15; the other fields are not looked at.
func TestCellsOfRegisters(t *testing.T) {
	for word, kind := range map[string]int{"send": api.KSend, "recv": api.KRecv, "put": api.KPut} {
		for r := range 16 {
			want := word + " r" + strconv.Itoa(r)
			shows(t, api.Cell{Kind: kind, Reg: r}, want)
			for _, i := range append(wrong()[:40], halt, api.Ins{Op: api.Lw, D: 15 - r}) {
				shows(t, api.Cell{Kind: kind, Ins: i, Reg: r, Pc: i.Op, Off: -1}, want)
			}
		}
		for _, r := range append([]int{-1, -15, 16, 17, 255, 256}, far...) {
			shows(t, api.Cell{Kind: kind, Reg: r}, "")
			shows(t, api.Cell{Kind: kind, Ins: halt, Reg: r}, "")
		}
	}
}

// P901: cells that have a word alone; no other field is looked at.
func TestCellsOfWords(t *testing.T) {
	for word, kind := range map[string]int{"follow": api.KFollow, "jump": api.KJump, "halt": api.KHalt} {
		shows(t, api.Cell{Kind: kind}, word)
		shows(t, api.Cell{Kind: kind, Ins: halt, Reg: 1, Pc: 2, Off: 3}, word)
		for _, n := range append([]int{-1, 16}, far...) {
			shows(t, api.Cell{Kind: kind, Ins: api.Ins{Op: n, D: n, A: n, B: n, Imm: n}, Reg: n, Pc: n, Off: n}, word)
		}
	}
}

// P901: of another Kind there is nothing.
func TestOtherKinds(t *testing.T) {
	for _, kind := range append([]int{-12, -2, -1, 0, 13, 14, 24, 255, 256 + api.KDo}, far...) {
		shows(t, api.Cell{Kind: kind}, "")
		shows(t, api.Cell{Kind: kind, Ins: halt, Reg: 1, Pc: 2, Off: 3}, "")
		shows(t, api.Cell{Kind: kind, Ins: api.Ins{Op: api.Lw, D: 1}, Reg: 15}, "")
	}
}

// P901: programs by hand.
func TestTextByHand(t *testing.T) {
	writes(t, api.Program{Code: []api.Ins{halt}}, "size 0\nhalt\n")
	writes(t, api.Program{Code: []api.Ins{halt}, Data: []byte{}}, "size 0\nhalt\n")
	writes(t, api.Program{Code: []api.Ins{halt}, Size: 65536}, "size 65536\nhalt\n")
	writes(t, api.Program{Code: []api.Ins{halt}, Size: 1, Data: []byte{0}}, "size 1\nbyte 0\nhalt\n")
	writes(t, api.Program{Code: []api.Ins{halt, halt, halt}, Size: 9, Data: []byte{255, 7, 10, 100}}, "size 9\nbyte 255, 7, 10, 100\nhalt\nhalt\nhalt\n")
	writes(t, api.Program{Code: []api.Ins{
		{Op: api.Lw, D: 1, A: 2, Imm: -4}, {Op: api.Sb, A: 2, B: 1, Imm: 3}, {Op: api.Bne, A: 3, B: 4, Imm: -2}, {Op: api.J, Imm: 1}, {Op: api.J, Imm: -4},
	}, Size: 12}, "size 12\nlw r1, -4(r2)\nsb r1, 3(r2)\nbne r3, r4, -2\nj 1\nj -4\n")
}

// P901: at most 16 bytes in a line, and as few lines as hold them.
func TestLinesOfBytes(t *testing.T) {
	for n := range 100 {
		p := api.Program{Code: []api.Ins{halt}, Size: n}
		want := "size " + strconv.Itoa(n) + "\n"
		for k := range n {
			b := byte(k*37 + n)
			p.Data = append(p.Data, b)
			switch {
			case k == 0:
				want += "byte "
			case k%16 == 0:
				want += "\nbyte "
			default:
				want += ", "
			}
			want += strconv.Itoa(int(b))
		}
		if n > 0 {
			want += "\n"
		}
		writes(t, p, want+"halt\n")
	}
}

// P901: each byte.
func TestEachByte(t *testing.T) {
	for b := range 256 {
		s := strconv.Itoa(b)
		writes(t, api.Program{Code: []api.Ins{halt}, Size: 2, Data: []byte{byte(b), byte(b)}}, "size 2\nbyte "+s+", "+s+"\nhalt\n")
	}
}

// P901: each size.
func TestEachSize(t *testing.T) {
	for size := range api.MaxMem + 1 {
		writes(t, api.Program{Code: []api.Ins{halt}, Size: size}, "size "+strconv.Itoa(size)+"\nhalt\n")
	}
}

// P901: each instruction in a line of its own, in order.
func TestLinesOfCode(t *testing.T) {
	p, want := api.Program{}, "size 0\n"
	for text, i := range few() {
		if i.Op >= api.Beq && i.Op <= api.J {
			continue
		}
		p.Code = append(p.Code, i)
		want += text + "\n"
		writes(t, p, want)
	}
}

// P901: of what is not image.Right there is nothing.
func TestWrongPrograms(t *testing.T) {
	writes(t, api.Program{}, "")
	writes(t, api.Program{Code: []api.Ins{}, Size: 4, Data: []byte{1}}, "")
	for _, size := range []int{math.MinInt, -1 << 32, -65536, -1, api.MaxMem + 1, 1 << 31, 1 << 32, 1<<32 + 4, math.MaxInt} {
		writes(t, api.Program{Code: []api.Ins{halt}, Size: size}, "")
	}
	writes(t, api.Program{Code: []api.Ins{halt}, Data: []byte{0}}, "")
	writes(t, api.Program{Code: []api.Ins{halt}, Size: 16, Data: make([]byte, 17)}, "")
	writes(t, api.Program{Code: []api.Ins{halt}, Size: api.MaxMem, Data: make([]byte, api.MaxMem+1)}, "")
	for op := api.Beq; op <= api.J; op++ {
		writes(t, api.Program{Code: []api.Ins{halt, {Op: op, Imm: 1}}}, "")
		writes(t, api.Program{Code: []api.Ins{{Op: op, Imm: -1}, halt}}, "")
	}
	if s := Text(api.Program{Code: slices.Repeat([]api.Ins{halt}, api.MaxCode+1)}); s != "" {
		t.Errorf("the text of a program that is too long has %d bytes", len(s))
	}
	for place := range 5 {
		code := slices.Repeat([]api.Ins{halt}, 5)
		code[place].D = 1
		writes(t, api.Program{Code: code}, "")
	}
}

// P901, P902: the greatest programs are shown whole; what has more than MaxText bytes is not read.
func TestGreatestPrograms(t *testing.T) {
	halts := slices.Repeat([]api.Ins{halt}, api.MaxCode)
	writes(t, api.Program{Code: halts, Size: api.MaxMem}, "size 65536\n"+strings.Repeat("halt\n", api.MaxCode))
	isRead(t, api.Program{Code: halts, Size: api.MaxMem})
	data := []byte(strings.Repeat("\xff", api.MaxMem))
	line := "byte 255" + strings.Repeat(", 255", 15) + "\n"
	p := api.Program{Code: halts, Size: api.MaxMem, Data: data}
	writes(t, p, "size 65536\n"+strings.Repeat(line, api.MaxMem/16)+strings.Repeat("halt\n", api.MaxCode))
	if _, at, e := asm.Read(Text(p)); at != 0 || e != api.ErrLong {
		t.Errorf("Read of the greatest text: %d, %d", at, e)
	}
}

// P902: a text of MaxText bytes is read, one of a byte more is not.
func TestLongestText(t *testing.T) {
	wide := api.Ins{Op: api.Addi, D: 10, A: 10, Imm: -8192}
	// A line of 8 bytes, and 952 of 21.
	p := api.Program{Code: slices.Repeat([]api.Ins{wide}, 952), Size: 10}
	if n := len(Text(p)); n != api.MaxText {
		t.Fatalf("the text has %d bytes", n)
	}
	isRead(t, p)
	p.Size *= 10
	if _, at, e := asm.Read(Text(p)); at != 0 || e != api.ErrLong {
		t.Errorf("Read of %d bytes: %d, %d", len(Text(p)), at, e)
	}
}

// chance makes numbers, the same ones each time.
type chance uint32

// next is the next number, from 0 to below most.
func (c *chance) next(most int) int {
	*c = *c*1664525 + 1013904223
	return int(*c>>9) % most
}

// some makes a program of n instructions and its text, as it is to be.
func (c *chance) some(n int) (api.Program, string) {
	p := api.Program{Size: []int{0, 1, 17, 64, 300, 65536}[c.next(6)]}
	for range c.next(min(p.Size, 70) + 1) {
		p.Data = append(p.Data, byte(c.next(256)))
	}
	want := "size " + strconv.Itoa(p.Size) + "\n"
	for line := range slices.Chunk(p.Data, 16) {
		var words []string
		for _, b := range line {
			words = append(words, strconv.Itoa(int(b)))
		}
		want += "byte " + strings.Join(words, ", ") + "\n"
	}
	for place := range n {
		form := 1 + c.next(8)
		op := 1 + len(slices.Concat(all[:form-1]...))
		which := c.next(len(all[form-1]))
		imm := c.next(16384) - 8192
		switch {
		case isShift(op + which):
			imm = c.next(32)
		case form == 6 || form == 7:
			imm = c.next(n) - place
		}
		i, text := made(op+which, form, all[form-1][which], c.next(16), c.next(16), c.next(16), imm)
		p.Code = append(p.Code, i)
		want += text + "\n"
	}
	return p, want
}

// P901, P902: programs of all kinds are shown as they are to be, and read back.
func TestManyPrograms(t *testing.T) {
	c := chance(901)
	for range 3000 {
		p, want := c.some(1 + c.next(40))
		if got := Text(p); got != want {
			t.Fatalf("Text(%v) = %q, want %q", p, got, want)
		}
		isRead(t, p)
	}
}

// P902: each instruction is read back from its own text.
func TestEachInstructionIsRead(t *testing.T) {
	for text, i := range few() {
		place := max(-i.Imm, 0)
		p := api.Program{Code: slices.Repeat([]api.Ins{halt}, 40)}
		p.Code[place] = i
		isRead(t, p)
		if got := Ins(i); got != text || !strings.Contains(Text(p), "\n"+got+"\n") {
			t.Errorf("the text of %v has no line %q", p, got)
		}
	}
}

// P902: the same argument has the same answer, whatever was asked between.
func TestSameAnswers(t *testing.T) {
	c := chance(902)
	var programs []api.Program
	var cells []api.Cell
	for range 50 {
		p, _ := c.some(1 + c.next(9))
		programs = append(programs, p)
		cells = append(cells, api.Cell{Kind: c.next(14), Ins: p.Code[0], Reg: c.next(18) - 1})
	}
	programs[7].Size, cells[7].Ins.Op = -1, 0
	ask := func(k int) [3]string { return [3]string{Text(programs[k]), Ins(cells[k].Ins), Cell(cells[k])} }
	var first [][3]string
	for k := range programs {
		first = append(first, ask(k))
	}
	for k := len(programs) - 1; k >= 0; k-- {
		for range 2 {
			if got := ask(k); got != first[k] {
				t.Errorf("%q, and %q before", got, first[k])
			}
		}
	}
}

// P902: what is handed in stays as it is, the spare room of its lists, too.
func TestArgumentsStay(t *testing.T) {
	c := chance(903)
	for range 200 {
		p, _ := c.some(1 + c.next(9))
		code := append(slices.Clone(p.Code), halt, halt, halt)
		data := append(slices.Clone(p.Data), 9, 8, 7)
		handed := api.Program{Code: slices.Clone(code)[:len(p.Code)], Size: p.Size, Data: slices.Clone(data)[:len(p.Data)]}
		Text(handed)
		if !slices.Equal(handed.Code[:len(code)], code) || !slices.Equal(handed.Data[:len(data)], data) {
			t.Fatalf("Text(%v) changes what it is handed", p)
		}
	}
}

// P902: what is answered stays, whatever becomes of what was handed in.
func TestProgramsAreNotKept(t *testing.T) {
	c := chance(904)
	for range 200 {
		p, want := c.some(1 + c.next(9))
		got := Text(p)
		for i := range p.Code {
			p.Code[i] = halt
		}
		clear(p.Data)
		if got != want {
			t.Fatalf("the text becomes %q, want %q", got, want)
		}
		p.Data = nil
		writes(t, p, "size "+strconv.Itoa(p.Size)+"\n"+strings.Repeat("halt\n", len(p.Code)))
	}
}

// What is not one of the things that have a text has none.
func TestOtherThings(t *testing.T) {
	for _, x := range []any{nil, 1.5, true, []byte("a"), &halt, api.Block{}, register(16), register(-1)} {
		if got := shown(x); got != "" {
			t.Errorf("shown(%v) = %q", x, got)
		}
	}
}
