package isa

import (
	"math"
	"slices"
	"testing"

	"forerunner/api"
)

// ops is each operation as the chapter has it: its form and which fields this has.
var ops = []struct {
	op, form     int
	d, a, b, imm bool
}{
	{api.Add, 1, true, true, true, false},
	{api.Sub, 1, true, true, true, false},
	{api.And, 1, true, true, true, false},
	{api.Or, 1, true, true, true, false},
	{api.Xor, 1, true, true, true, false},
	{api.Sll, 1, true, true, true, false},
	{api.Srl, 1, true, true, true, false},
	{api.Sra, 1, true, true, true, false},
	{api.Slt, 1, true, true, true, false},
	{api.Sltu, 1, true, true, true, false},
	{api.Mul, 1, true, true, true, false},
	{api.Mulh, 1, true, true, true, false},
	{api.Div, 1, true, true, true, false},
	{api.Divu, 1, true, true, true, false},
	{api.Rem, 1, true, true, true, false},
	{api.Remu, 1, true, true, true, false},
	{api.Addi, 2, true, true, false, true},
	{api.Andi, 2, true, true, false, true},
	{api.Ori, 2, true, true, false, true},
	{api.Xori, 2, true, true, false, true},
	{api.Slti, 2, true, true, false, true},
	{api.Slli, 2, true, true, false, true},
	{api.Srli, 2, true, true, false, true},
	{api.Srai, 2, true, true, false, true},
	{api.Lui, 3, true, false, false, true},
	{api.Lw, 4, true, true, false, true},
	{api.Lh, 4, true, true, false, true},
	{api.Lhu, 4, true, true, false, true},
	{api.Lb, 4, true, true, false, true},
	{api.Lbu, 4, true, true, false, true},
	{api.Sw, 5, false, true, true, true},
	{api.Sh, 5, false, true, true, true},
	{api.Sb, 5, false, true, true, true},
	{api.Beq, 6, false, true, true, true},
	{api.Bne, 6, false, true, true, true},
	{api.Blt, 6, false, true, true, true},
	{api.Bge, 6, false, true, true, true},
	{api.Bltu, 6, false, true, true, true},
	{api.Bgeu, 6, false, true, true, true},
	{api.J, 7, false, false, false, true},
	{api.Halt, 8, false, false, false, false},
}

// wrongOps are numbers that are no operation; some have one's lowest bits.
var wrongOps = []int{
	math.MinInt, math.MinInt + 1, -1 << 32, -64, -41, -2, -1, 0,
	42, 43, 63, 64, 64 + api.Add, 256 + api.Halt, 1<<32 + api.Add, math.MaxInt - 1, math.MaxInt,
}

// farRegs are numbers that are no register; some have one's lowest bits.
var farRegs = []int{math.MinInt, -1 << 32, -16, -15, -1, 16, 17, 31, 32, 255, 256, 1 << 32, 1<<32 + 1, math.MaxInt}

// shifts tells whether the operation's number is one of places to shift by.
func shifts(op int) bool { return op == api.Slli || op == api.Srli || op == api.Srai }

// numbers are the edges and some others of those that the operation's Imm may be.
func numbers(op int) []int {
	if shifts(op) {
		return []int{0, 1, 2, 15, 16, 17, 30, 31}
	}
	return []int{-8192, -8191, -4097, -4096, -33, -32, -1, 0, 1, 31, 32, 63, 4095, 4096, 5461, 8190, 8191}
}

// farNumbers are those that the operation's Imm may not be; some have the lowest bits of one that may.
func farNumbers(op int) []int {
	far := []int{math.MinInt, -1 << 32, -16384, -8194, -8193, 8192, 8193, 16383, 16384, 1 << 31, 1 << 32, 1<<32 + 1, math.MaxInt}
	if shifts(op) {
		far = append(far, -8192, -32, -31, -2, -1, 32, 33, 63, 64, 8191)
	}
	return far
}

// sample is a Right instruction of the operation, each field that it has other than 0.
func sample(n int) api.Ins {
	i := api.Ins{Op: ops[n].op}
	if ops[n].d {
		i.D = 5
	}
	if ops[n].a {
		i.A = 6
	}
	if ops[n].b {
		i.B = 7
	}
	if ops[n].imm {
		i.Imm = 9
	}
	return i
}

// isRefused holds that each call takes an instruction for none.
func isRefused(t *testing.T, i api.Ins) {
	t.Helper()
	if Right(i) {
		t.Errorf("Right(%+v)", i)
	}
	if w, ok := Encode(i); w != 0 || ok {
		t.Errorf("Encode(%+v) = %#x, %v", i, w, ok)
	}
	if regs := Reads(i); len(regs) != 0 {
		t.Errorf("Reads(%+v) = %v", i, regs)
	}
	if reg := Writes(i); reg != 0 {
		t.Errorf("Writes(%+v) = %d", i, reg)
	}
}

// isTaken holds that an instruction is Right, and that its word, as the chapter has it, leads back to it.
func isTaken(t *testing.T, i api.Ins) {
	t.Helper()
	if !Right(i) {
		t.Errorf("not Right(%+v)", i)
	}
	// The word by sums alone: no two fields share a bit.
	want := i.Op*67108864 + i.D*4194304 + i.A*262144 + i.B*16384 + i.Imm
	if i.Imm < 0 {
		want += 16384
	}
	w, ok := Encode(i)
	if int(w) != want || !ok {
		t.Errorf("Encode(%+v) = %#x, %v, want %#x", i, w, ok, want)
	}
	if got, ok := Decode(uint32(want)); got != i || !ok {
		t.Errorf("Decode(%#x) = %+v, %v, want %+v", want, got, ok, i)
	}
}

// P201: the form of each operation; there are none but those of the chapter.
func TestFormOfEachOperation(t *testing.T) {
	if len(ops) != 41 {
		t.Fatalf("%d operations", len(ops))
	}
	for n, c := range ops {
		if c.op != n+1 {
			t.Fatalf("operation %d stands at %d", c.op, n)
		}
		if got := Form(c.op); got != c.form {
			t.Errorf("Form(%d) = %d, want %d", c.op, got, c.form)
		}
	}
	for _, op := range wrongOps {
		if got := Form(op); got != 0 {
			t.Errorf("Form(%d) = %d", op, got)
		}
	}
}

// P201: of each operation, all registers at the limits, each number at its limits and between.
func TestWhatIsRightIsTaken(t *testing.T) {
	for n, c := range ops {
		isTaken(t, api.Ins{Op: c.op})
		isTaken(t, sample(n))
		for reg := range 16 {
			i := sample(n)
			if c.d {
				i.D = reg
			}
			if c.a {
				i.A = 15 - reg
			}
			if c.b {
				i.B = reg ^ 5
			}
			if !c.imm {
				isTaken(t, i)
				continue
			}
			for _, number := range numbers(c.op) {
				i.Imm = number
				isTaken(t, i)
			}
		}
	}
}

// P201: what is no operation is not Right, with fields or without.
func TestWrongOperationsAreRefused(t *testing.T) {
	for _, op := range wrongOps {
		isRefused(t, api.Ins{Op: op})
		isRefused(t, api.Ins{Op: op, D: 1})
		isRefused(t, api.Ins{Op: op, D: 1, A: 2, B: 3})
		isRefused(t, api.Ins{Op: op, A: 2, B: 3, Imm: 4})
	}
}

// P201: registers one beyond the limits and further are refused in each field.
func TestWrongRegistersAreRefused(t *testing.T) {
	for n := range ops {
		for _, reg := range farRegs {
			i := sample(n)
			i.D = reg
			isRefused(t, i)
			i = sample(n)
			i.A = reg
			isRefused(t, i)
			i = sample(n)
			i.B = reg
			isRefused(t, i)
		}
	}
}

// P201: numbers one beyond the limits and further are refused; those of shifts have nearer limits.
func TestWrongNumbersAreRefused(t *testing.T) {
	for n, c := range ops {
		for _, number := range farNumbers(c.op) {
			i := sample(n)
			i.Imm = number
			isRefused(t, i)
			isRefused(t, api.Ins{Op: c.op, Imm: number})
		}
	}
}

// P201: a field that the form does not have is 0, or the instruction is not Right.
func TestFieldsThatAreNotHadAreRefused(t *testing.T) {
	for n, c := range ops {
		for _, other := range []int{-1, 1, 2, 8, 15} {
			for _, from := range []api.Ins{sample(n), {Op: c.op}} {
				d, a, b, imm := from, from, from, from
				d.D, a.A, b.B, imm.Imm = other, other, other, other
				if !c.d {
					isRefused(t, d)
				}
				if !c.a {
					isRefused(t, a)
				}
				if !c.b {
					isRefused(t, b)
				}
				if !c.imm {
					isRefused(t, imm)
				}
			}
		}
	}
}

// P201: words written out by hand.
func TestWordsByHand(t *testing.T) {
	cases := []struct {
		i api.Ins
		w uint32
	}{
		{api.Ins{Op: api.Add}, 0x04000000},
		{api.Ins{Op: api.Add, D: 1, A: 2, B: 3}, 0x0448c000},
		{api.Ins{Op: api.Remu, D: 15, A: 15, B: 15}, 0x43ffc000},
		{api.Ins{Op: api.Addi, D: 15, A: 15, Imm: -1}, 0x47fc3fff},
		{api.Ins{Op: api.Slli, D: 1, A: 1, Imm: 31}, 0x5844001f},
		{api.Ins{Op: api.Lui, D: 1, Imm: 8191}, 0x64401fff},
		{api.Ins{Op: api.Lui, D: 8, Imm: -8192}, 0x66002000},
		{api.Ins{Op: api.Lw, D: 2, A: 4, Imm: 8}, 0x68900008},
		{api.Ins{Op: api.Sb, A: 1, B: 2, Imm: -2}, 0x8404bffe},
		{api.Ins{Op: api.Beq, A: 0, B: 15, Imm: 1}, 0x8803c001},
		{api.Ins{Op: api.J, Imm: -8192}, 0xa0002000},
		{api.Ins{Op: api.Halt}, 0xa4000000},
	}
	for _, c := range cases {
		if w, ok := Encode(c.i); w != c.w || !ok {
			t.Errorf("Encode(%+v) = %#x, %v, want %#x", c.i, w, ok, c.w)
		}
		if i, ok := Decode(c.w); i != c.i || !ok {
			t.Errorf("Decode(%#x) = %+v, %v, want %+v", c.w, i, ok, c.i)
		}
	}
}

// P201: words that are no instruction: no operation, bits in fields that the form does not have, shifts too far.
func TestDecodeRefusesWhatIsNoInstruction(t *testing.T) {
	words := []uint32{
		0, 1, 0x00444000, 0x03ffffff,
		42 << 26, 42<<26 | 1, 63 << 26, 0xffffffff,
		41<<26 | 1, 41<<26 | 1<<13, 41<<26 | 1<<14, 41<<26 | 1<<18, 41<<26 | 1<<22,
		40<<26 | 1<<14, 40<<26 | 1<<18, 40<<26 | 1<<25,
		34<<26 | 1<<22, 39<<26 | 1<<25, 31<<26 | 1<<22, 33<<26 | 15<<22,
		26<<26 | 1<<14, 30<<26 | 1<<17, 25<<26 | 1<<18, 25<<26 | 1<<14,
		17<<26 | 1<<14, 24<<26 | 1<<17, 1<<26 | 1, 16<<26 | 1<<13,
		22<<26 | 32, 23<<26 | 32, 24<<26 | 32, 22<<26 | 8192, 23<<26 | 16383, 24<<26 | 16352,
	}
	for _, w := range words {
		if i, ok := Decode(w); i != (api.Ins{}) || ok {
			t.Errorf("Decode(%#x) = %+v, %v", w, i, ok)
		}
	}
}

// isInstruction tells by the table of operations alone whether a word is one.
func isInstruction(w uint32) bool {
	op := int(w / 67108864)
	if op < 1 || op > 41 {
		return false
	}
	c := ops[op-1]
	if !c.d && w&0x03c00000 != 0 || !c.a && w&0x003c0000 != 0 || !c.b && w&0x0003c000 != 0 || !c.imm && w&0x3fff != 0 {
		return false
	}
	return !shifts(op) || w&0x3fff < 32
}

// P201: over the whole of each field's edges, Decode tells just the instructions, and Encode leads back to the word.
func TestDecodeOverAllOperationsAndEdges(t *testing.T) {
	regs := []uint32{0, 1, 7, 8, 15}
	low := []uint32{0, 1, 2, 31, 32, 33, 63, 8191, 8192, 8193, 16352, 16382, 16383}
	for op := range uint32(64) {
		for _, d := range regs {
			for _, a := range regs {
				for _, b := range regs {
					for _, imm := range low {
						w := op<<26 | d<<22 | a<<18 | b<<14 | imm
						i, ok := Decode(w)
						if ok != isInstruction(w) || !ok && i != (api.Ins{}) {
							t.Fatalf("Decode(%#x) = %+v, %v", w, i, ok)
						}
						if back, is := Encode(i); ok && (back != w || !is) {
							t.Fatalf("Encode(Decode(%#x)) = %#x, %v", w, back, is)
						}
					}
				}
			}
		}
	}
}

// P201: every number that the lowest 14 bits hold comes back, with its sign.
func TestEachNumberComesBack(t *testing.T) {
	for number := -8192; number <= 8191; number++ {
		isTaken(t, api.Ins{Op: api.Addi, D: 15, Imm: number})
		isTaken(t, api.Ins{Op: api.J, Imm: number})
		if shift := (api.Ins{Op: api.Srai, A: 15, Imm: number}); number >= 0 && number <= 31 {
			isTaken(t, shift)
		} else {
			isRefused(t, shift)
		}
	}
}

// P201: what is read is A and B, as far as the form has them, in this order, twice if they are one, never 0.
func TestReadsOfEachOperation(t *testing.T) {
	pairs := [][2]int{{0, 0}, {0, 3}, {3, 0}, {3, 3}, {3, 9}, {9, 3}, {1, 15}, {15, 1}, {15, 15}, {0, 15}}
	for n, c := range ops {
		for _, pair := range pairs {
			i := sample(n)
			var want []int
			if c.a {
				i.A = pair[0]
				want = append(want, pair[0])
			}
			if c.b {
				i.B = pair[1]
				want = append(want, pair[1])
			}
			want = slices.DeleteFunc(want, func(reg int) bool { return reg == 0 })
			if got := Reads(i); !slices.Equal(got, want) {
				t.Errorf("Reads(%+v) = %v, want %v", i, got, want)
			}
		}
	}
}

// P201: what is written is D, if the form has it.
func TestWritesOfEachOperation(t *testing.T) {
	for n, c := range ops {
		for reg := range 16 {
			i, want := sample(n), 0
			if c.d {
				i.D, want = reg, reg
			}
			if got := Writes(i); got != want {
				t.Errorf("Writes(%+v) = %d, want %d", i, got, want)
			}
		}
	}
}

// P202: an answered list written to, or made longer, changes no other one.
func TestReadsAnswersNewLists(t *testing.T) {
	for _, i := range []api.Ins{
		{Op: api.Add, D: 1, A: 2, B: 3},
		{Op: api.Sub, A: 4, B: 4},
		{Op: api.Lw, D: 1, A: 2},
		{Op: api.Sw, B: 3},
		{Op: api.Halt},
	} {
		first, second := Reads(i), Reads(i)
		want := slices.Clone(second)
		_ = append(first, 99, 98)
		for n := range first {
			first[n] = 77
		}
		_ = append(second, 97)
		if got := Reads(i); !slices.Equal(second, want) || !slices.Equal(got, want) {
			t.Errorf("Reads(%+v) = %v and %v, want %v", i, second, got, want)
		}
	}
}

// P202: the same arguments have the same answers, whatever was asked between, of what is right and what is not.
func TestAnswersHangOnArgumentsAlone(t *testing.T) {
	i := api.Ins{Op: api.Sw, A: 2, B: 3, Imm: -4}
	w, ok := Encode(i)
	regs := Reads(i)
	for n := range 200 {
		other := api.Ins{Op: n - 60, D: n & 15, A: n >> 4, B: n % 17, Imm: n * 83}
		Form(n - 60)
		Right(other)
		Encode(other)
		Decode(uint32(n) * 21474836)
		Reads(other)
		Writes(other)
		if again, is := Encode(i); again != w || is != ok {
			t.Fatalf("after %d other calls Encode is %#x, %v", n, again, is)
		}
		if back, is := Decode(w); back != i || !is {
			t.Fatalf("after %d other calls Decode is %+v, %v", n, back, is)
		}
		if !slices.Equal(Reads(i), regs) || Writes(i) != 0 || !Right(i) || Form(i.Op) != 5 {
			t.Fatalf("after %d other calls an answer is another", n)
		}
		if Right(api.Ins{}) || Form(0) != 0 || Writes(api.Ins{D: 3}) != 0 || len(Reads(api.Ins{A: 3})) != 0 {
			t.Fatalf("after %d other calls what is none is one", n)
		}
	}
}
