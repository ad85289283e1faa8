package alu

import (
	"math"
	"math/big"
	"testing"

	"forerunner/api"
)

const (
	least = 0x80000000 // -2^31 as a word
	most  = 0x7fffffff // 2^31 - 1
	minus = 0xffffffff // -1
)

// neg is the word of a number below 0.
func neg(n uint32) uint32 { return -n }

// edges are words at which operations turn, and some others.
var edges = []uint32{
	0, 1, 2, 3, 7, 8, 15, 16, 30, 31, 32, 33, 63, 64, 0xff, 0x100, 8191, 8192, 0xfffe, 0xffff, 0x10000, 0x10001,
	0x12345678, 0x3fffffff, 0x40000000, 0x55555555, most - 1, most, least, least + 1, 0x87654321, 0xaaaaaaaa,
	0xbfffffff, 0xc0000000, 0xffff0000, neg(8193), neg(8192), neg(33), neg(32), neg(31), neg(8), neg(7), neg(3), neg(2), minus,
}

// threes and pairs are the operations of form 1, and those of form 2 with that of form 1 that each is like.
var (
	threes = []int{
		api.Add, api.Sub, api.And, api.Or, api.Xor, api.Sll, api.Srl, api.Sra, api.Slt, api.Sltu,
		api.Mul, api.Mulh, api.Div, api.Divu, api.Rem, api.Remu,
	}
	pairs = []struct{ number, three int }{
		{api.Addi, api.Add}, {api.Andi, api.And}, {api.Ori, api.Or}, {api.Xori, api.Xor},
		{api.Slti, api.Slt}, {api.Slli, api.Sll}, {api.Srli, api.Srl}, {api.Srai, api.Sra},
	}
	branches  = []int{api.Beq, api.Bne, api.Blt, api.Bge, api.Bltu, api.Bgeu}
	divisions = []int{api.Div, api.Divu, api.Rem, api.Remu}
	products  = []int{api.Mul, api.Mulh}
)

// wrongOps are numbers that are no operation; some have one's lowest bits.
var wrongOps = []int{
	math.MinInt, math.MinInt + api.Add, -1 << 32, -1<<32 + api.Div, -64 + api.Mul, -api.Beq, -api.Add, -1, 0,
	42, 43, 63, 64, 64 + api.Add, 64 + api.Div, 64 + api.Beq, 256 + api.Mul, 1<<32 + api.Add, 1<<32 + api.Bgeu, math.MaxInt,
}

// is holds that Do answers this, and that nothing was divided by 0.
func is(t *testing.T, i api.Ins, a, b, want uint32) {
	t.Helper()
	if got, ok := Do(i, a, b); got != want || !ok {
		t.Errorf("Do(%+v, %#x, %#x) = %#x, %v, want %#x, true", i, a, b, got, ok, want)
	}
}

// P301: each operation of two registers, ordinary words and edges, written out.
func TestDoOfTwoRegisters(t *testing.T) {
	cases := []struct {
		op         int
		a, b, want uint32
	}{
		{api.Add, 2, 3, 5}, {api.Add, minus, 1, 0}, {api.Add, most, 1, least}, {api.Add, least, least, 0}, {api.Add, minus, minus, neg(2)},
		{api.Sub, 5, 3, 2}, {api.Sub, 3, 5, neg(2)}, {api.Sub, 0, 1, minus}, {api.Sub, least, 1, most}, {api.Sub, 0, least, least},
		{api.And, 0xf0f0, 0xff00, 0xf000}, {api.And, minus, 0x1234, 0x1234}, {api.And, 0x1234, 0, 0},
		{api.Or, 0xf0f0, 0xff00, 0xfff0}, {api.Or, 0x1234, 0, 0x1234}, {api.Or, least, 1, least + 1},
		{api.Xor, 0xf0f0, 0xff00, 0x0ff0}, {api.Xor, minus, 0xf, 0xfffffff0}, {api.Xor, 0x1234, 0x1234, 0},
		{api.Sll, 3, 0, 3}, {api.Sll, 3, 4, 48}, {api.Sll, 1, 31, least}, {api.Sll, 3, 31, least}, {api.Sll, minus, 16, 0xffff0000},
		{api.Srl, 48, 4, 3}, {api.Srl, least, 31, 1}, {api.Srl, minus, 31, 1}, {api.Srl, 0xdeadbeef, 0, 0xdeadbeef}, {api.Srl, least, 1, 0x40000000},
		{api.Sra, 48, 4, 3}, {api.Sra, least, 31, minus}, {api.Sra, most, 31, 0}, {api.Sra, least, 1, 0xc0000000}, {api.Sra, neg(8), 2, neg(2)}, {api.Sra, neg(7), 1, neg(4)}, {api.Sra, minus, 0, minus},
		{api.Slt, 1, 2, 1}, {api.Slt, 2, 1, 0}, {api.Slt, 2, 2, 0}, {api.Slt, minus, 0, 1}, {api.Slt, 0, minus, 0}, {api.Slt, least, most, 1}, {api.Slt, most, least, 0},
		{api.Sltu, 1, 2, 1}, {api.Sltu, 2, 1, 0}, {api.Sltu, 2, 2, 0}, {api.Sltu, minus, 0, 0}, {api.Sltu, 0, minus, 1}, {api.Sltu, least, most, 0}, {api.Sltu, most, least, 1},
		{api.Mul, 6, 7, 42}, {api.Mul, minus, 5, neg(5)}, {api.Mul, minus, minus, 1}, {api.Mul, 0x10000, 0x10000, 0}, {api.Mul, 0x10001, 0x10001, 0x20001}, {api.Mul, least, minus, least}, {api.Mul, least, 2, 0},
		{api.Mulh, 6, 7, 0}, {api.Mulh, 0x10000, 0x10000, 1}, {api.Mulh, most, most, 0x3fffffff}, {api.Mulh, least, least, 0x40000000}, {api.Mulh, least, most, 0xc0000000}, {api.Mulh, most, least, 0xc0000000},
		{api.Mulh, minus, minus, 0}, {api.Mulh, minus, 1, minus}, {api.Mulh, 1, minus, minus}, {api.Mulh, least, minus, 0}, {api.Mulh, least, 1, minus}, {api.Mulh, 0, minus, 0}, {api.Mulh, least, 2, minus},
		{api.Div, 7, 2, 3}, {api.Div, neg(7), 2, neg(3)}, {api.Div, 7, neg(2), neg(3)}, {api.Div, neg(7), neg(2), 3}, {api.Div, 0, 5, 0}, {api.Div, 1, 2, 0}, {api.Div, minus, 2, 0}, {api.Div, least, minus, least}, {api.Div, least, 1, least}, {api.Div, most, minus, least + 1}, {api.Div, least, least, 1},
		{api.Divu, 7, 2, 3}, {api.Divu, neg(7), 2, 0x7ffffffc}, {api.Divu, 7, neg(2), 0}, {api.Divu, least, minus, 0}, {api.Divu, minus, least, 1}, {api.Divu, minus, 1, minus}, {api.Divu, minus, minus, 1},
		{api.Rem, 7, 2, 1}, {api.Rem, neg(7), 2, minus}, {api.Rem, 7, neg(2), 1}, {api.Rem, neg(7), neg(2), minus}, {api.Rem, 0, 5, 0}, {api.Rem, 3, 5, 3}, {api.Rem, least, minus, 0}, {api.Rem, least, most, minus}, {api.Rem, 5, least, 5},
		{api.Remu, 7, 2, 1}, {api.Remu, neg(7), 2, 1}, {api.Remu, 7, neg(2), 7}, {api.Remu, least, minus, least}, {api.Remu, minus, least, most}, {api.Remu, minus, 10, 5}, {api.Remu, minus, 1, 0},
	}
	for _, c := range cases {
		is(t, api.Ins{Op: c.op, D: 1, A: 2, B: 3}, c.a, c.b, c.want)
	}
}

// P301: only the second word's lowest five bits tell how far to shift.
func TestShiftsByThirtyTwoAndMore(t *testing.T) {
	for _, a := range edges {
		for _, more := range []uint32{32, 64, 0x100, 0x10000, least, neg(32)} {
			for by := range uint32(32) {
				sign := uint32(0)
				if a >= least {
					sign = ^(minus >> by)
				}
				is(t, api.Ins{Op: api.Sll, D: 1}, a, by+more, a<<by)
				is(t, api.Ins{Op: api.Srl, D: 1}, a, by+more, a>>by)
				is(t, api.Ins{Op: api.Sra, D: 1}, a, by+more, a>>by|sign)
			}
		}
	}
}

// long is a word as a number of any length, with its sign or without.
func long(w uint32, sign bool) *big.Int {
	if sign && w >= least {
		return big.NewInt(int64(w) - 1<<32)
	}
	return big.NewInt(int64(w))
}

// lowest is a long number's lowest 32 bits.
func lowest(n *big.Int) uint32 {
	return uint32(new(big.Int).And(n, big.NewInt(minus)).Uint64())
}

// worked is what an operation of two registers makes of words, worked out in long numbers; false: it is not told here, or divides by 0.
func worked(op int, a, b uint32) (uint32, bool) {
	sign := op != api.Divu && op != api.Remu
	x, y, n := long(a, sign), long(b, sign), new(big.Int)
	switch {
	case op == api.Add:
		n.Add(x, y)
	case op == api.Sub:
		n.Sub(x, y)
	case op == api.And:
		n.And(x, y)
	case op == api.Or:
		n.Or(x, y)
	case op == api.Xor:
		n.Xor(x, y)
	case op == api.Mul:
		n.Mul(x, y)
	case op == api.Mulh:
		n.Rsh(n.Mul(x, y), 32)
	case b == 0:
		return 0, false
	case op == api.Div || op == api.Divu:
		n.Quo(x, y)
	case op == api.Rem || op == api.Remu:
		n.Rem(x, y)
	default:
		return 0, false
	}
	return lowest(n), true
}

// P301: what is reckoned is what long numbers make of it, at all pairs of edges.
func TestDoIsAsLongNumbersHaveIt(t *testing.T) {
	told := 0
	for _, op := range threes {
		for _, a := range edges {
			for _, b := range edges {
				if want, ok := worked(op, a, b); ok {
					is(t, api.Ins{Op: op, D: 4, A: 5, B: 6}, a, b, want)
					told++
				}
			}
		}
	}
	if all := 11*len(edges)*len(edges) - 4*len(edges); told != all {
		t.Errorf("%d pairs were told, not %d", told, all)
	}
}

// P301: less is 1, all else 0, with signs and without, at all pairs of edges.
func TestLessIsOne(t *testing.T) {
	for _, a := range edges {
		for _, b := range edges {
			signed, plain := uint32(0), uint32(0)
			if long(a, true).Cmp(long(b, true)) < 0 {
				signed = 1
			}
			if long(a, false).Cmp(long(b, false)) < 0 {
				plain = 1
			}
			is(t, api.Ins{Op: api.Slt, D: 1}, a, b, signed)
			is(t, api.Ins{Op: api.Sltu, D: 1}, a, b, plain)
		}
	}
}

// P301: a division by 0 answers 0 and false, whatever is divided; nothing else does.
func TestDivisionByNought(t *testing.T) {
	for _, a := range edges {
		for _, op := range divisions {
			i := api.Ins{Op: op, D: 1, A: 2, B: 3}
			if got, ok := Do(i, a, 0); got != 0 || ok {
				t.Errorf("Do(%+v, %#x, 0) = %#x, %v", i, a, got, ok)
			}
			for _, b := range edges[1:] {
				if got, ok := Do(i, a, b); !ok {
					t.Errorf("Do(%+v, %#x, %#x) = %#x, false", i, a, b, got)
				}
			}
		}
		for _, op := range threes[:12] {
			if got, ok := Do(api.Ins{Op: op}, a, 0); !ok {
				t.Errorf("Do of %d, %#x and 0 = %#x, false", op, a, got)
			}
		}
	}
}

// P301: each operation with a number, Imm at its limits, written out; b is not looked at.
func TestDoOfANumber(t *testing.T) {
	cases := []struct {
		op, imm int
		a, want uint32
	}{
		{api.Addi, 3, 2, 5}, {api.Addi, -1, 0, minus}, {api.Addi, 8191, 1, 8192}, {api.Addi, -8192, 0, neg(8192)}, {api.Addi, 1, most, least}, {api.Addi, 1, minus, 0}, {api.Addi, 0, 77, 77},
		{api.Andi, 0xff, 0x1234, 0x34}, {api.Andi, -1, 0x12345678, 0x12345678}, {api.Andi, 8191, minus, 8191}, {api.Andi, -8192, minus, 0xffffe000}, {api.Andi, 0, minus, 0},
		{api.Ori, 0xff, 0x1200, 0x12ff}, {api.Ori, -1, 0, minus}, {api.Ori, 8191, least, least + 8191}, {api.Ori, -8192, 1, 0xffffe001}, {api.Ori, 0, 9, 9},
		{api.Xori, 0xff, 0x12f0, 0x120f}, {api.Xori, -1, 0x0000ffff, 0xffff0000}, {api.Xori, 8191, 8191, 0}, {api.Xori, -8192, 0, 0xffffe000}, {api.Xori, 0, 9, 9},
		{api.Slti, 3, 2, 1}, {api.Slti, 2, 2, 0}, {api.Slti, -1, neg(2), 1}, {api.Slti, -1, minus, 0}, {api.Slti, -1, 0, 0}, {api.Slti, 0, minus, 1}, {api.Slti, 8191, 8190, 1}, {api.Slti, 8191, 8191, 0}, {api.Slti, -8192, least, 1}, {api.Slti, -8192, neg(8192), 0}, {api.Slti, -8192, most, 0},
		{api.Slli, 0, 5, 5}, {api.Slli, 4, 3, 48}, {api.Slli, 31, 3, least},
		{api.Srli, 0, minus, minus}, {api.Srli, 4, least, 0x08000000}, {api.Srli, 31, minus, 1},
		{api.Srai, 0, minus, minus}, {api.Srai, 4, least, 0xf8000000}, {api.Srai, 31, least, minus}, {api.Srai, 31, most, 0},
	}
	for _, c := range cases {
		for _, b := range []uint32{0, 1, 5, least, minus} {
			is(t, api.Ins{Op: c.op, D: 1, A: 2, Imm: c.imm}, c.a, b, c.want)
		}
	}
}

// P301: an operation with a number answers what the one of two registers does of that number's word.
func TestANumberIsAsARegister(t *testing.T) {
	for _, p := range pairs {
		for imm := -8192; imm <= 8191; imm++ {
			by := p.number == api.Slli || p.number == api.Srli || p.number == api.Srai
			if by && (imm < 0 || imm > 31) {
				continue
			}
			for _, a := range []uint32{0, 5, 8191, most, least, 0x87654321, neg(8192), minus} {
				want, _ := Do(api.Ins{Op: p.three}, a, uint32(imm))
				is(t, api.Ins{Op: p.number, Imm: imm}, a, ^uint32(imm), want)
			}
		}
	}
}

// P301: Lui is Imm times 2^18, whatever a and b are.
func TestLuiIsImmTimes(t *testing.T) {
	for imm, want := range map[int]uint32{
		0: 0, 1: 0x40000, 2: 0x80000, 5461: 0x55540000, 8191: 0x7ffc0000,
		-1: 0xfffc0000, -2: 0xfff80000, -8191: 0x80040000, -8192: least,
	} {
		for _, w := range edges {
			is(t, api.Ins{Op: api.Lui, D: 1, Imm: imm}, w, ^w, want)
		}
	}
	for imm := -8192; imm <= 8191; imm++ {
		want := lowest(new(big.Int).Mul(big.NewInt(int64(imm)), big.NewInt(1<<18)))
		is(t, api.Ins{Op: api.Lui, D: 15, Imm: imm}, 3, 4, want)
	}
}

// P301: the registers' numbers, 0 and alike ones too, turn nothing: a and b are what is reckoned.
func TestRegistersTurnNothing(t *testing.T) {
	for d := range 16 {
		for r := range 16 {
			is(t, api.Ins{Op: api.Sub, D: d, A: r, B: 15 - r}, 9, 4, 5)
			is(t, api.Ins{Op: api.Sub, D: d, A: r, B: r}, 9, 4, 5)
			is(t, api.Ins{Op: api.Addi, D: d, A: r, Imm: -4}, 9, 7, 5)
			is(t, api.Ins{Op: api.Lui, D: d, Imm: 3}, 9, 4, 3<<18)
		}
	}
}

// P301: loads, stores, branches, jumps and halts are not reckoned: 0, true.
func TestOtherFormsAnswerNought(t *testing.T) {
	for _, i := range []api.Ins{
		{Op: api.Lw, D: 1, A: 2, Imm: 3}, {Op: api.Lh, D: 1, A: 2}, {Op: api.Lhu, A: 2}, {Op: api.Lb, D: 1}, {Op: api.Lbu, Imm: -8192},
		{Op: api.Sw, A: 2, B: 3, Imm: 4}, {Op: api.Sh, A: 2}, {Op: api.Sb, B: 3},
		{Op: api.Beq, A: 2, B: 3, Imm: 4}, {Op: api.Bne, A: 2}, {Op: api.Blt, B: 3}, {Op: api.Bge, Imm: -1}, {Op: api.Bltu}, {Op: api.Bgeu},
		{Op: api.J, Imm: 8191}, {Op: api.J}, {Op: api.Halt},
	} {
		for _, w := range edges {
			is(t, i, w, 5, 0)
			is(t, i, 5, w, 0)
		}
	}
}

// P301: what is not Right is not reckoned, by 0 neither: 0, true.
func TestWhatIsNotRightAnswersNought(t *testing.T) {
	var wrong []api.Ins
	for _, op := range threes {
		wrong = append(wrong, api.Ins{Op: op, D: 16}, api.Ins{Op: op, A: -1}, api.Ins{Op: op, B: 16}, api.Ins{Op: op, Imm: 1}, api.Ins{Op: op, Imm: -1})
	}
	for _, p := range pairs {
		wrong = append(wrong, api.Ins{Op: p.number, D: -1}, api.Ins{Op: p.number, A: 16}, api.Ins{Op: p.number, B: 1},
			api.Ins{Op: p.number, Imm: 8192}, api.Ins{Op: p.number, Imm: -8193}, api.Ins{Op: p.number, Imm: math.MinInt}, api.Ins{Op: p.number, Imm: 1<<32 + 1})
	}
	for _, op := range []int{api.Slli, api.Srli, api.Srai} {
		wrong = append(wrong, api.Ins{Op: op, Imm: 32}, api.Ins{Op: op, Imm: -1}, api.Ins{Op: op, Imm: 33}, api.Ins{Op: op, Imm: 8191})
	}
	wrong = append(wrong, api.Ins{Op: api.Lui, D: 16, Imm: 1}, api.Ins{Op: api.Lui, A: 1, Imm: 1}, api.Ins{Op: api.Lui, B: 1, Imm: 1},
		api.Ins{Op: api.Lui, Imm: 8192}, api.Ins{Op: api.Lui, Imm: -8193}, api.Ins{Op: api.Lui, Imm: math.MaxInt})
	for _, op := range wrongOps {
		wrong = append(wrong, api.Ins{Op: op}, api.Ins{Op: op, D: 1, A: 2, B: 3}, api.Ins{Op: op, D: 1, A: 2, Imm: 4})
	}
	for _, i := range wrong {
		for _, b := range []uint32{0, 1, 5, least, minus} {
			is(t, i, 7, b, 0)
			is(t, i, minus, b, 0)
		}
	}
}

// P301: each branch, at all pairs of edges, as long numbers have it.
func TestTakenOfEachBranch(t *testing.T) {
	for _, a := range edges {
		for _, b := range edges {
			signed, plain := long(a, true).Cmp(long(b, true)), long(a, false).Cmp(long(b, false))
			wants := []bool{plain == 0, plain != 0, signed < 0, signed >= 0, plain < 0, plain >= 0}
			for n, op := range branches {
				if got := Taken(op, a, b); got != wants[n] {
					t.Errorf("Taken(%d, %#x, %#x) = %v, want %v", op, a, b, got, wants[n])
				}
			}
		}
	}
}

// P301: what is no branch, or no operation, is not taken.
func TestOthersAreNotTaken(t *testing.T) {
	others := append([]int{api.J, api.Halt}, wrongOps...)
	for op := 1; op < api.Beq; op++ {
		others = append(others, op)
	}
	for _, op := range others {
		for _, a := range []uint32{0, 1, 5, least, minus} {
			for _, b := range []uint32{0, 1, 5, least, minus} {
				if Taken(op, a, b) {
					t.Errorf("Taken(%d, %#x, %#x)", op, a, b)
				}
			}
		}
	}
}

// noise is a Config whose other fields would be seen, were they taken.
func noise(mul, div int) api.Config {
	return api.Config{Ldq: 21, Sdq: 22, Aeq: 23, Abq: 24, Ebq: 25, Saq: 26, Banks: 27, Flight: 28, Slip: 29, Lat: 30, Mul: mul, Div: div}
}

// takes holds that operations take so many cycles.
func takes(t *testing.T, c api.Config, ops []int, want int) {
	t.Helper()
	for _, op := range ops {
		if got := Latency(c, op); got != want {
			t.Errorf("Latency of %d, Mul %d, Div %d = %d, want %d", op, c.Mul, c.Div, got, want)
		}
	}
}

// P301: products take Mul, divisions Div, from 1 to 50; beyond these 1.
func TestLatencyOfUnits(t *testing.T) {
	for n := 1; n <= 50; n++ {
		takes(t, noise(n, 51-n), products, n)
		takes(t, noise(51-n, n), divisions, n)
	}
	for _, far := range []int{math.MinInt, -1 << 32, -1<<32 + 5, -50, -1, 0, 51, 52, 64, 100, 256 + 7, 1000, 1<<32 + 5, math.MaxInt} {
		takes(t, noise(far, 9), products, 1)
		takes(t, noise(far, 9), divisions, 9)
		takes(t, noise(9, far), divisions, 1)
		takes(t, noise(9, far), products, 9)
	}
}

// P301: all else takes 1 cycle, and so does what is no operation.
func TestLatencyOfOthers(t *testing.T) {
	var others []int
	for op := 1; op <= api.Halt; op++ {
		if op < api.Mul || op > api.Remu {
			others = append(others, op)
		}
	}
	for _, c := range []api.Config{{}, noise(7, 9), noise(50, 50), noise(-1, 51)} {
		takes(t, c, others, 1)
		takes(t, c, wrongOps, 1)
	}
}

// P302: the same arguments have the same answers, whatever was asked between.
func TestAnswersHangOnArgumentsAlone(t *testing.T) {
	rem := api.Ins{Op: api.Rem, D: 1, A: 2, B: 3}
	for n := range 500 {
		op, w := n%60-5, uint32(n)*0x9e3779b9
		other := api.Ins{Op: op, D: n & 15, A: n >> 5, B: n % 3, Imm: n%7 - 3}
		Do(other, w, uint32(n&1))
		Do(api.Ins{Op: op}, w, ^w)
		Do(rem, w, 0)
		Taken(op, w, w>>1)
		Latency(noise(n, n+1), op)
		is(t, rem, neg(7), 4, neg(3))
		is(t, api.Ins{Op: api.Lui, Imm: -3}, w, w, neg(3<<18))
		is(t, api.Ins{Op: api.Halt}, w, w, 0)
		if got, ok := Do(rem, 7, 0); got != 0 || ok {
			t.Fatalf("after %d other calls a rest by 0 is %#x, %v", n, got, ok)
		}
		if !Taken(api.Blt, minus, 0) || Taken(api.Bltu, minus, 0) || Latency(noise(7, 9), api.Rem) != 9 || Latency(api.Config{}, api.Mul) != 1 {
			t.Fatalf("after %d other calls an answer is another", n)
		}
	}
}
