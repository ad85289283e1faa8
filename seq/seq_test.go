package seq

import (
	"math"
	"slices"
	"testing"

	"forerunner/api"
)

const (
	low  = 0x80000000 // the word that is -2^31
	ones = 0xffffffff // the word that is -1
)

// old is a trap that a result without an end was handed in with.
var old = api.Trap{Kind: 9, Step: 8, Pc: -7}

// same tells whether two results are the same.
func same(a, b api.Result) bool {
	return a.End == b.End && a.Trap == b.Trap && a.Steps == b.Steps && a.Regs == b.Regs && slices.Equal(a.Mem, b.Mem) && slices.Equal(a.Writes, b.Writes)
}

// clone is a result with lists of its own.
func clone(r api.Result) api.Result {
	r.Mem, r.Writes = slices.Clone(r.Mem), slices.Clone(r.Writes)
	return r
}

// copyOf is a program with lists of its own.
func copyOf(p api.Program) api.Program {
	p.Code, p.Data = slices.Clone(p.Code), slices.Clone(p.Data)
	return p
}

// sameProgram tells whether two programs are the same.
func sameProgram(a, b api.Program) bool {
	return slices.Equal(a.Code, b.Code) && a.Size == b.Size && slices.Equal(a.Data, b.Data)
}

// full is a result without an end, with something in each of its other fields.
func full(size int) api.Result {
	r := api.Result{Trap: old, Steps: 40, Mem: make([]byte, size), Writes: []api.Write{{Addr: 77, Size: 4, Val: 5}, {Addr: -3, Size: 9, Val: ones}}}
	for k := range r.Regs {
		r.Regs[k] = uint32(0x1000 + k)
	}
	for k := range r.Mem {
		r.Mem[k] = byte(0xa0 + k)
	}
	return r
}

// at is a program of eight instructions, i at place 4, Halt at the others.
func at(i api.Ins, size int) api.Program {
	halt := api.Ins{Op: api.Halt}
	return api.Program{Code: []api.Ins{halt, halt, halt, halt, i, halt, halt, halt}, Size: size}
}

// goes holds that Step answers this, and that what is handed in stays.
func goes(t *testing.T, p api.Program, r api.Result, pc int, want api.Result, next int) {
	t.Helper()
	program, result := copyOf(p), clone(r)
	got, to := Step(p, r, pc)
	if !same(got, want) || to != next {
		t.Errorf("Step of %+v at %d from %+v:\n%+v, %d, want\n%+v, %d", p, pc, result, got, to, want, next)
	}
	if !sameProgram(p, program) || !same(r, result) {
		t.Errorf("Step of %+v at %d changes what is handed in: %+v, %+v", program, pc, p, r)
	}
}

// stays holds that Step answers the result as it is.
func stays(t *testing.T, p api.Program, r api.Result, pc int) {
	t.Helper()
	goes(t, p, r, pc, clone(r), pc)
}

// traps holds that Step answers a trap, and all else as it was.
func traps(t *testing.T, p api.Program, r api.Result, pc, kind int) {
	t.Helper()
	want := clone(r)
	want.End, want.Trap = api.ETrap, api.Trap{Kind: kind, Step: r.Steps, Pc: pc}
	goes(t, p, r, pc, want, pc)
}

// P601: each operation that reckons: its register, one step more, the next place, and nothing else.
func TestStepReckons(t *testing.T) {
	for _, c := range []struct {
		op   int
		a, b uint32
		imm  int
		want uint32
	}{
		{op: api.Add, a: ones, b: 3, want: 2},
		{op: api.Sub, a: 3, b: 5, want: 0xfffffffe},
		{op: api.And, a: 12, b: 10, want: 8},
		{op: api.Or, a: 12, b: 10, want: 14},
		{op: api.Xor, a: 12, b: 10, want: 6},
		{op: api.Sll, a: 3, b: 33, want: 6},
		{op: api.Srl, a: low, b: 31, want: 1},
		{op: api.Sra, a: low, b: 31, want: ones},
		{op: api.Slt, a: ones, b: 0, want: 1},
		{op: api.Sltu, a: ones, b: 0, want: 0},
		{op: api.Mul, a: 0x10001, b: 0x10001, want: 0x20001},
		{op: api.Mulh, a: ones, b: 5, want: ones},
		{op: api.Div, a: 0xfffffff9, b: 2, want: 0xfffffffd},
		{op: api.Div, a: low, b: ones, want: low},
		{op: api.Divu, a: 0xfffffff9, b: 2, want: 0x7ffffffc},
		{op: api.Rem, a: 0xfffffff9, b: 2, want: ones},
		{op: api.Rem, a: low, b: ones, want: 0},
		{op: api.Remu, a: 0xfffffff9, b: 2, want: 1},
		{op: api.Addi, a: 5, imm: -8192, want: 0xffffe005},
		{op: api.Andi, a: 0x12345678, imm: -16, want: 0x12345670},
		{op: api.Ori, a: 0x12345678, imm: 8191, want: 0x12345fff},
		{op: api.Xori, a: 0x12345678, imm: -1, want: 0xedcba987},
		{op: api.Slti, a: low, imm: -8192, want: 1},
		{op: api.Slli, a: 3, imm: 31, want: low},
		{op: api.Srli, a: low, imm: 31, want: 1},
		{op: api.Srai, a: low, imm: 30, want: 0xfffffffe},
		{op: api.Lui, imm: 5, want: 5 << 18},
		{op: api.Lui, imm: -8192, want: low},
	} {
		i := api.Ins{Op: c.op, D: 7, A: 9, B: 14, Imm: c.imm}
		if c.op >= api.Addi {
			i.B = 0
		}
		if c.op == api.Lui {
			i.A = 0
		}
		r := full(8)
		r.Regs[9], r.Regs[14] = c.a, c.b
		want := clone(r)
		want.Regs[7], want.Steps = c.want, 41
		goes(t, at(i, 8), r, 4, want, 5)
	}
}

// P601: a register that is read and written in one step is read first.
func TestStepReadsAheadOfWriting(t *testing.T) {
	for _, c := range []struct {
		i    api.Ins
		want uint32
	}{
		{api.Ins{Op: api.Add, D: 5, A: 5, B: 5}, 8},
		{api.Ins{Op: api.Sub, D: 5, A: 6, B: 5}, 2},
		{api.Ins{Op: api.Sub, D: 5, A: 5, B: 6}, 0xfffffffe},
		{api.Ins{Op: api.Addi, D: 5, A: 5, Imm: 3}, 7},
		{api.Ins{Op: api.Lbu, D: 5, A: 5, Imm: 1}, 0xa5},
	} {
		r := full(8)
		r.Regs[5], r.Regs[6] = 4, 6
		want := clone(r)
		want.Regs[5], want.Steps = c.want, 41
		goes(t, at(c.i, 8), r, 4, want, 5)
	}
}

// P601: every register may be written and read, each for itself.
func TestStepKnowsEachRegister(t *testing.T) {
	for d := 1; d < 16; d++ {
		for a := 1; a < 16; a++ {
			for b := 1; b < 16; b++ {
				r := full(4)
				want := clone(r)
				want.Regs[d], want.Steps = uint32(a-b), 41
				goes(t, at(api.Ins{Op: api.Sub, D: d, A: a, B: b}, 4), r, 4, want, 5)
			}
		}
	}
}

// P601: register 0 is read as 0, whatever the result has in it, by every kind of instruction that reads.
func TestStepReadsRegister0AsNought(t *testing.T) {
	for _, c := range []struct {
		i       api.Ins
		reg     int
		val     uint32
		further int
	}{
		{api.Ins{Op: api.Add, D: 3, A: 0, B: 4}, 3, 0x1004, 1},
		{api.Ins{Op: api.Add, D: 3, A: 4, B: 0}, 3, 0x1004, 1},
		{api.Ins{Op: api.Xor, D: 3}, 3, 0, 1},
		{api.Ins{Op: api.Addi, D: 3, Imm: 9}, 3, 9, 1},
		{api.Ins{Op: api.Lui, D: 3, Imm: 1}, 3, 1 << 18, 1},
		{api.Ins{Op: api.Lbu, D: 3, Imm: 2}, 3, 0xa2, 1},
		{api.Ins{Op: api.Beq, Imm: 3}, 3, 0x1003, 3},
		{api.Ins{Op: api.Bltu, A: 0, B: 4, Imm: 3}, 3, 0x1003, 3},
		{api.Ins{Op: api.Bltu, A: 4, B: 0, Imm: 3}, 3, 0x1003, 1},
	} {
		r := full(8)
		r.Regs[0] = ones
		want := clone(r)
		want.Regs[c.reg], want.Steps = c.val, 41
		goes(t, at(c.i, 8), r, 4, want, 4+c.further)
	}
	r := full(8)
	r.Regs[0] = 0x55555557
	want := clone(r)
	want.Mem[4], want.Mem[5], want.Steps = 0, 0, 41
	want.Writes = append(want.Writes, api.Write{Addr: 4, Size: 2})
	goes(t, at(api.Ins{Op: api.Sh, Imm: 4}, 8), r, 4, want, 5)
	for _, op := range []int{api.Div, api.Divu, api.Rem, api.Remu} {
		traps(t, at(api.Ins{Op: op, D: 3, A: 4}, 8), r, 4, api.TDiv)
	}
}

// P601: register 0 is not written: what the result has in it stays, and the step is done like others.
func TestStepLeavesRegister0(t *testing.T) {
	for _, i := range []api.Ins{
		{Op: api.Add, A: 4, B: 5}, {Op: api.Mulh, A: 4, B: 5}, {Op: api.Div, A: 4, B: 5}, {Op: api.Addi, A: 4, Imm: 9}, {Op: api.Lui, Imm: 3},
		{Op: api.Lw, Imm: 4}, {Op: api.Lh, Imm: 2}, {Op: api.Lhu, Imm: 2}, {Op: api.Lb, Imm: 1}, {Op: api.Lbu, Imm: 1},
	} {
		for _, w := range []uint32{0, 0x1000, ones} {
			r := full(8)
			r.Regs[0] = w
			want := clone(r)
			want.Steps = 41
			goes(t, at(i, 8), r, 4, want, 5)
		}
	}
	r := full(8)
	r.Regs[9], r.Regs[10] = 8, 2
	traps(t, at(api.Ins{Op: api.Lw, A: 9}, 8), r, 4, api.TRange)
	traps(t, at(api.Ins{Op: api.Lw, A: 10}, 8), r, 4, api.TMis)
}

// P601: each load has its bytes, with the sign or without, and is no write.
func TestStepLoads(t *testing.T) {
	mem := []byte{0x80, 0x7f, 0xfe, 0xff, 0x11, 0x22, 0x33, 0x84}
	for _, c := range []struct {
		op   int
		a    uint32
		imm  int
		want uint32
	}{
		{api.Lw, 4, 0, 0x84332211},
		{api.Lw, 8, -8, 0xfffe7f80},
		{api.Lh, 5, 1, 0xffff8433},
		{api.Lh, 0, 0, 0x7f80},
		{api.Lhu, 7, -1, 0x8433},
		{api.Lhu, 2, 0, 0xfffe},
		{api.Lb, 7, 0, 0xffffff84},
		{api.Lb, 0, 1, 0x7f},
		{api.Lbu, 7, 0, 0x84},
		{api.Lbu, 6, -6, 0x80},
	} {
		r := full(8)
		copy(r.Mem, mem)
		r.Regs[2] = c.a
		want := clone(r)
		want.Regs[1], want.Steps = c.want, 41
		goes(t, at(api.Ins{Op: c.op, D: 1, A: 2, Imm: c.imm}, 8), r, 4, want, 5)
	}
}

// P601: each store turns its bytes alone, and is the last write: its address, its size, its lowest bytes.
func TestStepStores(t *testing.T) {
	for _, c := range []struct {
		op   int
		a    uint32
		imm  int
		b    uint32
		want api.Write
	}{
		{api.Sw, 4, 0, 0xf4e3d2c1, api.Write{Addr: 4, Size: 4, Val: 0xf4e3d2c1}},
		{api.Sw, 8, -8, 7, api.Write{Addr: 0, Size: 4, Val: 7}},
		{api.Sh, 1, 1, 0xf4e3d2c1, api.Write{Addr: 2, Size: 2, Val: 0xd2c1}},
		{api.Sh, 7, -1, 0xffff0000, api.Write{Addr: 6, Size: 2, Val: 0}},
		{api.Sb, 7, 0, 0xf4e3d2c1, api.Write{Addr: 7, Size: 1, Val: 0xc1}},
		{api.Sb, 0, 3, 0xffffff00, api.Write{Addr: 3, Size: 1, Val: 0}},
		{api.Sb, 8, -8, 0xff, api.Write{Addr: 0, Size: 1, Val: 0xff}},
	} {
		r := full(8)
		r.Regs[2], r.Regs[3] = c.a, c.b
		want := clone(r)
		for k := range c.want.Size {
			want.Mem[c.want.Addr+k] = byte(c.b >> (8 * k))
		}
		want.Writes = append(want.Writes, c.want)
		want.Steps = 41
		goes(t, at(api.Ins{Op: c.op, A: 2, B: 3, Imm: c.imm}, 8), r, 4, want, 5)
	}
}

// P601: what a store leaves as it was is a write, too; the first one of a result is one.
func TestStepStoresWhatWasThere(t *testing.T) {
	r := api.Result{Mem: []byte{1, 2, 3, 4}}
	r.Regs[1] = 0x04030201
	want := clone(r)
	want.Steps, want.Writes = 1, []api.Write{{Addr: 0, Size: 4, Val: 0x04030201}}
	goes(t, api.Program{Code: []api.Ins{{Op: api.Sw, B: 1}}, Size: 4}, r, 0, want, 1)
	want.Steps, want.Writes = 2, append(want.Writes, api.Write{Addr: 0, Size: 4, Val: 0x04030201})
	r.Steps, r.Writes = 1, want.Writes[:1:1]
	goes(t, api.Program{Code: []api.Ins{{Op: api.Sw, B: 1}}, Size: 4}, r, 0, want, 1)
}

// P601: the address is a word: A and Imm together go round at 2^32, both ways.
func TestStepAddressesGoRound(t *testing.T) {
	r := full(8)
	r.Regs[1], r.Regs[2] = 0xfffffffc, 4
	want := clone(r)
	want.Regs[3], want.Steps = 0xa7a6a5a4, 41
	goes(t, at(api.Ins{Op: api.Lw, D: 3, A: 1, Imm: 8}, 8), r, 4, want, 5)
	want = clone(r)
	want.Mem[0], want.Steps = 4, 41
	want.Writes = append(want.Writes, api.Write{Addr: 0, Size: 1, Val: 4})
	goes(t, at(api.Ins{Op: api.Sb, A: 1, B: 2, Imm: 4}, 8), r, 4, want, 5)
	for _, op := range []int{api.Lw, api.Lh, api.Lhu, api.Lb, api.Lbu} {
		traps(t, at(api.Ins{Op: op, D: 3, A: 1}, 8), r, 4, api.TRange)
		traps(t, at(api.Ins{Op: op, D: 3, A: 2, Imm: -8}, 8), r, 4, api.TRange)
		traps(t, at(api.Ins{Op: op, D: 3, Imm: -4}, 8), r, 4, api.TRange)
	}
	for _, op := range []int{api.Sw, api.Sh, api.Sb} {
		traps(t, at(api.Ins{Op: op, B: 3, A: 1}, 8), r, 4, api.TRange)
		traps(t, at(api.Ins{Op: op, B: 3, A: 2, Imm: -8}, 8), r, 4, api.TRange)
		traps(t, at(api.Ins{Op: op, B: 3, Imm: -4}, 8), r, 4, api.TRange)
	}
}

// P601: each branch, taken and not, ahead, back and to itself; nothing but the step and the place turns.
func TestStepBranches(t *testing.T) {
	for _, c := range []struct {
		op    int
		a, b  uint32
		taken bool
	}{
		{api.Beq, 5, 5, true}, {api.Beq, 5, 6, false},
		{api.Bne, 5, 6, true}, {api.Bne, 5, 5, false},
		{api.Blt, ones, 0, true}, {api.Blt, 0, ones, false}, {api.Blt, 5, 5, false},
		{api.Bge, 0, ones, true}, {api.Bge, ones, 0, false}, {api.Bge, 5, 5, true},
		{api.Bltu, 0, ones, true}, {api.Bltu, ones, 0, false}, {api.Bltu, 5, 5, false},
		{api.Bgeu, ones, 0, true}, {api.Bgeu, 0, ones, false}, {api.Bgeu, 5, 5, true},
	} {
		for off := -4; off < 4; off++ {
			r := full(8)
			r.Regs[2], r.Regs[3] = c.a, c.b
			want := clone(r)
			want.Steps = 41
			next := 5
			if c.taken {
				next = 4 + off
			}
			goes(t, at(api.Ins{Op: c.op, A: 2, B: 3, Imm: off}, 8), r, 4, want, next)
		}
	}
}

// P601: a jump goes ahead, back and to itself.
func TestStepJumps(t *testing.T) {
	for off := -4; off < 4; off++ {
		r := full(8)
		want := clone(r)
		want.Steps = 41
		goes(t, at(api.Ins{Op: api.J, Imm: off}, 8), r, 4, want, 4+off)
	}
}

// P601: Halt is a step, and the place stays; a trap that was handed in, too.
func TestStepHalts(t *testing.T) {
	for pc := range 8 {
		r := full(8)
		want := clone(r)
		want.End, want.Steps = api.EHalt, 41
		goes(t, at(api.Ins{Op: api.Halt}, 8), r, pc, want, pc)
	}
}

// P601: an address that is no multiple, or not in memory, traps, and nothing of the step is done; the multiple is told first.
func TestStepTrapsAtAddresses(t *testing.T) {
	for _, c := range []struct {
		op   int
		a    uint32
		kind int
	}{
		{api.Lw, 1, api.TMis}, {api.Lw, 2, api.TMis}, {api.Lw, 7, api.TMis}, {api.Lw, 8, api.TRange}, {api.Lw, 10, api.TMis}, {api.Lw, low, api.TRange}, {api.Lw, ones, api.TMis},
		{api.Lh, 1, api.TMis}, {api.Lh, 8, api.TRange}, {api.Lh, 9, api.TMis}, {api.Lhu, 5, api.TMis}, {api.Lhu, 10, api.TRange}, {api.Lhu, ones, api.TMis},
		{api.Lb, 8, api.TRange}, {api.Lb, 9, api.TRange}, {api.Lbu, 8, api.TRange}, {api.Lbu, ones, api.TRange},
		{api.Sw, 1, api.TMis}, {api.Sw, 2, api.TMis}, {api.Sw, 8, api.TRange}, {api.Sw, 11, api.TMis}, {api.Sw, low, api.TRange},
		{api.Sh, 3, api.TMis}, {api.Sh, 8, api.TRange}, {api.Sh, 9, api.TMis}, {api.Sb, 8, api.TRange}, {api.Sb, ones, api.TRange},
	} {
		i := api.Ins{Op: c.op, D: 5, A: 2}
		if c.op >= api.Sw {
			i.D, i.B = 0, 5
		}
		r := full(8)
		r.Regs[2] = c.a
		traps(t, at(i, 8), r, 4, c.kind)
	}
}

// P601: a memory whose length is no multiple of a word: its last bytes are reached by what fits alone.
func TestStepTrapsAtTheEndOfMemory(t *testing.T) {
	for size := range 9 {
		for _, op := range []int{api.Lw, api.Lhu, api.Lbu} {
			n := map[int]int{api.Lw: 4, api.Lhu: 2, api.Lbu: 1}[op]
			for addr := range 12 {
				i := api.Ins{Op: op, D: 5, Imm: addr}
				r := full(size)
				switch {
				case addr%n != 0:
					traps(t, at(i, size), r, 4, api.TMis)
				case addr+n > size:
					traps(t, at(i, size), r, 4, api.TRange)
				default:
					want := clone(r)
					want.Regs[5], want.Steps = 0, 41
					for k := range n {
						want.Regs[5] |= uint32(0xa0+addr+k) << (8 * k)
					}
					goes(t, at(i, size), r, 4, want, 5)
				}
			}
		}
	}
}

// P601: a division by 0 traps, into register 0 too, and nothing of the step is done.
func TestStepTrapsAtDivisions(t *testing.T) {
	for _, op := range []int{api.Div, api.Divu, api.Rem, api.Remu} {
		for _, d := range []int{0, 1, 2, 3} {
			for _, a := range []uint32{0, 7, low, ones} {
				r := full(8)
				r.Regs[1], r.Regs[2] = a, 0
				traps(t, at(api.Ins{Op: op, D: d, A: 1, B: 2}, 8), r, 4, api.TDiv)
			}
		}
	}
}

// P601: a place where no instruction is traps, at the result's step and at that place.
func TestStepTrapsAtNoPlace(t *testing.T) {
	for _, pc := range []int{math.MinInt, -1 << 32, -9, -8, -1, 8, 9, 1 << 32, 1<<32 + 4, math.MaxInt} {
		for _, steps := range []int{0, 1, 40, -3, math.MinInt, math.MaxInt} {
			r := full(8)
			r.Steps = steps
			traps(t, at(api.Ins{Op: api.Addi, D: 1, Imm: 1}, 8), r, pc, api.TPc)
		}
	}
	traps(t, api.Program{Code: []api.Ins{{Op: api.J}}}, api.Result{}, 1, api.TPc)
	traps(t, api.Program{Code: []api.Ins{{Op: api.J}}}, api.Result{}, -1, api.TPc)
}

// P601: steps are counted on from any number; a trap tells it.
func TestStepCountsOn(t *testing.T) {
	for _, steps := range []int{math.MinInt, -1, 0, 1, 99_999, 100_000, 1 << 40, math.MaxInt - 1} {
		r := full(8)
		r.Steps = steps
		want := clone(r)
		want.Steps = steps + 1
		goes(t, at(api.Ins{Op: api.Sltu}, 8), r, 4, want, 5)
		traps(t, at(api.Ins{Op: api.Lw, D: 1, Imm: 8}, 8), r, 4, api.TRange)
	}
}

// P601: a result that has an end, whichever number that is, stays as it is, at any place.
func TestStepBehindAnEnd(t *testing.T) {
	for _, end := range []int{api.EHalt, api.ETrap, api.EFuel, 4, -1, 1 << 32, math.MinInt, math.MaxInt} {
		for _, i := range []api.Ins{{Op: api.Addi, D: 1, Imm: 1}, {Op: api.Halt}, {Op: api.Sw}, {Op: api.Lw, Imm: 1}, {Op: api.Div}, {Op: api.J}} {
			for _, pc := range []int{4, 0, -1, 8, math.MinInt, math.MaxInt} {
				r := full(8)
				r.End = end
				stays(t, at(i, 8), r, pc)
			}
		}
	}
}

// wrongPrograms are programs that may not be, each for one reason alone.
func wrongPrograms() []api.Program {
	add := api.Ins{Op: api.Addi, D: 1, Imm: 1}
	codes := [][]api.Ins{
		nil, slices.Repeat([]api.Ins{add}, api.MaxCode+1),
		{add, {}}, {add, {Op: 42}}, {add, {Op: -1}}, {add, {Op: api.Add, D: 16}}, {add, {Op: api.Add, A: -1}}, {add, {Op: api.Sw, B: 16}},
		{add, {Op: api.Addi, Imm: 8192}}, {add, {Op: api.Slli, Imm: 32}}, {add, {Op: api.Halt, D: 1}}, {add, {Op: api.Add, Imm: 1}},
		{add, {Op: api.J, Imm: 1}}, {add, {Op: api.J, Imm: -2}}, {add, {Op: api.Beq, Imm: 1}}, {add, {Op: api.Bgeu, Imm: -2}},
	}
	programs := []api.Program{
		{}, {Code: []api.Ins{add}, Size: -1}, {Code: []api.Ins{add}, Size: api.MaxMem + 1}, {Code: []api.Ins{add}, Size: 8, Data: make([]byte, 9)},
		{Code: []api.Ins{add}, Size: math.MinInt}, {Code: []api.Ins{add}, Size: math.MaxInt}, {Code: []api.Ins{add}, Data: []byte{0}},
	}
	for _, code := range codes {
		programs = append(programs, api.Program{Code: code, Size: 8})
	}
	return programs
}

// P601: of a program that may not be, the result stays as it is, also where the instruction itself may be, and outside the code.
func TestStepOfWrongPrograms(t *testing.T) {
	for _, p := range wrongPrograms() {
		for _, size := range []int{0, 8, 9, max(0, min(p.Size, api.MaxMem+1))} {
			for _, pc := range []int{0, 1, 2, -1, math.MinInt, math.MaxInt} {
				stays(t, p, full(size), pc)
			}
		}
	}
}

// P601: a memory with another length than the program's stays as it is, with all else; the program's own length goes on.
func TestStepOfOtherMemories(t *testing.T) {
	for _, i := range []api.Ins{{Op: api.Addi, D: 1, Imm: 1}, {Op: api.Halt}, {Op: api.J}, {Op: api.Sb, B: 1}, {Op: api.Lw, D: 1, Imm: 2}, {Op: api.Div}} {
		for _, size := range []int{0, 1, 8, 100} {
			for _, has := range []int{0, 1, 2, 7, 8, 9, 99, 100, 101, api.MaxMem + 1} {
				for _, pc := range []int{4, -1, 8} {
					if has != size {
						stays(t, at(i, size), full(has), pc)
					}
				}
			}
		}
	}
	for _, mem := range [][]byte{nil, {}} {
		goes(t, at(api.Ins{Op: api.Lui, D: 1, Imm: 1}, 0), api.Result{Mem: mem}, 4, api.Result{Steps: 1, Regs: [16]uint32{1: 1 << 18}}, 5)
	}
	// Data tells what a run begins with, not what a result may have.
	p := at(api.Ins{Op: api.Lbu, D: 1}, 4)
	p.Data = []byte{9, 9, 9, 9}
	goes(t, p, api.Result{Mem: []byte{7, 0, 0, 0}}, 4, api.Result{Steps: 1, Regs: [16]uint32{1: 7}, Mem: []byte{7, 0, 0, 0}}, 5)
}

// P601: the greatest program with the greatest memory, at their last places.
func TestStepInTheGreatestProgram(t *testing.T) {
	p := api.Program{Code: slices.Repeat([]api.Ins{{Op: api.J}}, api.MaxCode), Size: api.MaxMem, Data: slices.Repeat([]byte{1}, api.MaxMem)}
	p.Code[api.MaxCode-1] = api.Ins{Op: api.Sw, A: 1, B: 2}
	r := full(api.MaxMem)
	r.Regs[1], r.Regs[2] = api.MaxMem-4, 0x04030201
	want := clone(r)
	copy(want.Mem[api.MaxMem-4:], []byte{1, 2, 3, 4})
	want.Writes = append(want.Writes, api.Write{Addr: api.MaxMem - 4, Size: 4, Val: 0x04030201})
	want.Steps = 41
	goes(t, p, r, api.MaxCode-1, want, api.MaxCode)
	traps(t, p, r, api.MaxCode, api.TPc)
	r.Regs[1] = api.MaxMem
	traps(t, p, r, api.MaxCode-1, api.TRange)
}

// runs holds that Run answers this, and that the program handed in stays.
func runs(t *testing.T, p api.Program, fuel int, want api.Result) {
	t.Helper()
	was := copyOf(p)
	if got := Run(p, fuel); !same(got, want) {
		t.Errorf("Run of %+v with %d:\n%+v, want\n%+v", was, fuel, got, want)
	}
	if !sameProgram(p, was) {
		t.Errorf("Run of %+v changes it: %+v", was, p)
	}
}

// backwards lays the memory's eight bytes behind each other the other way round, in 16.
func backwards() api.Program {
	return api.Program{Size: 16, Data: []byte{1, 2, 3, 4, 5, 250, 251, 252}, Code: []api.Ins{
		{Op: api.Addi, D: 1, Imm: 8},
		{Op: api.Addi, D: 1, A: 1, Imm: -1},
		{Op: api.Lb, D: 2, A: 1},
		{Op: api.Addi, D: 3, Imm: 15},
		{Op: api.Sub, D: 3, A: 3, B: 1},
		{Op: api.Sb, A: 3, B: 2},
		{Op: api.Bne, A: 1, Imm: -5},
		{Op: api.Halt},
	}}
}

// P601: a whole run, with its registers, memory and writes in order; with less fuel than it takes, just as much, and more.
func TestRun(t *testing.T) {
	want := api.Result{End: api.EHalt, Steps: 50, Mem: []byte{1, 2, 3, 4, 5, 250, 251, 252, 252, 251, 250, 5, 4, 3, 2, 1}}
	want.Regs[2], want.Regs[3] = 1, 15
	for k := range 8 {
		want.Writes = append(want.Writes, api.Write{Addr: 8 + k, Size: 1, Val: uint32(want.Mem[7-k])})
	}
	for _, fuel := range []int{50, 51, 1000, 99_999, 100_000, 100_001, 1 << 40, math.MaxInt} {
		runs(t, backwards(), fuel, want)
	}
	want.End, want.Steps = api.EFuel, 49
	runs(t, backwards(), 49, want)
	want.Steps = 48
	runs(t, backwards(), 48, want)
	want.Steps, want.Mem[15], want.Writes = 47, 0, want.Writes[:7]
	runs(t, backwards(), 47, want)
}

// P601: without fuel, or with less than none, nothing is done: memory is Data and bytes 0 behind.
func TestRunWithoutFuel(t *testing.T) {
	begun := append([]byte{1, 2, 3, 4, 5, 250, 251, 252}, make([]byte, 8)...)
	for _, fuel := range []int{0, -1, -100_000, -1 << 32, -1<<32 + 50, math.MinInt, math.MinInt + 1} {
		runs(t, backwards(), fuel, api.Result{End: api.EFuel, Mem: begun})
		runs(t, api.Program{Code: []api.Ins{{Op: api.Halt}}}, fuel, api.Result{End: api.EFuel})
		runs(t, api.Program{Code: []api.Ins{{Op: api.Lw}}}, fuel, api.Result{End: api.EFuel})
	}
}

// P601: a run begins with registers 0, no writes, no trap, at place 0.
func TestRunBegins(t *testing.T) {
	runs(t, api.Program{Code: []api.Ins{{Op: api.Halt}, {Op: api.J}}}, 9, api.Result{End: api.EHalt, Steps: 1})
	runs(t, api.Program{Code: []api.Ins{{Op: api.Halt}}, Size: 5}, 9, api.Result{End: api.EHalt, Steps: 1, Mem: make([]byte, 5)})
	runs(t, api.Program{Code: []api.Ins{{Op: api.Halt}}, Size: 5, Data: []byte{3, 4}}, 9, api.Result{End: api.EHalt, Steps: 1, Mem: []byte{3, 4, 0, 0, 0}})
	runs(t, api.Program{Code: []api.Ins{{Op: api.Halt}}, Size: 3, Data: []byte{3, 4, 5}}, 9, api.Result{End: api.EHalt, Steps: 1, Mem: []byte{3, 4, 5}})
	got := Run(api.Program{Code: []api.Ins{{Op: api.Halt}}, Size: api.MaxMem}, 1)
	if !same(got, api.Result{End: api.EHalt, Steps: 1, Mem: make([]byte, api.MaxMem)}) {
		t.Errorf("Run with the greatest memory: end %d, %d bytes", got.End, len(got.Mem))
	}
}

// P601: a run that traps tells at which step and where; fuel that ends ahead of the trap's step is told as such.
func TestRunTraps(t *testing.T) {
	add := api.Ins{Op: api.Addi, D: 1, A: 1, Imm: 1}
	for _, c := range []struct {
		i    api.Ins
		kind int
	}{
		{api.Ins{Op: api.Lw, D: 2, A: 1}, api.TMis}, {api.Ins{Op: api.Sh, A: 1, Imm: 2}, api.TMis}, {api.Ins{Op: api.Sb, A: 1, Imm: 1}, 0},
		{api.Ins{Op: api.Sb, A: 1, Imm: 5}, api.TRange}, {api.Ins{Op: api.Lb, A: 1, Imm: -4}, api.TRange}, {api.Ins{Op: api.Remu, D: 2, A: 1}, api.TDiv},
	} {
		p := api.Program{Code: []api.Ins{add, add, {Op: api.Sb, A: 1, B: 1}, add, c.i, {Op: api.Sb, B: 1}}, Size: 8}
		done := api.Result{End: api.EFuel, Steps: 4, Mem: []byte{0, 0, 2, 0, 0, 0, 0, 0}, Writes: []api.Write{{Addr: 2, Size: 1, Val: 2}}}
		done.Regs[1] = 3
		runs(t, p, 4, done)
		if c.kind != 0 {
			done.End, done.Trap = api.ETrap, api.Trap{Kind: c.kind, Step: 4, Pc: 4}
			runs(t, p, 5, done)
			runs(t, p, 100_000, done)
			continue
		}
		done.Mem[4], done.Mem[0], done.Steps, done.End = 0, 3, 6, api.ETrap
		done.Trap = api.Trap{Kind: api.TPc, Step: 6, Pc: 6}
		done.Writes = append(done.Writes, api.Write{Addr: 4, Size: 1}, api.Write{Addr: 0, Size: 1, Val: 3})
		runs(t, p, 7, done)
		done.End, done.Trap = api.EFuel, api.Trap{}
		runs(t, p, 6, done)
	}
	for _, i := range []api.Ins{{Op: api.Div}, {Op: api.Sw, Imm: 4}} {
		kind := map[int]int{api.Div: api.TDiv, api.Sw: api.TRange}[i.Op]
		runs(t, api.Program{Code: []api.Ins{i}, Size: 4}, 1, api.Result{End: api.ETrap, Trap: api.Trap{Kind: kind}, Mem: make([]byte, 4)})
	}
}

// P601: a run off the code's end traps there.
func TestRunOffTheCode(t *testing.T) {
	p := api.Program{Code: []api.Ins{{Op: api.J, Imm: 2}, {Op: api.Halt}, {Op: api.Bne}}}
	runs(t, p, 2, api.Result{End: api.EFuel, Steps: 2})
	runs(t, p, 3, api.Result{End: api.ETrap, Steps: 2, Trap: api.Trap{Kind: api.TPc, Step: 2, Pc: 3}})
}

// P601: no run does more than 100,000 steps, whatever its fuel; what it left by then is told.
func TestRunWithTheMostFuel(t *testing.T) {
	p := api.Program{Size: 4, Code: []api.Ins{{Op: api.Addi, D: 1, A: 1, Imm: 1}, {Op: api.Sw, B: 1}, {Op: api.J, Imm: -2}}}
	for _, fuel := range []int{99_999, 100_000, 100_001, 100_002, 1 << 32, 1<<32 + 7, math.MaxInt} {
		steps := min(fuel, 100_000)
		want := api.Result{End: api.EFuel, Steps: steps, Mem: []byte{0x35, 0x82, 0, 0}}
		want.Regs[1] = uint32((steps + 2) / 3)
		for k := range 33_333 {
			want.Writes = append(want.Writes, api.Write{Addr: 0, Size: 4, Val: uint32(k + 1)})
		}
		if got := Run(p, fuel); !same(got, want) {
			t.Errorf("Run of a loop with %d: end %d, %d steps, %d writes, memory %v, registers %v", fuel, got.End, got.Steps, len(got.Writes), got.Mem, got.Regs)
		}
	}
}

// countdown is a program of so many steps: two at its beginning, two a round, one more if that comes out so, and Halt.
func countdown(steps int) api.Program {
	rounds := (steps - 3) / 2
	code := []api.Ins{{Op: api.Lui, D: 1}, {Op: api.Lw, D: 1}, {Op: api.Addi, D: 1, A: 1, Imm: -1}, {Op: api.Bne, A: 1, Imm: -1}}
	if (steps-3)%2 == 1 {
		code = append(code, api.Ins{Op: api.Sltu})
	}
	return api.Program{Size: 4, Data: []byte{byte(rounds), byte(rounds >> 8), byte(rounds >> 16), 0}, Code: append(code, api.Ins{Op: api.Halt})}
}

// P601: a program that halts with its 100,000th step halts; one that would with its next does not.
func TestRunHaltsWithTheLastStep(t *testing.T) {
	for _, c := range []struct{ steps, fuel, end, done int }{
		{99_999, 100_000, api.EHalt, 99_999}, {100_000, 100_000, api.EHalt, 100_000}, {100_000, math.MaxInt, api.EHalt, 100_000},
		{100_000, 99_999, api.EFuel, 99_999}, {100_001, 100_001, api.EFuel, 100_000}, {100_001, math.MaxInt, api.EFuel, 100_000},
	} {
		if got := Run(countdown(c.steps), c.fuel); got.End != c.end || got.Steps != c.done || got.Trap != (api.Trap{}) {
			t.Errorf("Run of %d steps with %d: end %d, %d steps, %v", c.steps, c.fuel, got.End, got.Steps, got.Trap)
		}
	}
}

// P601: a long run of stores all over the greatest memory has each write in order, and each byte in its place.
func TestRunWithManyWrites(t *testing.T) {
	p := api.Program{Size: api.MaxMem, Code: []api.Ins{{Op: api.Addi, D: 1, A: 1, Imm: 2}, {Op: api.Sb, A: 1, B: 1}, {Op: api.J, Imm: -2}}}
	want := api.Result{End: api.EFuel, Steps: 90_000, Mem: make([]byte, api.MaxMem)}
	want.Regs[1] = 60_000
	for addr := 2; addr <= 60_000; addr += 2 {
		want.Writes = append(want.Writes, api.Write{Addr: addr, Size: 1, Val: uint32(addr % 256)})
		want.Mem[addr] = byte(addr)
	}
	if got := Run(p, 90_000); !same(got, want) {
		t.Errorf("Run with many writes: end %d, %d steps, %d writes, or one of them or a byte is another", got.End, got.Steps, len(got.Writes))
	}
}

// P601: of a program that may not be, a run is zero, with any fuel.
func TestRunOfWrongPrograms(t *testing.T) {
	for _, p := range wrongPrograms() {
		for _, fuel := range []int{math.MinInt, -1, 0, 1, 9, 100_000, math.MaxInt} {
			runs(t, p, fuel, api.Result{})
		}
	}
}

// chance makes numbers, the same ones each time.
type chance uint32

// next is the next number, from 0 to below most.
func (c *chance) next(most int) int {
	*c = *c*1664525 + 1013904223
	return int(*c>>9) % most
}

// word is the next word: often a small one, or one at an edge.
func (c *chance) word() uint32 {
	return []uint32{0, 1, ones, low, uint32(c.next(64)), uint32(-c.next(64)), uint32(c.next(1<<16))<<16 | uint32(c.next(1<<16))}[c.next(7)]
}

// ins is the next instruction that may be, at place k of n.
func (c *chance) ins(k, n int) api.Ins {
	op, d, a, b := 1+c.next(api.Halt), c.next(16), c.next(16), c.next(16)
	imm := []int{c.next(24), -c.next(24), c.next(16384) - 8192, 4 * c.next(12)}[c.next(4)]
	switch {
	case op <= api.Remu:
		return api.Ins{Op: op, D: d, A: a, B: b}
	case op >= api.Slli && op <= api.Srai:
		return api.Ins{Op: op, D: d, A: a, Imm: c.next(32)}
	case op <= api.Srai:
		return api.Ins{Op: op, D: d, A: a, Imm: imm}
	case op == api.Lui:
		return api.Ins{Op: op, D: d, Imm: imm}
	case op <= api.Lbu:
		return api.Ins{Op: op, D: d, A: a * c.next(2), Imm: imm}
	case op <= api.Sb:
		return api.Ins{Op: op, A: a * c.next(2), B: b, Imm: imm}
	case op <= api.Bgeu:
		return api.Ins{Op: op, A: a, B: b, Imm: c.next(n) - k}
	case op == api.J:
		return api.Ins{Op: op, Imm: c.next(n) - k}
	}
	return api.Ins{Op: api.Halt}
}

// program is the next program that may be.
func (c *chance) program() api.Program {
	n := 1 + c.next(20)
	p := api.Program{Size: []int{0, 3, 8, 30, 64}[c.next(5)]}
	p.Data = make([]byte, c.next(p.Size+1))
	for k := range p.Data {
		p.Data[k] = byte(c.next(256))
	}
	for k := range n {
		p.Code = append(p.Code, c.ins(k, n))
	}
	return p
}

// worked is a step, worked out without the layers below.
func worked(p api.Program, r api.Result, pc int) (api.Result, int) {
	r = clone(r)
	if pc < 0 || pc >= len(p.Code) {
		r.End, r.Trap = api.ETrap, api.Trap{Kind: api.TPc, Step: r.Steps, Pc: pc}
		return r, pc
	}
	i, next := p.Code[pc], pc+1
	regs := r.Regs
	regs[0] = 0
	a, b := regs[i.A], regs[i.B]
	out, kind := regs[i.D], 0
	switch {
	case i.Op == api.Halt:
		r.End, next = api.EHalt, pc
	case i.Op == api.J:
		next = pc + i.Imm
	case i.Op >= api.Beq:
		if workedBranch(i.Op, a, b) {
			next = pc + i.Imm
		}
	case i.Op >= api.Lw:
		out, kind = workedMemory(&r, i, a+uint32(i.Imm), b)
	case i.Op == api.Lui:
		out = uint32(i.Imm) << 18
	case i.Op >= api.Addi:
		like := []int{api.Add, api.And, api.Or, api.Xor, api.Slt, api.Sll, api.Srl, api.Sra}[i.Op-api.Addi]
		out, kind = workedSum(like, a, uint32(i.Imm))
	default:
		out, kind = workedSum(i.Op, a, b)
	}
	if kind != 0 {
		r.End, r.Trap = api.ETrap, api.Trap{Kind: kind, Step: r.Steps, Pc: pc}
		return r, pc
	}
	if i.D != 0 {
		r.Regs[i.D] = out
	}
	r.Steps++
	return r, next
}

// workedMemory is what a load reads, or what a store leaves; and the kind of trap.
func workedMemory(r *api.Result, i api.Ins, addr, b uint32) (uint32, int) {
	size := []int{4, 2, 2, 1, 1, 4, 2, 1}[i.Op-api.Lw]
	if addr%uint32(size) != 0 {
		return 0, api.TMis
	}
	if int(addr)+size > len(r.Mem) {
		return 0, api.TRange
	}
	here := r.Mem[addr : int(addr)+size]
	sum := uint64(0)
	if i.Op >= api.Sw {
		for k := range here {
			here[k] = byte(b >> (8 * k))
			sum += uint64(here[k]) << (8 * k)
		}
		r.Writes = append(r.Writes, api.Write{Addr: int(addr), Size: size, Val: uint32(sum)})
		return 0, 0
	}
	for k := range here {
		sum += uint64(here[k]) << (8 * k)
	}
	if top := here[size-1] >= 0x80; top && (i.Op == api.Lh || i.Op == api.Lb) {
		sum -= 1 << (8 * size)
	}
	return uint32(sum), 0
}

// workedBranch is whether a branch is taken.
func workedBranch(op int, a, b uint32) bool {
	less := int64(int32(a)) < int64(int32(b))
	return map[int]bool{api.Beq: a == b, api.Bne: a != b, api.Blt: less, api.Bge: !less, api.Bltu: a < b, api.Bgeu: a >= b}[op]
}

// workedSum is what an operation of form 1 makes; and the kind of trap.
func workedSum(op int, a, b uint32) (uint32, int) {
	x, y := int64(int32(a)), int64(int32(b))
	one := map[bool]uint32{true: 1}
	switch op {
	case api.Add:
		return uint32(x + y), 0
	case api.Sub:
		return uint32(x - y), 0
	case api.And:
		return uint32(x & y), 0
	case api.Or:
		return uint32(x | y), 0
	case api.Xor:
		return uint32(x ^ y), 0
	case api.Sll:
		return uint32(x << (b % 32)), 0
	case api.Srl:
		return uint32(uint64(a) >> (b % 32)), 0
	case api.Sra:
		return uint32(x >> (b % 32)), 0
	case api.Slt:
		return one[x < y], 0
	case api.Sltu:
		return one[a < b], 0
	case api.Mul:
		return uint32(x * y), 0
	case api.Mulh:
		return uint32(x * y >> 32), 0
	}
	if b == 0 {
		return 0, api.TDiv
	}
	switch op {
	case api.Div:
		return uint32(x / y), 0
	case api.Divu:
		return uint32(uint64(a) / uint64(b)), 0
	case api.Rem:
		return uint32(x % y), 0
	}
	return uint32(uint64(a) % uint64(b)), 0
}

// P601: many programs, step by step, from results of all kinds.
func TestStepOfManyPrograms(t *testing.T) {
	c := chance(601)
	met := map[int]int{}
	for range 4000 {
		p := c.program()
		r := full(p.Size)
		for k := range r.Regs {
			r.Regs[k] = c.word()
		}
		pc := c.next(len(p.Code)+2) - 1
		for range 40 {
			want, next := worked(p, r, pc)
			goes(t, p, r, pc, want, next)
			r, pc = want, next
			if r.End != 0 {
				break
			}
		}
		met[10*r.End+r.Trap.Kind]++
		if t.Failed() {
			return
		}
	}
	for _, end := range []int{10*api.EHalt + old.Kind, 10*api.ETrap + api.TMis, 10*api.ETrap + api.TRange, 10*api.ETrap + api.TDiv, 10*api.ETrap + api.TPc, old.Kind} {
		if met[end] < 20 {
			t.Errorf("too few of one kind of end: %v", met)
		}
	}
}

// P601: Run is its steps, one behind the other, with each number of steps as fuel.
func TestRunIsItsSteps(t *testing.T) {
	c := chance(6010)
	for range 1500 {
		p := c.program()
		r := api.Result{Mem: make([]byte, p.Size)}
		copy(r.Mem, p.Data)
		pc := 0
		for fuel := range 60 {
			want := clone(r)
			if want.End == 0 {
				want.End = api.EFuel
			}
			runs(t, p, fuel, want)
			if r.End == 0 {
				r, pc = worked(p, r, pc)
			}
		}
		if t.Failed() {
			return
		}
	}
}

// P602: neither the lists that are handed in nor their spare room are changed.
func TestWhatIsHandedInStays(t *testing.T) {
	halt := api.Ins{Op: api.Halt}
	code := []api.Ins{{Op: api.Addi, D: 1, Imm: 9}, {Op: api.Sb, A: 0, B: 1, Imm: 3}, {Op: api.Sw, B: 1}, {Op: api.J, Imm: -1}, halt, halt}
	mem := []byte{1, 2, 3, 4, 5, 6, 7, 8}
	data := []byte{11, 12, 13, 14, 15, 16}
	writes := []api.Write{{Addr: 1, Size: 1, Val: 1}, {Addr: 2, Size: 2, Val: 2}, {Addr: 3, Size: 3, Val: 3}, {Addr: 4, Size: 4, Val: 4}}
	wasCode, wasMem, wasData, wasWrites := slices.Clone(code), slices.Clone(mem), slices.Clone(data), slices.Clone(writes)
	for pc := -1; pc < 6; pc++ {
		for _, end := range []int{0, api.EFuel} {
			for _, size := range []int{4, 5, -1} {
				p := api.Program{Code: code[:4], Size: size, Data: data[:2]}
				Step(p, api.Result{End: end, Mem: mem[:4], Writes: writes[:2]}, pc)
				Step(p, api.Result{End: end, Mem: mem[:5], Writes: writes[:0]}, pc)
				Run(p, pc*10)
			}
		}
	}
	if !slices.Equal(code, wasCode) || !slices.Equal(mem, wasMem) || !slices.Equal(data, wasData) || !slices.Equal(writes, wasWrites) {
		t.Errorf("what was handed in is changed: %v, %v, %v, %v", code, mem, data, writes)
	}
}

// spoil writes to all that a result's lists have, spare room too.
func spoil(r api.Result) {
	clear(r.Mem[:cap(r.Mem)])
	clear(r.Writes[:cap(r.Writes)])
	for k := range r.Mem {
		r.Mem[k] = 0xee
	}
	for k := range r.Writes {
		r.Writes[k] = api.Write{Addr: -1, Size: -1, Val: 0xee}
	}
}

// P602: a step's answer shares no memory with its arguments or with another answer, whatever came of the step.
func TestWhatStepAnswersIsNew(t *testing.T) {
	sb := api.Ins{Op: api.Sb, B: 1, Imm: 2}
	for _, i := range []api.Ins{{Op: api.Addi, D: 1, Imm: 9}, sb, {Op: api.Lw, D: 1}, {Op: api.Lw, Imm: 2}, {Op: api.Div}, {Op: api.J}, {Op: api.Beq}, {Op: api.Halt}, {}} {
		for _, end := range []int{0, api.EFuel} {
			for _, size := range []int{4, 5} {
				mem, writes := []byte{1, 2, 3, 4, 5, 6}, []api.Write{{Addr: 1, Size: 1, Val: 1}, {Addr: 2, Size: 1, Val: 2}, {Addr: 3}}
				p := api.Program{Code: []api.Ins{i}, Size: size, Data: []byte{7, 7}}
				r := api.Result{End: end, Mem: mem[:4], Writes: writes[:2]}
				wasMem, wasWrites := slices.Clone(mem), slices.Clone(writes)
				first, _ := Step(p, r, 0)
				second, _ := Step(p, r, 0)
				kept := clone(second)
				spoil(first)
				if !slices.Equal(mem, wasMem) || !slices.Equal(writes, wasWrites) || !same(second, kept) {
					t.Errorf("an answer of %+v written to: the arguments are %v, %v, another answer %+v", i, mem, writes, second)
				}
				spoil(api.Result{Mem: mem, Writes: writes})
				spoil(api.Result{Mem: p.Data})
				clear(p.Code)
				if !same(second, kept) {
					t.Errorf("the arguments written to change an answer of %+v: %+v, was %+v", i, second, kept)
				}
			}
		}
	}
}

// P602: a run's answer shares no memory with the program or with another answer.
func TestWhatRunAnswersIsNew(t *testing.T) {
	for _, fuel := range []int{0, 1, 49, 50, 1000} {
		for _, size := range []int{8, 16} {
			p := backwards()
			p.Size = size
			was := copyOf(p)
			first, second := Run(p, fuel), Run(p, fuel)
			kept := clone(second)
			spoil(first)
			if !sameProgram(p, was) || !same(second, kept) {
				t.Errorf("an answer written to, with %d: the program is %+v, another answer %+v", fuel, p, second)
			}
			spoil(api.Result{Mem: p.Data})
			clear(p.Code)
			if !same(second, kept) {
				t.Errorf("the program written to changes an answer with %d: %+v, was %+v", fuel, second, kept)
			}
		}
	}
}

// P602: the same arguments have the same answers, whatever was asked between.
func TestAnswersHangOnArgumentsAlone(t *testing.T) {
	c := chance(602)
	p := backwards()
	r := full(16)
	r.Regs[3] = 9
	stepped, next := Step(p, r, 5)
	whole, part := Run(p, 50), Run(p, 23)
	for n := range 1000 {
		other := c.program()
		Step(other, full(other.Size), c.next(20)-1)
		Run(other, c.next(99))
		again, to := Step(p, r, 5)
		if !same(again, stepped) || to != next || !same(Run(p, 50), whole) || !same(Run(p, 23), part) {
			t.Fatalf("after %d other calls an answer is another", n)
		}
	}
}
