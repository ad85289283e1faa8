package blocks

import (
	"math"
	"slices"
	"testing"

	"forerunner/api"
)

var (
	nop  = api.Ins{Op: api.Addi}
	halt = api.Ins{Op: api.Halt}
)

// branch and jump are ones that lead so far.
func branch(imm int) api.Ins { return api.Ins{Op: api.Beq, Imm: imm} }
func jump(imm int) api.Ins   { return api.Ins{Op: api.J, Imm: imm} }

// row is a block without cells: From, To, Next, Taken.
type row [4]int

// rowsOf are the rows of blocks.
func rowsOf(blocks []api.Block) []row {
	var out []row
	for _, b := range blocks {
		out = append(out, row{b.From, b.To, b.Next, b.Taken})
	}
	return out
}

// cut holds the blocks of a program and, by these, its leaders.
func cut(t *testing.T, p api.Program, want ...row) {
	t.Helper()
	var leaders []int
	for _, r := range want {
		leaders = append(leaders, r[0])
	}
	if got := Leaders(p); !slices.Equal(got, leaders) {
		t.Fatalf("Leaders(%v) = %v, want %v", p, got, leaders)
	}
	got := Cut(p)
	if !slices.Equal(rowsOf(got), want) {
		t.Fatalf("Cut(%v) = %v, want %v", p, rowsOf(got), want)
	}
	for n, b := range got {
		if len(b.A) != 0 || len(b.E) != 0 {
			t.Fatalf("Cut(%v): block %d has cells: %v", p, n, b)
		}
	}
}

// code holds the blocks of a program that has this code alone.
func code(t *testing.T, ins []api.Ins, want ...row) {
	t.Helper()
	cut(t, api.Program{Code: ins}, want...)
}

// P1001: programs by hand in which nothing leads anywhere.
func TestStraightPrograms(t *testing.T) {
	code(t, []api.Ins{nop}, row{0, 1, -1, -1})
	code(t, []api.Ins{halt}, row{0, 1, -1, -1})
	code(t, []api.Ins{nop, nop, nop}, row{0, 3, -1, -1})
	code(t, []api.Ins{nop, nop, halt}, row{0, 3, -1, -1})
	code(t, []api.Ins{halt, nop}, row{0, 1, -1, -1}, row{1, 2, -1, -1})
	code(t, []api.Ins{halt, halt}, row{0, 1, -1, -1}, row{1, 2, -1, -1})
	code(t, []api.Ins{nop, halt, nop, nop, halt, nop}, row{0, 2, -1, -1}, row{2, 5, -1, -1}, row{5, 6, -1, -1})
}

// P1001: programs by hand with branches and jumps.
func TestProgramsThatLead(t *testing.T) {
	code(t, []api.Ins{branch(0)}, row{0, 1, -1, 0})
	code(t, []api.Ins{jump(0)}, row{0, 1, -1, 0})
	code(t, []api.Ins{branch(1), nop}, row{0, 1, 1, 1}, row{1, 2, -1, -1})
	code(t, []api.Ins{jump(1), nop}, row{0, 1, -1, 1}, row{1, 2, -1, -1})
	code(t, []api.Ins{nop, branch(-1)}, row{0, 2, -1, 0})
	code(t, []api.Ins{nop, branch(0)}, row{0, 1, 1, -1}, row{1, 2, -1, 1})
	code(t, []api.Ins{nop, jump(0)}, row{0, 1, 1, -1}, row{1, 2, -1, 1})
	// One leads back into the middle of what is ahead of it, one over what is behind it.
	code(t, []api.Ins{nop, nop, nop, branch(-2), nop}, row{0, 1, 1, -1}, row{1, 4, 2, 1}, row{4, 5, -1, -1})
	code(t, []api.Ins{jump(3), nop, nop, nop, nop}, row{0, 1, -1, 2}, row{1, 3, 2, -1}, row{3, 5, -1, -1})
	code(t, []api.Ins{branch(3), nop, nop, nop, nop}, row{0, 1, 1, 2}, row{1, 3, 2, -1}, row{3, 5, -1, -1})
	// Two have one target, which is behind a third, too.
	code(t, []api.Ins{branch(3), nop, jump(1), branch(0), jump(-1)}, row{0, 1, 1, 2}, row{1, 3, -1, 2}, row{3, 4, 3, 2}, row{4, 5, -1, 2})
	// Each leads to the other.
	code(t, []api.Ins{jump(2), halt, jump(-2)}, row{0, 1, -1, 2}, row{1, 2, -1, -1}, row{2, 3, -1, 0})
	// A target is a Halt that stands behind others.
	code(t, []api.Ins{branch(2), nop, halt}, row{0, 1, 1, 2}, row{1, 2, 2, -1}, row{2, 3, -1, -1})
}

// P1001: each operation in the middle, with numbers that would be targets; only the last three forms cut.
func TestEachOperation(t *testing.T) {
	for op := api.Add; op <= api.Lui; op++ {
		i := api.Ins{Op: op}
		if op >= api.Addi {
			i.Imm = 1
		}
		code(t, []api.Ins{nop, nop, i, nop, nop}, row{0, 5, -1, -1})
	}
	for op := api.Lw; op <= api.Sb; op++ {
		for imm := -2; imm <= 2; imm++ {
			code(t, []api.Ins{nop, nop, {Op: op, Imm: imm}, nop, nop}, row{0, 5, -1, -1})
		}
	}
	for op := api.Beq; op <= api.J; op++ {
		next := func(n int) int {
			if op == api.J {
				return -1
			}
			return n
		}
		at := func(imm int) []api.Ins { return []api.Ins{nop, nop, {Op: op, Imm: imm}, nop, nop} }
		code(t, at(-2), row{0, 3, next(1), 0}, row{3, 5, -1, -1})
		code(t, at(-1), row{0, 1, 1, -1}, row{1, 3, next(2), 1}, row{3, 5, -1, -1})
		code(t, at(0), row{0, 2, 1, -1}, row{2, 3, next(2), 1}, row{3, 5, -1, -1})
		code(t, at(1), row{0, 3, next(1), 1}, row{3, 5, -1, -1})
		code(t, at(2), row{0, 3, next(1), 2}, row{3, 4, 2, -1}, row{4, 5, -1, -1})
	}
	code(t, []api.Ins{nop, nop, halt, nop, nop}, row{0, 3, -1, -1}, row{3, 5, -1, -1})
}

// P1001: each operation as the last one, with numbers from far back on.
func TestEachOperationAtTheEnd(t *testing.T) {
	for op := api.Add; op <= api.Halt; op++ {
		for back := range 4 {
			i := api.Ins{Op: op}
			leads := op >= api.Beq && op <= api.J
			if leads || op >= api.Addi && op < api.Halt && op != api.Slli && op != api.Srli && op != api.Srai {
				i.Imm = -back
			}
			ins := []api.Ins{nop, nop, nop, i}
			switch {
			case !leads:
				code(t, ins, row{0, 4, -1, -1})
			case back == 3:
				code(t, ins, row{0, 4, -1, 0})
			default:
				code(t, ins, row{0, 3 - back, 1, -1}, row{3 - back, 4, -1, 1})
			}
		}
	}
}

// P1001: the numbers of other operations lead nowhere, however great, nor do they make a program none.
func TestOtherNumbers(t *testing.T) {
	for op := api.Addi; op <= api.Sb; op++ {
		numbers := []int{-8192, -3, -1, 1, 2, 3, 4, 8191}
		if op == api.Slli || op == api.Srli || op == api.Srai {
			numbers = []int{1, 2, 3, 31}
		}
		for _, imm := range numbers {
			i := api.Ins{Op: op, Imm: imm}
			code(t, []api.Ins{i, i, i, i}, row{0, 4, -1, -1})
			code(t, []api.Ins{i, halt, i, branch(-1), i}, row{0, 2, -1, -1}, row{2, 4, 2, 1}, row{4, 5, -1, -1})
		}
	}
}

// P1001: registers have no say, nor have Size and Data.
func TestBlocksDoNotHangOnOtherFields(t *testing.T) {
	for a := range 16 {
		for b := range 16 {
			ins := []api.Ins{{Op: api.Add, D: b, A: a, B: a}, {Op: api.Bltu, A: a, B: b, Imm: 2}, {Op: api.Sw, A: a, B: b, Imm: 1}, {Op: api.Lw, D: b, A: a, Imm: -1}}
			for _, data := range [][]byte{nil, {255}, {1, 2, 3}} {
				cut(t, api.Program{Code: ins, Size: 3 + a, Data: data}, row{0, 2, 1, 2}, row{2, 3, 2, -1}, row{3, 4, -1, -1})
			}
		}
	}
}

// P1001: of what is not Right there is nothing.
func TestWrongPrograms(t *testing.T) {
	cut(t, api.Program{})
	cut(t, api.Program{Code: []api.Ins{}, Size: 8, Data: []byte{1}})
	for _, size := range []int{math.MinInt, -1 << 32, -1, api.MaxMem + 1, 1 << 31, 1 << 32, math.MaxInt} {
		cut(t, api.Program{Code: []api.Ins{branch(0), halt}, Size: size})
	}
	cut(t, api.Program{Code: []api.Ins{halt}, Data: []byte{0}})
	cut(t, api.Program{Code: []api.Ins{halt}, Size: 3, Data: []byte{0, 0, 0, 0}})
	if n := len(Leaders(api.Program{Code: slices.Repeat([]api.Ins{nop}, api.MaxCode+1)})); n != 0 {
		t.Errorf("a program that is too long has %d leaders", n)
	}
	if n := len(Cut(api.Program{Code: slices.Repeat([]api.Ins{halt}, api.MaxCode+1)})); n != 0 {
		t.Errorf("a program that is too long has %d blocks", n)
	}
}

// P1001: one instruction that is none is enough, wherever it stands.
func TestWrongInstructions(t *testing.T) {
	bad := []api.Ins{
		{}, {Op: -1}, {Op: 42}, {Op: math.MinInt}, {Op: math.MaxInt}, {Op: 1<<32 + api.J},
		{Op: api.J, D: 1}, {Op: api.J, A: 1}, {Op: api.J, B: -1}, {Op: api.Beq, D: 1}, {Op: api.Beq, A: 16}, {Op: api.Beq, B: -1},
		{Op: api.Halt, Imm: 1}, {Op: api.Halt, D: 1}, {Op: api.Slli, Imm: 32}, {Op: api.Add, Imm: 1}, {Op: api.Addi, Imm: 8192}, {Op: api.Lw, Imm: -8193},
	}
	for _, i := range bad {
		for place := range 5 {
			ins := []api.Ins{nop, branch(2), halt, jump(0), nop}
			ins[place] = i
			code(t, ins)
		}
	}
}

// P1001: targets that are not in the code, those far off, too.
func TestWrongTargets(t *testing.T) {
	far := []int{math.MinInt, math.MinInt + 1, -1 << 32, -8192, 8191, 1 << 31, 1 << 32, math.MaxInt - 1, math.MaxInt}
	for op := api.Beq; op <= api.J; op++ {
		for place := range 4 {
			for _, imm := range append([]int{-place - 1, -place - 2, 4 - place, 5 - place}, far...) {
				ins := []api.Ins{nop, branch(2), halt, jump(0)}
				ins[place] = api.Ins{Op: op, Imm: imm}
				code(t, ins)
			}
		}
	}
}

// P1001: the longest programs, of one block, of as many as instructions, and with the farthest targets.
func TestLongestPrograms(t *testing.T) {
	n := api.MaxCode
	code(t, slices.Repeat([]api.Ins{nop}, n), row{0, n, -1, -1})
	var halts, jumps, branches []row
	for place := range n {
		halts = append(halts, row{place, place + 1, -1, -1})
		jumps = append(jumps, row{place, place + 1, -1, place})
		branches = append(branches, row{place, place + 1, place + 1, n - 1 - place})
	}
	branches[n-1][2] = -1
	code(t, slices.Repeat([]api.Ins{halt}, n), halts...)
	code(t, slices.Repeat([]api.Ins{jump(0)}, n), jumps...)
	across := make([]api.Ins, n)
	for place := range across {
		across[place] = branch(n - 1 - 2*place)
	}
	code(t, across, branches...)
	ends := slices.Repeat([]api.Ins{nop}, n)
	ends[0], ends[n-1] = jump(n-1), jump(1-n)
	code(t, ends, row{0, 1, -1, 2}, row{1, n - 1, 2, -1}, row{n - 1, n, -1, 0})
}

// defined are the blocks of code that is right, told place by place, as the promise's own words define them.
func defined(ins []api.Ins) []row {
	leads := func(i api.Ins) bool { return i.Op >= api.Beq && i.Op <= api.J }
	number := make([]int, len(ins)+1)
	count := 0
	for place := range ins {
		is := place == 0 || leads(ins[place-1]) || ins[place-1].Op == api.Halt
		for from, i := range ins {
			is = is || leads(i) && from+i.Imm == place
		}
		number[place] = -1
		if is {
			number[place] = count
			count++
		}
	}
	number[len(ins)] = -1
	var out []row
	for place, i := range ins {
		if number[place] >= 0 {
			out = append(out, row{place, 0, -1, -1})
		}
		last := &out[len(out)-1]
		if place+1 < len(ins) && number[place+1] < 0 {
			continue
		}
		last[1] = place + 1
		if i.Op != api.J && i.Op != api.Halt {
			last[2] = number[place+1]
		}
		if leads(i) {
			last[3] = number[place+i.Imm]
		}
	}
	return out
}

// P1001: all short programs of an instruction that goes on, a Halt, and branches and jumps to every place.
func TestAllShortPrograms(t *testing.T) {
	for n := 1; n <= 4; n++ {
		kinds := 2 + 2*n
		total := 1
		for range n {
			total *= kinds
		}
		for which := range total {
			ins := make([]api.Ins, n)
			for place := range ins {
				switch kind := which % kinds; {
				case kind == 0:
					ins[place] = nop
				case kind == 1:
					ins[place] = halt
				case kind < 2+n:
					ins[place] = branch(kind - 2 - place)
				default:
					ins[place] = jump(kind - 2 - n - place)
				}
				which /= kinds
			}
			code(t, ins, defined(ins)...)
		}
	}
}

// chance makes numbers, the same ones each time.
type chance uint32

// next is the next number, from 0 to below most.
func (c *chance) next(most int) int {
	*c = *c*1664525 + 1013904223
	return int(*c>>9) % most
}

// some is code of n instructions, one of so many of which leads or halts.
func (c *chance) some(n, oneOf int) []api.Ins {
	out := make([]api.Ins, n)
	for place := range out {
		imm, reg := c.next(n)-place, c.next(16)
		switch {
		case c.next(oneOf) > 0:
			out[place] = api.Ins{Op: api.Addi + c.next(4), D: reg, A: 15 - reg, Imm: imm}
		case c.next(4) == 0:
			out[place] = halt
		case c.next(3) == 0:
			out[place] = jump(imm)
		default:
			out[place] = api.Ins{Op: api.Beq + c.next(6), A: reg, B: c.next(16), Imm: imm}
		}
	}
	return out
}

// P1001: longer programs.
func TestManyPrograms(t *testing.T) {
	c := chance(1001)
	for range 2000 {
		ins := c.some(1+c.next(60), 1+c.next(12))
		cut(t, api.Program{Code: ins, Size: 4, Data: []byte{1}}, defined(ins)...)
	}
	ins := c.some(api.MaxCode, 5)
	code(t, ins, defined(ins)...)
}

// P1001: the blocks lie one behind the other and fill the code; their numbers are those of blocks, or -1.
func TestBlocksFillTheCode(t *testing.T) {
	c := chance(10)
	for range 1000 {
		ins := c.some(1+c.next(80), 1+c.next(9))
		got := Cut(api.Program{Code: ins})
		at := 0
		for n, b := range got {
			if b.From != at || b.To <= at {
				t.Fatalf("Cut(%v): block %d is from %d to %d, behind %d", ins, n, b.From, b.To, at)
			}
			at = b.To
			if b.Next != -1 && b.Next != n+1 || b.Next >= len(got) || b.Taken < -1 || b.Taken >= len(got) {
				t.Fatalf("Cut(%v): block %d of %d: %v", ins, n, len(got), b)
			}
		}
		if at != len(ins) {
			t.Fatalf("Cut(%v) ends at %d", ins, at)
		}
	}
}

// roomy is a program in longer lists: what is behind their ends is no part of it.
func roomy() (api.Program, []api.Ins, []byte) {
	ins := []api.Ins{nop, branch(-1), nop, branch(1), halt, jump(-5), {Op: 77}, jump(99)}
	data := []byte{1, 2, 3, 4}
	return api.Program{Code: ins[:5], Size: 2, Data: data[:2]}, ins, data
}

// roomyRows are the blocks of roomy's program.
var roomyRows = []row{{0, 2, 1, 0}, {2, 4, 2, 2}, {4, 5, -1, -1}}

// P1002: neither the lists nor their spare room are changed, and what is in that room has no say.
func TestWhatIsHandedInStays(t *testing.T) {
	p, ins, data := roomy()
	insWas, dataWas := slices.Clone(ins), slices.Clone(data)
	cut(t, p, roomyRows...)
	cut(t, api.Program{Code: ins, Size: 2, Data: data[:2]})
	cut(t, api.Program{Code: ins[:5], Size: 2, Data: data})
	if !slices.Equal(ins, insWas) || !slices.Equal(data, dataWas) {
		t.Errorf("the program's lists: %v, %v", ins, data)
	}
}

// P1002: an answer is not the program's memory, nor another answer's.
func TestAnswersAreNew(t *testing.T) {
	p, _, _ := roomy()
	leaders, blocks := Leaders(p), Cut(p)
	for n := range blocks {
		blocks[n].A = append(blocks[n].A, api.Cell{Kind: api.KDo, Off: n})
		blocks[n].E = append(blocks[n].E, api.Cell{Kind: api.KHalt, Off: n})
	}
	for n, b := range blocks {
		if b.A[0] != (api.Cell{Kind: api.KDo, Off: n}) || b.E[0] != (api.Cell{Kind: api.KHalt, Off: n}) {
			t.Errorf("lists of one answer share memory: %v", b)
		}
	}
	kept, keptBlocks := Leaders(p), Cut(p)
	for _, list := range [][]int{leaders, append(leaders, 1, 2)} {
		for n := range list {
			list[n] = 77
		}
	}
	clear(append(blocks, api.Block{From: 5}))
	clear(blocks)
	cut(t, p, roomyRows...)
	clear(p.Code)
	clear(p.Data)
	if !slices.Equal(kept, []int{0, 2, 4}) || !slices.Equal(rowsOf(keptBlocks), roomyRows) {
		t.Errorf("an answer is another than it was: %v, %v", kept, keptBlocks)
	}
}

// P1002: the same program has the same answers, whatever was asked between.
func TestAnswersHangOnArgumentsAlone(t *testing.T) {
	p, _, _ := roomy()
	c := chance(1002)
	for n := range 300 {
		other := api.Program{Code: c.some(1+n%40, 3)}
		Leaders(other)
		Cut(other)
		other.Code[c.next(len(other.Code))] = api.Ins{Op: n % 50, Imm: n}
		Cut(other)
		Leaders(other)
		cut(t, p, roomyRows...)
		cut(t, api.Program{})
	}
}
