package owner

import (
	"math"
	"slices"
	"testing"

	"forerunner/api"
)

var (
	nop  = api.Ins{Op: api.Addi}
	halt = api.Ins{Op: api.Halt}
)

// add, load and store are ones of these registers.
func add(d, a, b int) api.Ins { return api.Ins{Op: api.Add, D: d, A: a, B: b} }
func load(d, a int) api.Ins   { return api.Ins{Op: api.Lw, D: d, A: a} }
func store(a, b int) api.Ins  { return api.Ins{Op: api.Sw, A: a, B: b} }

// onA are the owners with just these registers on A.
func onA(regs ...int) [16]int {
	var o [16]int
	for r := 1; r < 16; r++ {
		o[r] = api.OnE
	}
	for _, r := range regs {
		o[r] = api.OnA
	}
	return o
}

// all are registers 1 to 15.
func all() []int {
	var out []int
	for r := 1; r < 16; r++ {
		out = append(out, r)
	}
	return out
}

// of holds the owners of a program that has this code alone.
func of(t *testing.T, ins []api.Ins, regs ...int) {
	t.Helper()
	p := api.Program{Code: ins}
	if got := Of(p); got != onA(regs...) {
		t.Fatalf("Of(%v) = %v, want %v on A", ins, got, regs)
	}
	if !Closed(p, onA(regs...)) {
		t.Fatalf("Closed(%v) of %v on A = false", ins, regs)
	}
}

// P1101: nothing reaches into memory: A has nothing.
func TestNothingOnA(t *testing.T) {
	of(t, []api.Ins{nop})
	of(t, []api.Ins{halt})
	of(t, []api.Ins{add(1, 2, 3), add(2, 3, 1), {Op: api.Lui, D: 4, Imm: 1}, {Op: api.Beq, A: 5, B: 6}, {Op: api.J, Imm: -1}, halt})
	of(t, []api.Ins{load(1, 0), load(15, 0), store(0, 1), store(0, 15), add(1, 1, 1)})
}

// P1101: the A of each load and store, and no other register of theirs.
func TestWhatReachesIntoMemory(t *testing.T) {
	for op := api.Lw; op <= api.Lbu; op++ {
		for d := range 16 {
			for a := 1; a < 16; a++ {
				of(t, []api.Ins{{Op: op, D: d, A: a, Imm: 4}, halt}, a)
			}
			of(t, []api.Ins{{Op: op, D: d, Imm: -8}, halt})
		}
	}
	for op := api.Sw; op <= api.Sb; op++ {
		for b := range 16 {
			for a := 1; a < 16; a++ {
				of(t, []api.Ins{{Op: op, A: a, B: b, Imm: 4}, halt}, a)
			}
			of(t, []api.Ins{{Op: op, B: b, Imm: -8}, halt})
		}
	}
	of(t, []api.Ins{load(1, 2), load(3, 4), store(5, 6), store(7, 8)}, 2, 4, 5, 7)
	// A load's D that is on A asks for nothing more than its A.
	of(t, []api.Ins{load(1, 1)}, 1)
	of(t, []api.Ins{load(1, 2), load(3, 1)}, 1, 2)
	of(t, []api.Ins{load(1, 0), store(1, 9)}, 1)
}

// P1101: each operation's registers, if its D is on A.
func TestWhatDNeeds(t *testing.T) {
	for op := api.Add; op <= api.Halt; op++ {
		i := api.Ins{Op: op}
		want := []int{1}
		switch {
		case op <= api.Remu:
			i.D, i.A, i.B = 1, 2, 3
			want = []int{1, 2, 3}
		case op <= api.Srai:
			i.D, i.A, i.Imm = 1, 2, 3
			want = []int{1, 2}
		case op == api.Lui:
			i.D, i.Imm = 1, 3
		case op <= api.Lbu:
			i.D, i.A = 1, 2
			want = []int{1, 2}
		case op <= api.Sb:
			i.A, i.B = 2, 1
			want = []int{1, 2}
		case op <= api.Bgeu:
			i.A, i.B = 1, 2
		}
		of(t, []api.Ins{i, load(0, 1)}, want...)
		of(t, []api.Ins{load(0, 1), i}, want...)
		// Another D: it is on E, so what it reads stays there; only memory's A does not.
		i.D = 0
		if op >= api.Lw && op <= api.Sb {
			of(t, []api.Ins{i, load(0, 9)}, 2, 9)
		} else {
			of(t, []api.Ins{i, load(0, 9)}, 9)
		}
	}
}

// P1101: register 0 is on no side, wherever it is named.
func TestRegisterZero(t *testing.T) {
	of(t, []api.Ins{add(0, 1, 2), add(0, 0, 0), load(0, 0), store(0, 0)})
	of(t, []api.Ins{add(1, 0, 2), load(3, 1)}, 1, 2)
	of(t, []api.Ins{add(1, 2, 0), load(3, 1)}, 1, 2)
	of(t, []api.Ins{add(1, 0, 0), load(3, 1)}, 1)
	of(t, []api.Ins{add(0, 4, 5), load(0, 1)}, 1)
}

// P1101: what is needed needs more, in either order, round in circles, through all registers.
func TestNeedsOfNeeds(t *testing.T) {
	var forth, back []api.Ins
	for r := 1; r < 15; r++ {
		forth = append(forth, add(r, r+1, 0))
		back = append([]api.Ins{add(r, 0, r+1)}, back...)
	}
	of(t, append(slices.Clone(forth), store(1, 0)), all()...)
	of(t, append([]api.Ins{store(1, 0)}, forth...), all()...)
	of(t, append(slices.Clone(back), store(1, 0)), all()...)
	of(t, append([]api.Ins{store(1, 0)}, back...), all()...)
	of(t, append(slices.Clone(back), load(7, 7)), 7, 8, 9, 10, 11, 12, 13, 14, 15)
	of(t, append(slices.Clone(back), load(15, 15)), 15)
	of(t, []api.Ins{add(1, 2, 2), add(2, 3, 3), add(3, 1, 1), add(4, 5, 5), add(5, 4, 4), load(9, 2)}, 1, 2, 3)
	of(t, []api.Ins{add(1, 2, 3), add(1, 4, 5), add(6, 7, 8), store(1, 6)}, 1, 2, 3, 4, 5)
	// A load between the two breaks the chain: it needs its own A alone.
	of(t, []api.Ins{load(5, 1), add(1, 2, 3), add(2, 2, 4), {Op: api.Mul, D: 6, A: 5, B: 1}, store(0, 6), halt}, 1, 2, 3, 4)
}

// P1101: the longest program.
func TestLongestProgram(t *testing.T) {
	ins := slices.Repeat([]api.Ins{add(1, 2, 3)}, api.MaxCode)
	of(t, ins)
	ins[0], ins[api.MaxCode-1] = add(3, 4, 5), store(1, 6)
	of(t, ins, 1, 2, 3, 4, 5)
	of(t, slices.Repeat([]api.Ins{store(9, 8)}, api.MaxCode), 9)
}

// closed holds what Closed answers of a program that has this code alone.
func closed(t *testing.T, want bool, o [16]int, ins ...api.Ins) {
	t.Helper()
	if got := Closed(api.Program{Code: ins}, o); got != want {
		t.Fatalf("Closed(%v, %v) = %v", ins, o, got)
	}
}

// P1101: what is Closed and what is not, by hand.
func TestClosed(t *testing.T) {
	closed(t, true, onA(), halt)
	closed(t, true, onA(all()...), halt)
	closed(t, true, onA(3, 9), add(9, 3, 3), add(1, 9, 3), halt)
	closed(t, false, onA(), load(0, 1))
	closed(t, false, onA(2), load(2, 1))
	closed(t, true, onA(1), load(2, 1))
	closed(t, false, onA(2), store(1, 2))
	closed(t, true, onA(1), store(1, 2))
	closed(t, true, onA(), store(0, 2), load(2, 0))
	closed(t, false, onA(1), add(1, 2, 0))
	closed(t, false, onA(1), add(1, 0, 2))
	closed(t, false, onA(1, 2), add(1, 2, 3))
	closed(t, false, onA(1, 3), add(1, 2, 3))
	closed(t, true, onA(1, 2, 3), add(1, 2, 3))
	closed(t, true, onA(2, 3), add(1, 2, 3))
	closed(t, true, onA(1), add(1, 1, 0), add(0, 2, 3))
	closed(t, true, onA(1), api.Ins{Op: api.Beq, A: 1, B: 2}, api.Ins{Op: api.Lui, D: 1, Imm: 5})
	// Each place has a say.
	for place := range 6 {
		ins := slices.Repeat([]api.Ins{nop}, 6)
		ins[place] = store(4, 0)
		closed(t, false, onA(5), ins...)
		closed(t, true, onA(4), ins...)
	}
}

// P1101: an owner that is none, and register 0 and no other Both.
func TestWrongOwners(t *testing.T) {
	wrong := []int{math.MinInt, -1, 3, 4, 1 << 32, 1<<32 + api.OnA, math.MaxInt}
	for r := range 16 {
		for _, o := range [][16]int{onA(), onA(all()...)} {
			for _, side := range wrong {
				o[r] = side
				closed(t, false, o, halt)
				closed(t, false, o, store(5, 5), add(5, 6, 7))
			}
		}
	}
	for _, side := range []int{api.OnA, api.OnE} {
		o := onA(1, 2, 3)
		o[0] = side
		closed(t, false, o, halt)
		closed(t, false, o, add(0, 0, 0))
	}
	for r := 1; r < 16; r++ {
		o := onA(all()...)
		o[r] = api.Both
		closed(t, false, o, halt)
		closed(t, false, o, load(0, r))
	}
	closed(t, false, [16]int{}, halt)
}

// refused holds that a program is not Right: nothing is Closed, and it has no owners.
func refused(t *testing.T, p api.Program) {
	t.Helper()
	if got := Of(p); got != [16]int{} {
		t.Fatalf("Of(%v) = %v, want zero", p, got)
	}
	for _, o := range [][16]int{{}, onA(), onA(1, 2), onA(all()...)} {
		if Closed(p, o) {
			t.Fatalf("Closed(%v, %v) = true", p, o)
		}
	}
}

// P1101: programs that are not Right.
func TestWrongPrograms(t *testing.T) {
	refused(t, api.Program{})
	refused(t, api.Program{Code: []api.Ins{}, Size: 4})
	for _, size := range []int{math.MinInt, -1, api.MaxMem + 1, 1 << 32, math.MaxInt} {
		refused(t, api.Program{Code: []api.Ins{load(1, 2), halt}, Size: size})
	}
	refused(t, api.Program{Code: []api.Ins{halt}, Data: []byte{0}})
	refused(t, api.Program{Code: slices.Repeat([]api.Ins{halt}, api.MaxCode+1)})
	wrong := []api.Ins{
		{}, {Op: -1}, {Op: 42}, {Op: math.MinInt}, {Op: math.MaxInt}, {Op: 1<<32 + api.Add},
		add(16, 0, 0), add(-1, 0, 0), add(math.MaxInt, 0, 0), add(1, 16, 0), add(1, math.MinInt, 0), add(1, 2, -1), add(1, 2, math.MaxInt),
		load(1, 16), load(1, -1), load(1, math.MaxInt), load(16, 1), load(math.MinInt, 1), store(16, 1), store(math.MinInt, 1), store(1, 16),
		{Op: api.Add, Imm: 1}, {Op: api.Addi, B: 1}, {Op: api.Lui, A: 1}, {Op: api.Lw, B: 1}, {Op: api.Sw, D: 1},
		{Op: api.J, Imm: 3}, {Op: api.Beq, Imm: -4}, {Op: api.J, Imm: math.MaxInt}, {Op: api.Bne, Imm: math.MinInt}, {Op: api.Lw, Imm: 8192},
	}
	for _, i := range wrong {
		for place := range 3 {
			ins := []api.Ins{load(1, 2), add(2, 3, 4), halt}
			ins[place] = i
			refused(t, api.Program{Code: ins})
		}
	}
}

// side holds the side of one instruction.
func side(t *testing.T, want int, i api.Ins, o [16]int) {
	t.Helper()
	if got := Side(i, o); got != want {
		t.Fatalf("Side(%v, %v) = %d, want %d", i, o, got, want)
	}
}

// P1101: the side of each operation, by its D, and by what it reads where D is 0.
func TestSideOfEachOperation(t *testing.T) {
	for op := -3; op <= 50; op++ {
		reckons := op >= api.Add && op <= api.Lui
		for _, o := range [][16]int{onA(), onA(1), onA(2), onA(1, 2), onA(2, 3), onA(all()...)} {
			i := api.Ins{Op: op, D: 1}
			if op <= api.Srai {
				i.A = 2
			}
			if op <= api.Remu {
				i.B = 3
			}
			if !reckons {
				side(t, api.Both, i, o)
				side(t, api.Both, api.Ins{Op: op}, o)
				continue
			}
			side(t, o[1], i, o)
			i.D = 0
			want := api.OnA
			if i.A != 0 && o[i.A] == api.OnE || i.B != 0 && o[i.B] == api.OnE {
				want = api.OnE
			}
			side(t, want, i, o)
			side(t, api.OnA, api.Ins{Op: op}, o)
		}
	}
	for _, op := range []int{math.MinInt, math.MaxInt, 1<<32 + api.Add} {
		side(t, api.Both, api.Ins{Op: op, D: 1}, onA(1))
	}
}

// P1101: an instruction that is not Right has a side, too: it Reads nothing, and its D may be no register.
func TestSideOfWhatIsNotRight(t *testing.T) {
	for _, d := range []int{math.MinInt, -16, -1, 16, 17, 1 << 32, 1<<32 + 1, math.MaxInt} {
		for op := api.Add; op <= api.Lui; op++ {
			side(t, api.OnE, api.Ins{Op: op, D: d}, onA(all()...))
			side(t, api.OnE, api.Ins{Op: op, D: d}, onA())
		}
		for op := api.Lw; op <= api.Halt; op++ {
			side(t, api.Both, api.Ins{Op: op, D: d, A: d, B: d, Imm: d}, onA(all()...))
		}
		// No register is read: with a D of 0, A does it; else D decides.
		for _, i := range []api.Ins{add(0, d, 1), add(0, 1, d), add(0, d, d), {Op: api.Lui, A: d}, {Op: api.Lui, A: 1}, {Op: api.Addi, A: 1, B: d}, {Op: api.Addi, A: 1, B: 2}, {Op: api.Slli, A: 1, Imm: 32}, {Op: api.Add, A: 1, Imm: 1}} {
			side(t, api.OnA, i, onA())
			i.D = 5
			side(t, api.OnE, i, onA(1, 2))
			side(t, api.OnA, i, onA(5))
		}
	}
}

// P1101: register 0 is Both, whatever is handed in; other owners that are none are not A and not E.
func TestSideByWrongOwners(t *testing.T) {
	for _, x := range []int{math.MinInt, -1, api.Both, api.OnA, api.OnE, 3, math.MaxInt} {
		o := onA(1)
		o[0] = x
		side(t, api.OnA, add(0, 0, 0), o)
		side(t, api.OnA, add(0, 1, 0), o)
		side(t, api.OnE, add(0, 1, 2), o)
		side(t, api.OnE, add(0, 0, 2), o)
		side(t, api.OnA, add(1, 0, 2), o)
		side(t, api.OnE, add(2, 0, 0), o)
		side(t, api.OnA, api.Ins{Op: api.Lui}, o)
		side(t, api.OnE, add(-1, 0, 0), o)
		side(t, api.OnE, add(16, 0, 0), o)
		side(t, api.Both, load(0, 0), o)
		if x == api.OnA || x == api.OnE {
			continue
		}
		o[2] = x
		side(t, api.OnA, add(0, 2, 1), o)
		side(t, api.OnE, add(2, 1, 1), o)
		side(t, api.OnE, add(0, 2, 3), o)
	}
}

// isClosed tells by the words, of a right program and right owners.
func isClosed(ins []api.Ins, o [16]int) bool {
	for _, i := range ins {
		switch {
		case i.Op >= api.Lw && i.Op <= api.Sb:
			if o[i.A] == api.OnE {
				return false
			}
		case i.Op <= api.Lui && o[i.D] == api.OnA:
			if o[i.A] == api.OnE || i.Op <= api.Remu && o[i.B] == api.OnE {
				return false
			}
		}
	}
	return true
}

// each tells all owners with registers above most on E.
func each(most int, tell func(o [16]int)) {
	for set := range 1 << most {
		var regs []int
		for r := 1; r <= most; r++ {
			if set>>(r-1)&1 == 1 {
				regs = append(regs, r)
			}
		}
		tell(onA(regs...))
	}
}

// count is how many are on A.
func count(o [16]int) int {
	n := 0
	for _, x := range o {
		if x == api.OnA {
			n++
		}
	}
	return n
}

// whole holds Closed and Of of a program against the words, for all owners with registers above most on E.
func whole(t *testing.T, ins []api.Ins, most int) {
	t.Helper()
	p := api.Program{Code: ins}
	least := Of(p)
	fewest, times := 16, 0
	each(most, func(o [16]int) {
		want := isClosed(ins, o)
		if got := Closed(p, o); got != want {
			t.Fatalf("Closed(%v, %v) = %v", ins, o, got)
		}
		if !want {
			return
		}
		if n := count(o); n < fewest {
			fewest, times = n, 1
		} else if n == fewest {
			times++
		}
		for r := range o {
			if least[r] == api.OnA && o[r] != api.OnA {
				t.Fatalf("Of(%v) = %v is not within %v", ins, least, o)
			}
		}
	})
	if times != 1 || count(least) != fewest || !isClosed(ins, least) {
		t.Fatalf("Of(%v) = %v; the fewest are %d, %d times", ins, least, fewest, times)
	}
}

// P1101, P1102: all programs of up to three instructions of few kinds and registers, with all owners of these.
func TestAllShortPrograms(t *testing.T) {
	var kinds []api.Ins
	for x := range 4 {
		for y := range 4 {
			kinds = append(kinds, add(x, y, 3-y), load(x, y), store(x, y))
		}
	}
	kinds = append(kinds, halt)
	for _, i := range kinds {
		whole(t, []api.Ins{i}, 3)
		for _, j := range kinds {
			whole(t, []api.Ins{i, j}, 3)
			for _, k := range kinds {
				whole(t, []api.Ins{i, j, k}, 3)
			}
		}
	}
}

// chance makes numbers, the same ones each time.
type chance uint32

// next is the next number, from 0 to below most.
func (c *chance) next(most int) int {
	*c = *c*1664525 + 1013904223
	return int(*c>>9) % most
}

// some is code of n instructions of registers up to most; one of so many reaches into memory.
func (c *chance) some(n, most, oneOf int) []api.Ins {
	out := make([]api.Ins, n)
	reg := func() int { return c.next(most + 1) }
	for place := range out {
		switch {
		case c.next(oneOf) > 0:
			out[place] = []api.Ins{add(reg(), reg(), reg()), {Op: api.Xori, D: reg(), A: reg(), Imm: 3}, {Op: api.Lui, D: reg()}, {Op: api.Bltu, A: reg(), B: reg()}, {Op: api.Remu, D: reg(), A: reg(), B: reg()}}[c.next(5)]
		case c.next(2) == 0:
			out[place] = api.Ins{Op: api.Lw + c.next(5), D: reg(), A: reg(), Imm: c.next(9)}
		default:
			out[place] = api.Ins{Op: api.Sw + c.next(3), A: reg(), B: reg(), Imm: c.next(9)}
		}
	}
	return out
}

// P1101, P1102: longer programs with all owners, and some of all fifteen registers.
func TestManyPrograms(t *testing.T) {
	c := chance(1101)
	for range 1500 {
		most := 3 + c.next(4)
		whole(t, c.some(1+c.next(12), most, 2+c.next(6)), most)
	}
	for range 6 {
		whole(t, c.some(10+c.next(10), 15, 8), 15)
	}
}

// P1101: A does what A has and needs nothing of E for it, by owners that are Closed; E does the rest.
func TestSideByClosedOwners(t *testing.T) {
	c := chance(11)
	for range 500 {
		ins := c.some(1+c.next(20), 15, 4)
		o := Of(api.Program{Code: ins})
		for _, i := range ins {
			got := Side(i, o)
			if (got == api.Both) != (i.Op > api.Lui) {
				t.Fatalf("Side(%v, %v) = %d", i, o, got)
			}
			if got == api.OnA && (o[i.D] == api.OnE || o[i.A] == api.OnE || o[i.B] == api.OnE) {
				t.Fatalf("A does %v by %v", i, o)
			}
			if got == api.OnE && (o[i.D] == api.OnA || o[i.D] == api.Both && o[i.A] != api.OnE && o[i.B] != api.OnE) {
				t.Fatalf("E does %v by %v", i, o)
			}
		}
	}
}

// P1102: neither a program's lists nor their spare room are changed, and what is in that room has no say.
func TestWhatIsHandedInStays(t *testing.T) {
	ins := []api.Ins{load(1, 2), add(2, 3, 0), halt, store(9, 9), {Op: 77}}
	data := []byte{1, 2, 3, 4}
	insWas, dataWas := slices.Clone(ins), slices.Clone(data)
	p := api.Program{Code: ins[:3], Size: 2, Data: data[:2]}
	o := onA(2, 3)
	if got := Of(p); got != o || !Closed(p, o) {
		t.Errorf("Of(%v) = %v", p, got)
	}
	if Side(ins[1], o) != api.OnA || o != onA(2, 3) {
		t.Errorf("the owners: %v", o)
	}
	if !slices.Equal(ins, insWas) || !slices.Equal(data, dataWas) {
		t.Errorf("the program's lists: %v, %v", ins, data)
	}
}

// P1102: the same arguments have the same answers, whatever was asked between, and Size and Data have no say.
func TestAnswersHangOnArgumentsAlone(t *testing.T) {
	c := chance(1102)
	p := api.Program{Code: []api.Ins{load(1, 2), add(2, 3, 4), {Op: api.Beq, A: 8, B: 9}, store(0, 5)}}
	for n := range 300 {
		other := api.Program{Code: c.some(1+n%30, 15, 3), Size: n, Data: make([]byte, n)}
		o := Of(other)
		Closed(other, onA(n%15+1))
		other.Size, other.Data = 0, nil
		if Of(other) != o || !Closed(other, o) {
			t.Fatalf("Of(%v) = %v, with Size and Data %v", other, Of(other), o)
		}
		Side(other.Code[0], o)
		of(t, p.Code, 2, 3, 4)
		closed(t, false, onA(2, 3), p.Code...)
		side(t, api.OnE, p.Code[1], onA(3, 4))
		if n <= api.MaxMem && Of(api.Program{Code: p.Code, Size: n, Data: make([]byte, n)}) != onA(2, 3, 4) {
			t.Fatalf("Of with Size %d is another", n)
		}
	}
}
