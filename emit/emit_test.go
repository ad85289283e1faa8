package emit

import (
	"math"
	"slices"
	"strconv"
	"strings"
	"testing"

	"forerunner/api"
	"forerunner/isa"
	"forerunner/owner"
)

// add, load, store and branch are ones of these registers.
func add(d, a, b int) api.Ins { return api.Ins{Op: api.Add, D: d, A: a, B: b} }
func load(d, a int) api.Ins   { return api.Ins{Op: api.Lw, D: d, A: a, Imm: 8} }
func store(a, b int) api.Ins  { return api.Ins{Op: api.Sw, A: a, B: b, Imm: -4} }
func branch(a, b int) api.Ins { return api.Ins{Op: api.Beq, A: a, B: b, Imm: 3} }

// onA are the owners with just these registers on A.
func onA(regs ...int) [16]int {
	var o [16]int
	for r := 1; r < 16; r++ {
		o[r] = api.OnE
	}
	for _, r := range regs {
		o[r] = api.OnA
	}
	return o
}

// odd are numbers that are no owner.
var odd = []int{math.MinInt, -1, 3, 4, 1 << 32, 1<<32 + api.OnA, 1<<32 + api.OnE, math.MaxInt}

// kinds are those of cells, from 1 on, as the texts of these tests have them.
var kinds = strings.Fields("do load fetch store send recv pop put branch follow jump halt")

// made are the cells of a text such as "send 1, do", of one instruction.
func made(i api.Ins, pc, off int, text string) []api.Cell {
	var out []api.Cell
	for part := range strings.SplitSeq(text, ", ") {
		name, reg, has := strings.Cut(part, " ")
		if name == "" {
			continue
		}
		c := api.Cell{Kind: 1 + slices.Index(kinds, name), Pc: pc, Off: off}
		switch name {
		case "do", "load", "fetch", "store", "pop", "branch":
			c.Ins = i
		}
		if has {
			c.Reg, _ = strconv.Atoi(reg)
		}
		out = append(out, c)
	}
	return out
}

// bothAt holds the cells of an instruction at a place.
func bothAt(t *testing.T, i api.Ins, o [16]int, pc, off int, a, e string) {
	t.Helper()
	if got := A(i, o, pc, off); !slices.Equal(got, made(i, pc, off, a)) {
		t.Fatalf("A(%v, %v, %d, %d) = %v, want %s", i, o, pc, off, got, a)
	}
	if got := E(i, o, pc, off); !slices.Equal(got, made(i, pc, off, e)) {
		t.Fatalf("E(%v, %v, %d, %d) = %v, want %s", i, o, pc, off, got, e)
	}
}

// both holds the cells of an instruction.
func both(t *testing.T, i api.Ins, o [16]int, a, e string) {
	t.Helper()
	bothAt(t, i, o, 7, 2, a, e)
}

// P1201: the kinds of cells are what api tells.
func TestKinds(t *testing.T) {
	for name, kind := range map[string]int{"do": api.KDo, "load": api.KLoad, "fetch": api.KFetch, "store": api.KStore, "send": api.KSend, "recv": api.KRecv, "pop": api.KPop, "put": api.KPut, "branch": api.KBranch, "follow": api.KFollow, "jump": api.KJump, "halt": api.KHalt} {
		if got := made(api.Ins{}, 0, 0, name)[0].Kind; got != kind {
			t.Fatalf("%s is %d, want %d", name, got, kind)
		}
	}
}

// reckoning is an instruction of forms 1 to 3 with what its form has of these registers.
func reckoning(op, d, a, b int) api.Ins {
	i := api.Ins{Op: op, D: d}
	if op <= api.Srai {
		i.A = a
	}
	if op <= api.Remu {
		i.B = b
	} else {
		i.Imm = 5
	}
	return i
}

// P1201: each operation that reckons: on A by its D, and by what it reads where D is 0.
func TestReckonsOnA(t *testing.T) {
	for op := api.Add; op <= api.Lui; op++ {
		for d := 1; d < 16; d++ {
			both(t, reckoning(op, d, 2, 3), onA(d), "do", "")
			both(t, reckoning(op, d, d, d), onA(d), "do", "")
		}
		both(t, reckoning(op, 1, 2, 3), onA(1, 2, 3), "do", "")
		both(t, reckoning(op, 0, 2, 3), onA(2, 3), "do", "")
		both(t, reckoning(op, 0, 0, 0), onA(), "do", "")
	}
	both(t, api.Ins{Op: api.Lui}, onA(), "do", "")
	both(t, add(0, 0, 4), onA(4), "do", "")
	both(t, add(0, 4, 0), onA(4), "do", "")
}

// P1201: on E: what it reads of A is sent, A ahead of B, each once.
func TestReckonsOnE(t *testing.T) {
	for op := api.Add; op <= api.Remu; op++ {
		both(t, reckoning(op, 1, 2, 3), onA(), "", "do")
		both(t, reckoning(op, 1, 2, 3), onA(2), "send 2", "recv 2, do")
		both(t, reckoning(op, 1, 2, 3), onA(3), "send 3", "recv 3, do")
		both(t, reckoning(op, 1, 2, 3), onA(2, 3), "send 2, send 3", "recv 2, recv 3, do")
		both(t, reckoning(op, 1, 3, 2), onA(2, 3), "send 3, send 2", "recv 3, recv 2, do")
		both(t, reckoning(op, 1, 15, 14), onA(14, 15), "send 15, send 14", "recv 15, recv 14, do")
		both(t, reckoning(op, 1, 4, 4), onA(4), "send 4", "recv 4, do")
		both(t, reckoning(op, 1, 4, 4), onA(5), "", "do")
		both(t, reckoning(op, 1, 1, 1), onA(2), "", "do")
		both(t, reckoning(op, 1, 1, 2), onA(2), "send 2", "recv 2, do")
		both(t, reckoning(op, 1, 2, 1), onA(2), "send 2", "recv 2, do")
		both(t, reckoning(op, 1, 0, 0), onA(), "", "do")
		both(t, reckoning(op, 1, 0, 2), onA(2), "send 2", "recv 2, do")
		both(t, reckoning(op, 1, 2, 0), onA(2), "send 2", "recv 2, do")
		both(t, reckoning(op, 0, 2, 3), onA(), "", "do")
		both(t, reckoning(op, 0, 2, 3), onA(2), "send 2", "recv 2, do")
		both(t, reckoning(op, 0, 2, 3), onA(3), "send 3", "recv 3, do")
		both(t, reckoning(op, 0, 3, 3), onA(2), "", "do")
	}
	for op := api.Addi; op <= api.Srai; op++ {
		both(t, reckoning(op, 1, 2, 0), onA(), "", "do")
		both(t, reckoning(op, 1, 2, 0), onA(2), "send 2", "recv 2, do")
		both(t, reckoning(op, 1, 0, 0), onA(2), "", "do")
		both(t, reckoning(op, 0, 2, 0), onA(3), "", "do")
	}
	both(t, reckoning(api.Lui, 1, 0, 0), onA(2), "", "do")
}

// P1201: each load, each D, on either side; where its A is has no say.
func TestLoads(t *testing.T) {
	for op := api.Lw; op <= api.Lbu; op++ {
		for a := range 16 {
			both(t, api.Ins{Op: op, A: a, Imm: 4}, onA(a), "load", "")
			both(t, api.Ins{Op: op, A: a, Imm: 4}, onA(), "load", "")
			for d := 1; d < 16; d++ {
				i := api.Ins{Op: op, D: d, A: a, Imm: -8192}
				both(t, i, onA(d), "load", "")
				both(t, i, onA(d, a), "load", "")
				both(t, i, onA(), "fetch", "pop")
				if a != d {
					both(t, i, onA(a), "fetch", "pop")
				}
			}
		}
	}
}

// P1201: each store, each B, on either side; where its A is has no say, and A itself is not sent.
func TestStores(t *testing.T) {
	for op := api.Sw; op <= api.Sb; op++ {
		for a := range 16 {
			both(t, api.Ins{Op: op, A: a, Imm: 4}, onA(a), "store", "put 0")
			both(t, api.Ins{Op: op, A: a, Imm: 4}, onA(), "store", "put 0")
			for b := 1; b < 16; b++ {
				n := strconv.Itoa(b)
				i := api.Ins{Op: op, A: a, B: b, Imm: 8191}
				both(t, i, onA(b), "send "+n+", store", "recv "+n+", put "+n)
				both(t, i, onA(b, a), "send "+n+", store", "recv "+n+", put "+n)
				both(t, i, onA(), "store", "put "+n)
				if a != b {
					both(t, i, onA(a), "store", "put "+n)
				}
			}
		}
	}
}

// P1201: each branch: the side that decides, and what is sent to E for it.
func TestBranches(t *testing.T) {
	for op := api.Beq; op <= api.Bgeu; op++ {
		of := func(a, b int) api.Ins { return api.Ins{Op: op, A: a, B: b, Imm: -2} }
		both(t, of(0, 0), onA(), "branch", "follow")
		both(t, of(1, 0), onA(1), "branch", "follow")
		both(t, of(0, 1), onA(1), "branch", "follow")
		both(t, of(1, 2), onA(1, 2), "branch", "follow")
		both(t, of(1, 1), onA(1), "branch", "follow")
		both(t, of(1, 2), onA(), "follow", "branch")
		both(t, of(1, 0), onA(), "follow", "branch")
		both(t, of(0, 1), onA(), "follow", "branch")
		both(t, of(1, 1), onA(2), "follow", "branch")
		both(t, of(1, 2), onA(1), "send 1, follow", "recv 1, branch")
		both(t, of(1, 2), onA(2), "send 2, follow", "recv 2, branch")
		both(t, of(15, 14), onA(15), "send 15, follow", "recv 15, branch")
		both(t, of(15, 14), onA(14), "send 14, follow", "recv 14, branch")
	}
}

// P1201: a jump and a Halt are on both sides; the owners have no say.
func TestJumpAndHalt(t *testing.T) {
	for _, o := range [][16]int{{}, onA(), onA(1, 5), onA(1, 2, 3, 4, 5, 6, 7, 8, 9, 10, 11, 12, 13, 14, 15)} {
		for _, imm := range []int{-8192, -1, 0, 1, 8191} {
			both(t, api.Ins{Op: api.J, Imm: imm}, o, "jump", "jump")
		}
		both(t, api.Ins{Op: api.Halt}, o, "halt", "halt")
	}
	bothAt(t, api.Ins{Op: api.Halt}, [16]int{}, 0, 0, "halt", "halt")
}

// P1201: Pc and Off are in each cell, whatever numbers they are.
func TestPcAndOff(t *testing.T) {
	numbers := []int{math.MinInt, -1 << 33, -1, 0, 1, api.MaxCode, 1 << 32, math.MaxInt}
	for _, pc := range numbers {
		for _, off := range numbers {
			bothAt(t, add(1, 2, 3), onA(1), pc, off, "do", "")
			bothAt(t, add(1, 2, 3), onA(2, 3), pc, off, "send 2, send 3", "recv 2, recv 3, do")
			bothAt(t, load(1, 2), onA(1), pc, off, "load", "")
			bothAt(t, load(1, 2), onA(2), pc, off, "fetch", "pop")
			bothAt(t, store(1, 2), onA(2), pc, off, "send 2, store", "recv 2, put 2")
			bothAt(t, branch(1, 2), onA(1, 2), pc, off, "branch", "follow")
			bothAt(t, branch(1, 2), onA(1), pc, off, "send 1, follow", "recv 1, branch")
			bothAt(t, api.Ins{Op: api.J, Imm: 1}, onA(), pc, off, "jump", "jump")
			bothAt(t, api.Ins{Op: api.Halt}, onA(), pc, off, "halt", "halt")
		}
	}
}

// P1201: register 0 is Both, whatever is handed in.
func TestRegisterZero(t *testing.T) {
	for _, x := range append([]int{api.Both, api.OnA, api.OnE}, odd...) {
		o := onA(1)
		o[0] = x
		both(t, add(0, 0, 0), o, "do", "")
		both(t, add(0, 1, 0), o, "do", "")
		both(t, add(0, 0, 2), o, "", "do")
		both(t, add(0, 1, 2), o, "send 1", "recv 1, do")
		both(t, add(2, 0, 0), o, "", "do")
		both(t, add(2, 0, 1), o, "send 1", "recv 1, do")
		both(t, add(1, 0, 0), o, "do", "")
		both(t, api.Ins{Op: api.Lui}, o, "do", "")
		both(t, load(0, 0), o, "load", "")
		both(t, load(0, 2), o, "load", "")
		both(t, store(0, 0), o, "store", "put 0")
		both(t, store(1, 0), o, "store", "put 0")
		both(t, branch(0, 0), o, "branch", "follow")
		both(t, branch(0, 1), o, "branch", "follow")
		both(t, branch(1, 0), o, "branch", "follow")
		both(t, branch(0, 2), o, "follow", "branch")
		both(t, branch(2, 0), o, "follow", "branch")
	}
}

// P1201: an owner of another register that is none, or Both, is not OnA and not OnE.
func TestOddOwners(t *testing.T) {
	for _, x := range append([]int{api.Both}, odd...) {
		o := onA(1)
		o[2] = x
		both(t, add(2, 1, 1), o, "send 1", "recv 1, do")
		both(t, add(2, 1, 3), o, "send 1", "recv 1, do")
		both(t, add(3, 2, 1), o, "send 1", "recv 1, do")
		both(t, add(3, 1, 2), o, "send 1", "recv 1, do")
		both(t, add(3, 2, 2), o, "", "do")
		both(t, add(1, 2, 3), o, "do", "")
		both(t, add(0, 2, 1), o, "do", "")
		both(t, add(0, 2, 3), o, "", "do")
		both(t, load(2, 1), o, "load", "")
		both(t, load(3, 2), o, "fetch", "pop")
		both(t, store(1, 2), o, "store", "put 2")
		both(t, store(2, 1), o, "send 1, store", "recv 1, put 1")
		both(t, branch(2, 2), o, "branch", "follow")
		both(t, branch(1, 2), o, "branch", "follow")
		both(t, branch(2, 1), o, "branch", "follow")
		both(t, branch(2, 3), o, "follow", "branch")
		both(t, branch(3, 2), o, "follow", "branch")
	}
}

// P1201: what is not Right has no cells.
func TestWrongInstructions(t *testing.T) {
	wrong := []api.Ins{
		{}, {Op: -1}, {Op: 42}, {Op: math.MinInt}, {Op: math.MaxInt}, {Op: 1<<32 + api.Add}, {D: 1, A: 2, B: 3},
		{Op: api.Add, Imm: 1}, {Op: api.Addi, B: 1}, {Op: api.Lui, A: 1}, {Op: api.Lw, B: 1}, {Op: api.Sw, D: 1}, {Op: api.Beq, D: 1},
		{Op: api.J, D: 1}, {Op: api.J, A: 1}, {Op: api.J, B: 1}, {Op: api.Halt, D: 1}, {Op: api.Halt, A: 1}, {Op: api.Halt, B: 1}, {Op: api.Halt, Imm: 1},
		{Op: api.Slli, Imm: -1}, {Op: api.Slli, Imm: 32},
	}
	for _, r := range []int{math.MinInt, -16, -1, 16, 1 << 32, math.MaxInt} {
		wrong = append(wrong, add(r, 1, 1), add(1, r, 1), add(1, 1, r), add(r, r, r), add(0, r, 0), add(0, 0, r), load(r, 1), load(1, r), store(r, 1), store(1, r), branch(r, 1), branch(1, r))
	}
	for _, imm := range []int{math.MinInt, -8193, 8192, 1 << 32, math.MaxInt} {
		for op := api.Addi; op <= api.J; op++ {
			wrong = append(wrong, api.Ins{Op: op, Imm: imm})
		}
	}
	for _, i := range wrong {
		for _, o := range [][16]int{{}, onA(), onA(1), onA(1, 2, 3, 4, 5, 6, 7, 8, 9, 10, 11, 12, 13, 14, 15)} {
			both(t, i, o, "", "")
		}
	}
}

// sent are those of the words: of what is read what is on A, each once, in order.
func sent(i api.Ins, o [16]int) []int {
	var out []int
	if i.A != 0 && o[i.A] == api.OnA {
		out = append(out, i.A)
	}
	if i.B != 0 && o[i.B] == api.OnA && i.B != i.A {
		out = append(out, i.B)
	}
	return out
}

// texts are the cells of A and of E by the words, of an instruction that is right.
func texts(i api.Ins, o [16]int) (string, string) {
	var send, recv string
	for _, r := range sent(i, o) {
		send += "send " + strconv.Itoa(r) + ", "
		recv += "recv " + strconv.Itoa(r) + ", "
	}
	readsE := i.A != 0 && o[i.A] == api.OnE || i.B != 0 && o[i.B] == api.OnE
	b := strconv.Itoa(i.B)
	switch {
	case i.Op <= api.Lui && (i.D != 0 && o[i.D] == api.OnA || i.D == 0 && !readsE):
		return "do", ""
	case i.Op <= api.Lui:
		return send, recv + "do"
	case i.Op <= api.Lbu && i.D != 0 && o[i.D] == api.OnE:
		return "fetch", "pop"
	case i.Op <= api.Lbu:
		return "load", ""
	case i.Op <= api.Sb && i.B != 0 && o[i.B] == api.OnA:
		return "send " + b + ", store", "recv " + b + ", put " + b
	case i.Op <= api.Sb:
		return "store", "put " + b
	case i.Op <= api.Bgeu && !readsE:
		return "branch", "follow"
	case i.Op <= api.Bgeu:
		return send + "follow", recv + "branch"
	case i.Op == api.J:
		return "jump", "jump"
	}
	return "halt", "halt"
}

// eachOf tells all right instructions of registers 0 to 3.
func eachOf(tell func(i api.Ins)) {
	for op := api.Add; op <= api.Halt; op++ {
		for n := range 64 {
			i := api.Ins{Op: op, D: n & 3, A: n >> 2 & 3, B: n >> 4}
			if isa.Right(i) {
				tell(i)
			}
		}
	}
}

// P1201: all instructions of few registers, with all owners of these.
func TestAllOfFewRegisters(t *testing.T) {
	sides := []int{api.Both, api.OnA, api.OnE, 3}
	for n := range 256 {
		o := [16]int{sides[n&3], sides[n>>2&3], sides[n>>4&3], sides[n>>6]}
		eachOf(func(i api.Ins) {
			a, e := texts(i, o)
			both(t, i, o, a, e)
		})
	}
}

// regsOf are the registers of the cells of one kind.
func regsOf(cells []api.Cell, kind int) []int {
	var out []int
	for _, c := range cells {
		if c.Kind == kind {
			out = append(out, c.Reg)
		}
	}
	return out
}

// count is how many cells are of one kind.
func count(cells []api.Cell, kind int) int { return len(regsOf(cells, kind)) }

// P1201: by owners that are Closed each side names what it has alone, and what one puts in the other takes out; none has more than three cells.
func TestSidesMeet(t *testing.T) {
	for n := range 8 {
		var regs []int
		for r := 1; r < 4; r++ {
			if n>>(r-1)&1 == 1 {
				regs = append(regs, r)
			}
		}
		o := onA(regs...)
		eachOf(func(i api.Ins) {
			if !owner.Closed(api.Program{Code: []api.Ins{i}}, o) {
				return
			}
			a, e := A(i, o, 0, 0), E(i, o, 0, 0)
			meet(t, i, o, a, e)
			for _, c := range a {
				named := append(isa.Reads(c.Ins), c.Reg)
				if c.Kind == api.KStore {
					named = []int{c.Ins.A}
				}
				for _, r := range named {
					if o[r] == api.OnE {
						t.Fatalf("A names %d in %v of %v by %v", r, c, i, o)
					}
				}
			}
			has := regsOf(e, api.KRecv)
			for _, c := range e {
				named := isa.Reads(c.Ins)
				switch c.Kind {
				case api.KPop:
					named = []int{c.Ins.D}
				case api.KPut:
					named = []int{c.Reg}
				}
				for _, r := range named {
					if o[r] == api.OnA && !slices.Contains(has, r) {
						t.Fatalf("E has no %d in %v of %v by %v", r, c, i, o)
					}
				}
			}
		})
	}
}

// meet holds that what the cells of A put in those of E take out.
func meet(t *testing.T, i api.Ins, o [16]int, a, e []api.Cell) {
	t.Helper()
	ok := slices.Equal(regsOf(a, api.KSend), regsOf(e, api.KRecv)) &&
		count(a, api.KFetch) == count(e, api.KPop) &&
		count(a, api.KStore) == count(e, api.KPut) &&
		count(a, api.KBranch) == count(e, api.KFollow) &&
		count(a, api.KFollow) == count(e, api.KBranch) &&
		count(a, api.KDo)+count(e, api.KDo) < 2 &&
		len(a) <= 3 && len(e) <= 3 && len(a)+len(e) > 0
	if !ok {
		t.Fatalf("%v by %v: %v and %v do not meet", i, o, a, e)
	}
}

// P1202: what is answered is new memory, and hangs on the arguments alone, whatever was asked between.
func TestAnswersAreNew(t *testing.T) {
	o := onA(1, 2)
	for _, i := range []api.Ins{add(3, 1, 2), add(1, 2, 2), load(1, 1), load(3, 1), store(1, 2), store(1, 3), branch(1, 2), branch(1, 3), {Op: api.J, Imm: 1}, {Op: api.Halt}} {
		textA, textE := texts(i, o)
		a, e := A(i, o, 7, 2), E(i, o, 7, 2)
		for _, cells := range [][]api.Cell{a, e, A(i, o, 7, 2), E(i, o, 7, 2)} {
			for n := range cells[:cap(cells)] {
				cells[:cap(cells)][n] = api.Cell{Kind: 99, Reg: 99}
			}
		}
		both(t, i, o, textA, textE)
		if o != onA(1, 2) {
			t.Fatalf("the owners: %v", o)
		}
	}
	// What was answered stays when more is asked.
	i := add(3, 1, 2)
	a, e := A(i, o, 7, 2), E(i, o, 7, 2)
	other := E(i, onA(), 8, 3)
	if !slices.Equal(a, made(i, 7, 2, "send 1, send 2")) || !slices.Equal(e, made(i, 7, 2, "recv 1, recv 2, do")) || !slices.Equal(other, made(i, 8, 3, "do")) {
		t.Fatalf("the answers: %v, %v, %v", a, e, other)
	}
}
