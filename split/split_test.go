package split

import (
	"math"
	"slices"
	"strconv"
	"strings"
	"testing"

	"forerunner/api"
	"forerunner/blocks"
	"forerunner/emit"
	"forerunner/image"
	"forerunner/owner"
)

var (
	nop  = api.Ins{Op: api.Addi}
	halt = api.Ins{Op: api.Halt}
)

// add, load, store, branch and jump are ones of these registers and numbers.
func add(d, a, b int) api.Ins      { return api.Ins{Op: api.Add, D: d, A: a, B: b} }
func load(d, a int) api.Ins        { return api.Ins{Op: api.Lw, D: d, A: a, Imm: 8} }
func store(a, b int) api.Ins       { return api.Ins{Op: api.Sw, A: a, B: b, Imm: -4} }
func branch(a, b, imm int) api.Ins { return api.Ins{Op: api.Bne, A: a, B: b, Imm: imm} }
func jump(imm int) api.Ins         { return api.Ins{Op: api.J, Imm: imm} }

// onA are the owners with just these registers on A.
func onA(regs ...int) [16]int {
	var o [16]int
	for r := 1; r < 16; r++ {
		o[r] = api.OnE
	}
	for _, r := range regs {
		o[r] = api.OnA
	}
	return o
}

// all are the owners with all registers on A.
func all() [16]int { return onA(1, 2, 3, 4, 5, 6, 7, 8, 9, 10, 11, 12, 13, 14, 15) }

// want is a block: From, To, Next, Taken; its cells as texts such as "0 send 1, 0 store": Off, what it is, and its register.
type want struct {
	row  [4]int
	a, e string
}

// kinds are those of cells, from 1 on, as the texts have them.
var kinds = strings.Fields("do load fetch store send recv pop put branch follow jump halt")

// made are the cells of a text, of a block that begins at from.
func made(code []api.Ins, from int, text string) []api.Cell {
	var out []api.Cell
	for part := range strings.SplitSeq(text, ", ") {
		words := strings.Fields(part)
		if len(words) == 0 {
			continue
		}
		off, _ := strconv.Atoi(words[0])
		c := api.Cell{Kind: 1 + slices.Index(kinds, words[1]), Pc: from + off, Off: off}
		switch words[1] {
		case "do", "load", "fetch", "store", "pop", "branch":
			c.Ins = code[from+off]
		}
		if len(words) > 2 {
			c.Reg, _ = strconv.Atoi(words[2])
		}
		out = append(out, c)
	}
	return out
}

// holds holds a split against blocks, without the help of Same.
func holds(t *testing.T, s api.Split, code []api.Ins, o [16]int, wants []want) {
	t.Helper()
	if s.Owner != o || len(s.Blocks) != len(wants) {
		t.Fatalf("%v by %v: %d blocks, want %d; owners %v", code, o, len(s.Blocks), len(wants), s.Owner)
	}
	for n, b := range s.Blocks {
		w := wants[n]
		if row := [4]int{b.From, b.To, b.Next, b.Taken}; row != w.row {
			t.Fatalf("%v by %v: block %d is %v, want %v", code, o, n, row, w.row)
		}
		if x := made(code, b.From, w.a); !slices.Equal(b.A, x) {
			t.Fatalf("%v by %v: block %d has the A %v, want %v", code, o, n, b.A, x)
		}
		if x := made(code, b.From, w.e); !slices.Equal(b.E, x) {
			t.Fatalf("%v by %v: block %d has the E %v, want %v", code, o, n, b.E, x)
		}
	}
}

// with holds the split of code by owners.
func with(t *testing.T, code []api.Ins, o [16]int, wants ...want) {
	t.Helper()
	s, e := With(api.Program{Code: code}, o)
	if e != api.OK {
		t.Fatalf("With(%v, %v): %d", code, o, e)
	}
	holds(t, s, code, o, wants)
}

// of holds the split of code by the fewest on A, which are these.
func of(t *testing.T, code []api.Ins, o [16]int, wants ...want) {
	t.Helper()
	s, e := Of(api.Program{Code: code})
	if e != api.OK {
		t.Fatalf("Of(%v): %d", code, e)
	}
	holds(t, s, code, o, wants)
	with(t, code, o, wants...)
}

// P1301: the kinds of cells are what api tells.
func TestKinds(t *testing.T) {
	for name, kind := range map[string]int{"do": api.KDo, "load": api.KLoad, "fetch": api.KFetch, "store": api.KStore, "send": api.KSend, "recv": api.KRecv, "pop": api.KPop, "put": api.KPut, "branch": api.KBranch, "follow": api.KFollow, "jump": api.KJump, "halt": api.KHalt} {
		if got := made([]api.Ins{nop}, 0, "0 "+name)[0].Kind; got != kind {
			t.Fatalf("%s is %d, want %d", name, got, kind)
		}
	}
}

// P1301: programs of one instruction.
func TestShortest(t *testing.T) {
	one := [4]int{0, 1, -1, -1}
	of(t, []api.Ins{halt}, onA(), want{one, "0 halt", "0 halt"})
	of(t, []api.Ins{nop}, onA(), want{one, "0 do", ""})
	of(t, []api.Ins{add(1, 2, 3)}, onA(), want{one, "", "0 do"})
	of(t, []api.Ins{load(1, 2)}, onA(2), want{one, "0 fetch", "0 pop"})
	of(t, []api.Ins{load(2, 2)}, onA(2), want{one, "0 load", ""})
	of(t, []api.Ins{store(2, 1)}, onA(2), want{one, "0 store", "0 put 1"})
	of(t, []api.Ins{store(2, 2)}, onA(2), want{one, "0 send 2, 0 store", "0 recv 2, 0 put 2"})
	of(t, []api.Ins{branch(1, 2, 0)}, onA(), want{[4]int{0, 1, -1, 0}, "0 follow", "0 branch"})
	of(t, []api.Ins{jump(0)}, onA(), want{[4]int{0, 1, -1, 0}, "0 jump", "0 jump"})
}

// loop adds up words: 1 is where they are, 2 where they end, 3 the sum, which is stored.
var loop = []api.Ins{
	{Op: api.Addi, D: 1, Imm: 16},
	{Op: api.Addi, D: 2, Imm: 64},
	load(4, 1),
	add(3, 3, 4),
	{Op: api.Addi, D: 1, A: 1, Imm: 4},
	branch(1, 2, -3),
	store(1, 3),
	halt,
}

// P1301: a loop, by the fewest on A and by more.
func TestLoop(t *testing.T) {
	rows := [][4]int{{0, 2, 1, -1}, {2, 6, 2, 1}, {6, 8, -1, -1}}
	of(t, loop, onA(1),
		want{rows[0], "0 do", "1 do"},
		want{rows[1], "0 fetch, 2 do, 3 send 1, 3 follow", "0 pop, 1 do, 3 recv 1, 3 branch"},
		want{rows[2], "0 store, 1 halt", "0 put 3, 1 halt"})
	with(t, loop, onA(1, 2),
		want{rows[0], "0 do, 1 do", ""},
		want{rows[1], "0 fetch, 2 do, 3 branch", "0 pop, 1 do, 3 follow"},
		want{rows[2], "0 store, 1 halt", "0 put 3, 1 halt"})
	with(t, loop, onA(1, 4),
		want{rows[0], "0 do", "1 do"},
		want{rows[1], "0 load, 1 send 4, 2 do, 3 send 1, 3 follow", "1 recv 4, 1 do, 3 recv 1, 3 branch"},
		want{rows[2], "0 store, 1 halt", "0 put 3, 1 halt"})
	with(t, loop, all(),
		want{rows[0], "0 do, 1 do", ""},
		want{rows[1], "0 load, 1 do, 2 do, 3 branch", "3 follow"},
		want{rows[2], "0 send 3, 0 store, 1 halt", "0 recv 3, 0 put 3, 1 halt"})
}

// P1301: Off begins at 0 in each block, though an instruction of A or of E alone has no cell of the other; Pc goes on.
func TestOffInEachBlock(t *testing.T) {
	code := []api.Ins{add(3, 3, 3), load(2, 2), branch(3, 0, 3), add(4, 4, 2), jump(-2), halt, nop}
	of(t, code, onA(2),
		want{[4]int{0, 2, 1, -1}, "1 load", "0 do"},
		want{[4]int{2, 3, 2, 3}, "0 follow", "0 branch"},
		want{[4]int{3, 5, -1, 1}, "0 send 2, 1 jump", "0 recv 2, 0 do, 1 jump"},
		want{[4]int{5, 6, -1, -1}, "0 halt", "0 halt"},
		want{[4]int{6, 7, -1, -1}, "0 do", ""})
	// An instruction of three cells, on both sides.
	code = []api.Ins{nop, store(2, 2), load(3, 3), add(1, 2, 3), branch(2, 3, -4), add(1, 3, 2)}
	of(t, code, onA(2, 3),
		want{[4]int{0, 5, 1, 0}, "0 do, 1 send 2, 1 store, 2 load, 3 send 2, 3 send 3, 4 branch", "1 recv 2, 1 put 2, 3 recv 2, 3 recv 3, 3 do, 4 follow"},
		want{[4]int{5, 6, -1, -1}, "0 send 3, 0 send 2", "0 recv 3, 0 recv 2, 0 do"})
}

// refused holds that there is no split by these owners.
func refused(t *testing.T, p api.Program, o [16]int) {
	t.Helper()
	if s, e := With(p, o); e != api.ErrArg || s.Blocks != nil || s.Owner != [16]int{} {
		t.Fatalf("With(%v, %v) = %v, %d", p, o, s, e)
	}
}

// none holds that there is no split at all.
func none(t *testing.T, p api.Program) {
	t.Helper()
	if s, e := Of(p); e != api.ErrArg || s.Blocks != nil || s.Owner != [16]int{} {
		t.Fatalf("Of(%v) = %v, %d", p, s, e)
	}
	for _, o := range [][16]int{{}, onA(), onA(1), all()} {
		refused(t, p, o)
	}
}

// P1301: what is not Right is ErrArg.
func TestWrongPrograms(t *testing.T) {
	none(t, api.Program{})
	none(t, api.Program{Code: []api.Ins{}, Size: 8, Data: []byte{1}})
	for _, size := range []int{math.MinInt, -1 << 32, -1, api.MaxMem + 1, 1 << 32, math.MaxInt} {
		none(t, api.Program{Code: []api.Ins{halt}, Size: size})
	}
	none(t, api.Program{Code: []api.Ins{halt}, Size: 1, Data: []byte{0, 0}})
	none(t, api.Program{Code: slices.Repeat([]api.Ins{halt}, api.MaxCode+1)})
	wrong := []api.Ins{
		{}, {Op: -1}, {Op: 42}, {Op: math.MinInt}, {Op: math.MaxInt}, {Op: 1<<32 + api.Add},
		add(16, 0, 0), add(-1, 0, 0), add(1, math.MaxInt, 0), add(1, 2, math.MinInt), load(1, 16), store(-1, 1), branch(1, 16, 0),
		{Op: api.Add, Imm: 1}, {Op: api.Halt, Imm: 1}, {Op: api.J, D: 1}, {Op: api.Srai, Imm: 32}, {Op: api.Lw, Imm: 8192},
		jump(3), jump(-3), branch(1, 2, 4), branch(1, 2, -4), jump(math.MaxInt), branch(0, 0, math.MinInt),
	}
	for _, i := range wrong {
		for place := range 3 {
			code := []api.Ins{add(1, 1, 1), nop, halt}
			code[place] = i
			none(t, api.Program{Code: code})
		}
	}
}

// P1301: owners that are not Closed are ErrArg, those that are none, too.
func TestWrongOwners(t *testing.T) {
	code := []api.Ins{load(1, 2), store(3, 4), add(2, 5, 6), branch(7, 8, -3), halt}
	p := api.Program{Code: code, Size: 16, Data: []byte{1}}
	need := []int{2, 3, 5, 6}
	if s, e := Of(p); e != api.OK || s.Owner != onA(need...) {
		t.Fatalf("Of(%v) = %v, %d", p, s, e)
	}
	for r := 1; r < 16; r++ {
		o := onA(need...)
		o[r] = api.OnE
		if slices.Contains(need, r) {
			refused(t, p, o)
		} else if _, e := With(p, o); e != api.OK {
			t.Fatalf("With(%v, %v): %d", p, o, e)
		}
		o[r] = api.OnA
		// None of the others needs more to be there.
		if s, e := With(p, o); e != api.OK || s.Owner != o {
			t.Fatalf("With(%v, %v) = %v, %d", p, o, s, e)
		}
		for _, x := range []int{math.MinInt, -1, api.Both, 3, 1 << 32, 1<<32 + api.OnA, math.MaxInt} {
			o[r] = x
			refused(t, p, o)
		}
	}
	for _, x := range []int{math.MinInt, -1, api.OnA, api.OnE, 3, 1 << 32, math.MaxInt} {
		for _, o := range [][16]int{onA(need...), all()} {
			o[0] = x
			refused(t, p, o)
		}
	}
	refused(t, p, [16]int{})
	refused(t, p, onA())
	refused(t, api.Program{Code: []api.Ins{halt}}, [16]int{})
}

// byWords holds the split of a program by owners against the promise's words: blocks.Cut's, with emit's cells.
func byWords(t *testing.T, p api.Program, o [16]int, s api.Split) {
	t.Helper()
	cut := blocks.Cut(p)
	if s.Owner != o || len(s.Blocks) != len(cut) {
		t.Fatalf("%v by %v: %v", p.Code, o, s)
	}
	for n, b := range s.Blocks {
		var a, e []api.Cell
		for off := 0; off < cut[n].To-cut[n].From; off++ {
			pc := cut[n].From + off
			a = append(a, emit.A(p.Code[pc], o, pc, off)...)
			e = append(e, emit.E(p.Code[pc], o, pc, off)...)
		}
		if b.From != cut[n].From || b.To != cut[n].To || b.Next != cut[n].Next || b.Taken != cut[n].Taken || !slices.Equal(b.A, a) || !slices.Equal(b.E, e) {
			t.Fatalf("%v by %v: block %d: %v", p.Code, o, n, b)
		}
	}
}

// whole holds With of a program by owners, and Of, against the words.
func whole(t *testing.T, p api.Program, owners ...[16]int) {
	t.Helper()
	least, e := Of(p)
	if e != api.OK {
		t.Fatalf("Of(%v): %d", p, e)
	}
	byWords(t, p, owner.Of(p), least)
	for _, o := range append(owners, all()) {
		s, e := With(p, o)
		if !owner.Closed(p, o) {
			if e != api.ErrArg || s.Blocks != nil || s.Owner != [16]int{} {
				t.Fatalf("With(%v, %v) = %v, %d", p, o, s, e)
			}
			continue
		}
		if e != api.OK {
			t.Fatalf("With(%v, %v): %d", p, o, e)
		}
		byWords(t, p, o, s)
		meet(t, s)
		if Same(s, least) != (o == least.Owner) {
			t.Fatalf("Same of %v and %v", s, least)
		}
	}
}

// what are, of the cells of one side, those of these kinds, in order: their registers, and their places.
func what(cells []api.Cell, of ...int) []string {
	var out []string
	for _, c := range cells {
		if slices.Contains(of, c.Kind) {
			out = append(out, strconv.Itoa(c.Reg)+" at "+strconv.Itoa(c.Pc))
		}
	}
	return out
}

// places are, of the cells of one side, those of one kind: their places.
func places(cells []api.Cell, kind int) []int {
	var out []int
	for _, c := range cells {
		if c.Kind == kind {
			out = append(out, c.Pc)
		}
	}
	return out
}

// meet holds that in each block what one side puts in the other takes out, in order, and that both end alike.
func meet(t *testing.T, s api.Split) {
	t.Helper()
	for n, b := range s.Blocks {
		ok := slices.Equal(what(b.A, api.KSend), what(b.E, api.KRecv)) &&
			slices.Equal(places(b.A, api.KFetch), places(b.E, api.KPop)) &&
			slices.Equal(places(b.A, api.KStore), places(b.E, api.KPut)) &&
			slices.Equal(places(b.A, api.KBranch), places(b.E, api.KFollow)) &&
			slices.Equal(places(b.A, api.KFollow), places(b.E, api.KBranch)) &&
			slices.Equal(places(b.A, api.KJump), places(b.E, api.KJump)) &&
			slices.Equal(places(b.A, api.KHalt), places(b.E, api.KHalt)) &&
			len(b.A)+len(b.E) >= b.To-b.From
		for _, c := range slices.Concat(b.A, b.E) {
			ok = ok && b.From <= c.Pc && c.Pc < b.To && c.Off == c.Pc-b.From
			ok = ok && (c.Kind < api.KBranch || c.Pc == b.To-1)
		}
		if !ok {
			t.Fatalf("block %d does not meet: %v", n, b)
		}
	}
}

// P1301, P1302: all programs of up to three instructions of few kinds and registers, with all owners of these.
func TestAllShortPrograms(t *testing.T) {
	for n := 1; n <= 3; n++ {
		each(n, func(code []api.Ins) { whole(t, api.Program{Code: code}, onA(), onA(1), onA(2), onA(1, 2)) })
	}
}

// each tells all programs of n instructions of few kinds.
func each(n int, tell func(code []api.Ins)) {
	kinds := []api.Ins{nop, add(1, 2, 2), add(2, 1, 0), add(0, 1, 2), load(1, 2), load(2, 2), load(0, 0), store(1, 2), store(2, 0), halt}
	most := len(kinds) + 2*n
	total := 1
	for range n {
		total *= most
	}
	for which := range total {
		code := make([]api.Ins, n)
		for place := range code {
			kind := which % most
			which /= most
			switch {
			case kind < len(kinds):
				code[place] = kinds[kind]
			case kind < len(kinds)+n:
				code[place] = branch(1, 2, kind-len(kinds)-place)
			default:
				code[place] = jump(kind - len(kinds) - n - place)
			}
		}
		tell(code)
	}
}

// chance makes numbers, the same ones each time.
type chance uint32

// next is the next number, from 0 to below most.
func (c *chance) next(most int) int {
	*c = *c*1664525 + 1013904223
	return int(*c>>9) % most
}

// some is code of n instructions of registers up to most.
func (c *chance) some(n, most int) []api.Ins {
	out := make([]api.Ins, n)
	reg := func() int { return c.next(most + 1) }
	for place := range out {
		i := api.Ins{Op: 1 + c.next(api.Halt)}
		switch {
		case i.Op <= api.Remu:
			i.D, i.A, i.B = reg(), reg(), reg()
		case i.Op <= api.Srai:
			i.D, i.A, i.Imm = reg(), reg(), c.next(32)
		case i.Op == api.Lui:
			i.D, i.Imm = reg(), c.next(99)
		case i.Op <= api.Lbu:
			i.D, i.A, i.Imm = reg(), reg(), c.next(9)
		case i.Op <= api.Sb:
			i.A, i.B, i.Imm = reg(), reg(), c.next(9)
		case i.Op <= api.Bgeu:
			i.A, i.B, i.Imm = reg(), reg(), c.next(n)-place
		case i.Op == api.J:
			i.Imm = c.next(n) - place
		}
		out[place] = i
	}
	return out
}

// P1301, P1302: longer programs, with the fewest on A and with more, and some with fewer.
func TestManyPrograms(t *testing.T) {
	c := chance(1301)
	for range 3000 {
		p := api.Program{Code: c.some(1+c.next(40), 3+c.next(13)), Size: 8, Data: []byte{1, 2}}
		var owners [][16]int
		for range 4 {
			o := owner.Of(p)
			for r := 1; r < 16; r++ {
				if c.next(8) == 0 {
					o[r] = 3 - o[r]
				}
			}
			owners = append(owners, o)
		}
		whole(t, p, owners...)
	}
}

// P1302: each program that is Right is split, the longest ones, too, with as much memory as there may be.
func TestLongestPrograms(t *testing.T) {
	n := api.MaxCode
	c := chance(1302)
	codes := [][]api.Ins{c.some(n, 15), c.some(n, 2), slices.Repeat([]api.Ins{add(3, 1, 2), store(1, 2)}, n/2)}
	for _, i := range []api.Ins{halt, jump(0), nop} {
		codes = append(codes, slices.Repeat([]api.Ins{i}, n))
	}
	for _, code := range codes {
		p := api.Program{Code: code, Size: api.MaxMem, Data: make([]byte, api.MaxMem)}
		whole(t, p, onA(), onA(1, 2))
		if s, _ := Of(p); s.Blocks[len(s.Blocks)-1].To != n {
			t.Fatalf("the last block ends at %d", s.Blocks[len(s.Blocks)-1].To)
		}
	}
	// In a block of all instructions the last Off is the last place.
	one, _ := With(api.Program{Code: slices.Repeat([]api.Ins{add(1, 2, 3)}, n)}, onA(2, 3))
	if b := one.Blocks[0]; len(one.Blocks) != 1 || len(b.A) != 2*n || len(b.E) != 3*n || b.E[3*n-1] != (api.Cell{Kind: api.KDo, Ins: add(1, 2, 3), Pc: n - 1, Off: n - 1}) {
		t.Fatalf("%d blocks, %d and %d cells", len(one.Blocks), len(b.A), len(b.E))
	}
}

// P1302: just what is Right is split.
func TestSplitIfRight(t *testing.T) {
	c := chance(13)
	for range 3000 {
		p := api.Program{Code: c.some(1+c.next(6), 15), Size: c.next(5), Data: make([]byte, c.next(5))}
		i := &p.Code[c.next(len(p.Code))]
		switch c.next(5) {
		case 0:
			i.Op += c.next(5) - 2
		case 1:
			i.B += c.next(5) - 2
		case 2:
			i.Imm += c.next(3) - 1
		}
		s, e := Of(p)
		if (e == api.OK) != image.Right(p) || (e == api.OK) != (len(s.Blocks) > 0) {
			t.Fatalf("Of(%v) = %v, %d", p, s, e)
		}
	}
}

// full is a split, of no program, in which each number is another one.
func full() api.Split {
	var s api.Split
	n := 0
	next := func() int { n++; return n }
	cell := func() api.Cell {
		return api.Cell{Kind: next(), Ins: api.Ins{Op: next(), D: next(), A: next(), B: next(), Imm: next()}, Reg: next(), Pc: next(), Off: next()}
	}
	for range 3 {
		s.Blocks = append(s.Blocks, api.Block{From: next(), To: next(), Next: next(), Taken: next(), A: []api.Cell{cell(), cell()}, E: []api.Cell{cell(), cell(), cell()}})
	}
	for r := range s.Owner {
		s.Owner[r] = next()
	}
	return s
}

// numbers are where all numbers of a split are.
func numbers(s *api.Split) []*int {
	var out []*int
	for n := range s.Blocks {
		b := &s.Blocks[n]
		out = append(out, &b.From, &b.To, &b.Next, &b.Taken)
		for _, cells := range [][]api.Cell{b.A, b.E} {
			for k := range cells {
				c := &cells[k]
				out = append(out, &c.Kind, &c.Ins.Op, &c.Ins.D, &c.Ins.A, &c.Ins.B, &c.Ins.Imm, &c.Reg, &c.Pc, &c.Off)
			}
		}
	}
	for r := range s.Owner {
		out = append(out, &s.Owner[r])
	}
	return out
}

// same holds Same of two splits, both ways round.
func same(t *testing.T, a, b api.Split, is bool) {
	t.Helper()
	if Same(a, b) != is || Same(b, a) != is {
		t.Fatalf("Same of %v and %v is not %v", a, b, is)
	}
}

// P1301: Same looks at each number, wherever it is.
func TestSameOfEachNumber(t *testing.T) {
	a := full()
	same(t, a, full(), true)
	count := len(numbers(&a))
	for n := range count {
		for _, x := range []int{math.MinInt, -1, 0, math.MaxInt} {
			b := full()
			*numbers(&b)[n] = x
			same(t, a, b, false)
		}
		b, c := full(), full()
		*numbers(&b)[n] += 1 << 32
		same(t, a, b, false)
		*numbers(&c)[n] += 1 << 32
		same(t, b, c, true)
		// Two numbers that have changed places are others, though all are there.
		x, y := numbers(&b)[n], numbers(&b)[(n+1)%count]
		*x, *y = *y, *x
		same(t, b, c, false)
	}
}

// P1301: Same looks at how many there are of all, and at their order; nil and an empty list are the same.
func TestSameOfLists(t *testing.T) {
	a := full()
	changes := []func(s *api.Split){
		func(s *api.Split) { s.Blocks = nil },
		func(s *api.Split) { s.Blocks = s.Blocks[:2] },
		func(s *api.Split) { s.Blocks = s.Blocks[1:] },
		func(s *api.Split) { s.Blocks = append(s.Blocks, api.Block{}) },
		func(s *api.Split) { slices.Reverse(s.Blocks) },
	}
	for n := range a.Blocks {
		changes = append(changes,
			func(s *api.Split) { s.Blocks[n].A = nil },
			func(s *api.Split) { s.Blocks[n].A = s.Blocks[n].A[:1] },
			func(s *api.Split) { s.Blocks[n].A = s.Blocks[n].A[1:] },
			func(s *api.Split) { s.Blocks[n].A = append(s.Blocks[n].A, api.Cell{}) },
			func(s *api.Split) { slices.Reverse(s.Blocks[n].A) },
			func(s *api.Split) { s.Blocks[n].E = nil },
			func(s *api.Split) { s.Blocks[n].E = s.Blocks[n].E[:2] },
			func(s *api.Split) { s.Blocks[n].E = s.Blocks[n].E[1:] },
			func(s *api.Split) { s.Blocks[n].E = append(s.Blocks[n].E, api.Cell{}) },
			func(s *api.Split) { slices.Reverse(s.Blocks[n].E) },
			func(s *api.Split) { s.Blocks[n].A, s.Blocks[n].E = s.Blocks[n].E, s.Blocks[n].A },
		)
	}
	for _, change := range changes {
		b, c := full(), full()
		change(&b)
		same(t, a, b, false)
		change(&c)
		same(t, b, c, true)
	}
	same(t, api.Split{}, api.Split{}, true)
	same(t, api.Split{}, api.Split{Blocks: []api.Block{}}, true)
	same(t, api.Split{}, api.Split{Blocks: []api.Block{{}}}, false)
	same(t, api.Split{Blocks: []api.Block{{}, {}}}, api.Split{Blocks: []api.Block{{A: []api.Cell{}}, {E: []api.Cell{}}}}, true)
	same(t, api.Split{Blocks: []api.Block{{A: []api.Cell{{}}}}}, api.Split{Blocks: []api.Block{{E: []api.Cell{{}}}}}, false)
}

// P1302: Same changes nothing, and what is behind the lists' ends has no say.
func TestSameAndSpareRoom(t *testing.T) {
	a, b := full(), full()
	longer := append(a.Blocks, api.Block{From: 7, A: []api.Cell{{Reg: 1}}})
	a.Blocks = longer[:3]
	cells := append(a.Blocks[0].A, api.Cell{Kind: 99})
	a.Blocks[0].A = cells[:2]
	same(t, a, b, true)
	if longer[3].From != 7 || longer[3].A[0].Reg != 1 || cells[2].Kind != 99 {
		t.Errorf("the room behind the ends: %v, %v", longer[3], cells[2])
	}
	for n, x := range numbers(&a) {
		if *x != n+1 {
			t.Errorf("number %d is %d", n+1, *x)
		}
	}
	// A longer list's beginning is not the list.
	a.Blocks = longer
	same(t, a, b, false)
}

// P1302: neither a program's lists nor their spare room are changed, and what is in that room has no say.
func TestWhatIsHandedInStays(t *testing.T) {
	code := append(slices.Clone(loop), store(9, 9), api.Ins{Op: 77}, jump(-1))
	data := []byte{1, 2, 3, 4}
	codeWas, dataWas := slices.Clone(code), slices.Clone(data)
	p := api.Program{Code: code[:len(loop)], Size: 2, Data: data[:2]}
	s, e := Of(p)
	bare, _ := Of(api.Program{Code: slices.Clone(loop)})
	if e != api.OK || !Same(s, bare) || s.Owner != onA(1) {
		t.Errorf("Of(%v) = %v, %d", p, s, e)
	}
	if s, e = With(p, onA(1, 2)); e != api.OK || len(s.Blocks) != 3 {
		t.Errorf("With(%v) = %v, %d", p, s, e)
	}
	none(t, api.Program{Code: code, Size: 2, Data: data[:2]})
	none(t, api.Program{Code: code[:len(loop)], Size: 2, Data: data})
	if !slices.Equal(code, codeWas) || !slices.Equal(data, dataWas) {
		t.Errorf("the program's lists: %v, %v", code, data)
	}
}

// P1302: an answer is new memory, each list of its own, and hangs on the arguments alone.
func TestAnswersAreNew(t *testing.T) {
	p := api.Program{Code: slices.Clone(loop), Size: 4, Data: []byte{1}}
	first, _ := Of(p)
	kept, _ := Of(p)
	// What is put behind one list's end, or into it, is in no other one.
	for n := range first.Blocks {
		b := &first.Blocks[n]
		b.A = append(b.A, api.Cell{Kind: 100 + n})
		b.E = append(b.E, api.Cell{Kind: 200 + n})
	}
	for n, b := range first.Blocks {
		k := kept.Blocks[n]
		if !slices.Equal(b.A[:len(b.A)-1], k.A) || !slices.Equal(b.E[:len(b.E)-1], k.E) || b.A[len(b.A)-1].Kind != 100+n || b.E[len(b.E)-1].Kind != 200+n {
			t.Fatalf("lists of one answer share memory: %v", b)
		}
	}
	for _, x := range numbers(&first) {
		*x = 77
	}
	whole(t, p, onA(1, 2), onA(1, 4), onA(2))
	again, _ := Of(p)
	same(t, kept, again, true)
	byWords(t, p, onA(1), kept)
	for n := range kept.Blocks {
		for _, cells := range [][]api.Cell{kept.Blocks[n].A, kept.Blocks[n].E} {
			clear(cells[:cap(cells)])
		}
	}
	byWords(t, p, onA(1), again)
	// The program is not kept.
	was := api.Program{Code: slices.Clone(loop), Size: 4, Data: []byte{1}}
	clear(p.Code)
	clear(p.Data)
	byWords(t, was, onA(1), again)
	none(t, p)
}
