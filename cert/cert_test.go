package cert

import (
	"math"
	"reflect"
	"regexp"
	"slices"
	"strings"
	"testing"

	"forerunner/api"
	"forerunner/blocks"
	"forerunner/emit"
	"forerunner/owner"
	"forerunner/split"
)

var (
	nop  = api.Ins{Op: api.Addi}
	halt = api.Ins{Op: api.Halt}
)

// add, load, store, branch and jump are ones of these registers and numbers.
func add(d, a, b int) api.Ins      { return api.Ins{Op: api.Add, D: d, A: a, B: b} }
func load(d, a int) api.Ins        { return api.Ins{Op: api.Lw, D: d, A: a, Imm: 8} }
func store(a, b int) api.Ins       { return api.Ins{Op: api.Sw, A: a, B: b, Imm: -4} }
func branch(a, b, imm int) api.Ins { return api.Ins{Op: api.Bne, A: a, B: b, Imm: imm} }
func jump(imm int) api.Ins         { return api.Ins{Op: api.J, Imm: imm} }

// onA are the owners with just these registers on A.
func onA(regs ...int) [16]int {
	var o [16]int
	for r := 1; r < 16; r++ {
		o[r] = api.OnE
	}
	for _, r := range regs {
		o[r] = api.OnA
	}
	return o
}

// letters are the kinds of cells, from 1 on; what is no kind is a question mark.
const letters = "dlfsSrpPbFjh"

// odd are numbers that are no kind.
var odd = []int{0, -1, 13, 99, math.MinInt, math.MaxInt, 1 << 32, 1<<32 + api.KDo, 1<<32 + api.KHalt, 256 + api.KDo, -api.KDo}

// cells are those of a text of letters; a number behind a letter is its register.
func cells(text string) []api.Cell {
	var out []api.Cell
	for _, x := range []byte(text) {
		if '0' <= x && x <= '9' {
			out[len(out)-1].Reg = int(x - '0')
			continue
		}
		out = append(out, api.Cell{Kind: 1 + strings.IndexByte(letters, x)})
	}
	return out
}

// block is one of two texts of letters.
func block(a, e string) api.Block { return api.Block{A: cells(a), E: cells(e)} }

// chance makes numbers, the same ones each time.
type chance uint32

// next is the next number, from 0 to below most.
func (c *chance) next(most int) int {
	*c = *c*1664525 + 1013904223
	return int(*c>>9) % most
}

// some is code of n instructions of registers up to most.
func (c *chance) some(n, most int) []api.Ins {
	out := make([]api.Ins, n)
	reg := func() int { return c.next(most + 1) }
	for place := range out {
		i := api.Ins{Op: 1 + c.next(api.Halt)}
		switch {
		case i.Op <= api.Remu:
			i.D, i.A, i.B = reg(), reg(), reg()
		case i.Op <= api.Srai:
			i.D, i.A, i.Imm = reg(), reg(), c.next(32)
		case i.Op == api.Lui:
			i.D, i.Imm = reg(), c.next(99)
		case i.Op <= api.Lbu:
			i.D, i.A, i.Imm = reg(), reg(), c.next(9)
		case i.Op <= api.Sb:
			i.A, i.B, i.Imm = reg(), reg(), c.next(9)
		case i.Op <= api.Bgeu:
			i.A, i.B, i.Imm = reg(), reg(), c.next(n)-place
		case i.Op == api.J:
			i.Imm = c.next(n) - place
		}
		out[place] = i
	}
	return out
}

// owners are those with the fewest on A, with some of the others there, too.
func (c *chance) owners(p api.Program) [16]int {
	o := owner.Of(p)
	for r := 1; r < 16; r++ {
		if c.next(8) == 0 {
			o[r] = 3 - o[r]
		}
	}
	return o
}

// turned is a number that is another one than n.
func (c *chance) turned(n int) int {
	for {
		x := []int{0, 1, 2, n + 1, n - 1, -n, n + 1<<32, math.MinInt, math.MaxInt}[c.next(9)]
		if x != n {
			return x
		}
	}
}

// P1401: the letters are the kinds that api tells.
func TestLetters(t *testing.T) {
	kinds := []int{api.KDo, api.KLoad, api.KFetch, api.KStore, api.KSend, api.KRecv, api.KPop, api.KPut, api.KBranch, api.KFollow, api.KJump, api.KHalt}
	for n, c := range cells(letters) {
		if c.Kind != kinds[n] {
			t.Fatalf("%c is %d, want %d", letters[n], c.Kind, kinds[n])
		}
	}
}

// counts holds Counts.
func counts(t *testing.T, b api.Block, want [2][12]int) {
	t.Helper()
	if got := Counts(b); got != want {
		t.Fatalf("Counts(%v) = %v, want %v", b, got, want)
	}
}

// P1401: each kind is counted at its number less 1, on its own side, as often as it is there.
func TestCounts(t *testing.T) {
	counts(t, api.Block{}, [2][12]int{})
	counts(t, api.Block{A: []api.Cell{}, E: []api.Cell{}}, [2][12]int{})
	for n := range 12 {
		for _, much := range []int{1, 2, 3, 300, 70000} {
			var a, e, both [2][12]int
			a[0][n], e[1][n], both[0][n], both[1][n] = much, much, 2*much, much
			list := slices.Repeat([]api.Cell{{Kind: n + 1}}, much)
			counts(t, api.Block{A: list}, a)
			counts(t, api.Block{E: list}, e)
			counts(t, api.Block{A: slices.Repeat(list, 2), E: list}, both)
		}
	}
	counts(t, block(letters, letters), [2][12]int{{1, 1, 1, 1, 1, 1, 1, 1, 1, 1, 1, 1}, {1, 1, 1, 1, 1, 1, 1, 1, 1, 1, 1, 1}})
	counts(t, block("hddPbdh", "jrFjpj"), [2][12]int{{0: 3, 7: 1, 8: 1, 11: 2}, {5: 1, 6: 1, 9: 1, 10: 3}})
}

// P1401: Counts passes over what is no kind, and looks at kinds alone.
func TestCountsOfOdd(t *testing.T) {
	for _, kind := range odd {
		list := []api.Cell{{Kind: kind}, {Kind: api.KDo}, {Kind: kind}, {Kind: api.KHalt}, {Kind: kind}}
		counts(t, api.Block{A: list}, [2][12]int{{0: 1, 11: 1}, {}})
		counts(t, api.Block{E: list}, [2][12]int{{}, {0: 1, 11: 1}})
		counts(t, api.Block{A: list[:1], E: list[:1]}, [2][12]int{})
	}
	x := api.Cell{Kind: api.KSend, Ins: api.Ins{Op: 99, D: -1, A: math.MaxInt, B: math.MinInt, Imm: 1 << 40}, Reg: -7, Pc: -8, Off: -9}
	counts(t, api.Block{From: 9, To: -1, Next: 77, Taken: -88, A: []api.Cell{x, x}, E: []api.Cell{x}}, [2][12]int{{4: 2}, {4: 1}})
}

// balanced holds Balanced, and that it is a matter of the cells alone.
func balanced(t *testing.T, b api.Block, want bool) {
	t.Helper()
	if Balanced(b) != want {
		t.Fatalf("Balanced(%v) is not %v", b, want)
	}
	b.From, b.To, b.Next, b.Taken = math.MaxInt, -3, math.MinInt, 99
	if Balanced(b) != want {
		t.Fatalf("Balanced(%v) looks at more than the cells", b)
	}
}

// P1401: blocks by hand that are balanced.
func TestBalanced(t *testing.T) {
	for _, x := range [][2]string{
		{"", ""}, {"d", ""}, {"", "d"}, {"ddd", "d"}, {"l", ""}, {"ll", "dd"}, {"dldl", ""},
		{"S1", "r1"}, {"S1S2S1", "r1r2r1"}, {"dS1lS2d", "r1dr2d"}, {"S1dS2", "r1r2d"}, {"S9", "dddr9"},
		{"f", "p"}, {"fdf", "ppd"}, {"s", "P"}, {"ss", "PP"}, {"s1s2", "P5P4"}, {"sds", "PdP"},
		{"S1fsS2", "pr1r2P"}, {"S1fsS2", "Pr1r2p"}, {"sfS", "rpP"},
		{"b", "F"}, {"F", "b"}, {"j", "j"}, {"h", "h"}, {"db", "F"}, {"F", "db"}, {"lj", "ddj"}, {"S2fsh", "r2pPh"}, {"S1S2F", "r1r2b"}, {"ddddb", "ddF"},
	} {
		balanced(t, block(x[0], x[1]), true)
	}
	// Many of all, A's and E's each in an order of their own but for what is held against another.
	a, e := strings.Repeat("dS1fsS2l", 400), strings.Repeat("r1Pr2dp", 400)
	for _, ends := range []string{"bF", "Fb", "jj", "hh"} {
		balanced(t, block(a+ends[:1], e+ends[1:]), true)
	}
	balanced(t, block(a, e), true)
}

// P1401: blocks by hand that are not balanced, each by one fault.
func TestNotBalanced(t *testing.T) {
	for _, x := range [][2]string{
		{"S1", ""}, {"", "r1"}, {"S1", "r2"}, {"S0", "r1"}, {"S1S2", "r2r1"}, {"S1S1", "r1"}, {"S1", "r1r1"}, {"S1S2", "r1"}, {"S1S2", "r2"}, {"S2", "r1r2"}, {"S1S2S1", "r1r1r2"},
		{"f", ""}, {"", "p"}, {"ff", "p"}, {"f", "pp"}, {"s", ""}, {"", "P"}, {"ss", "P"}, {"s", "PP"}, {"s", "PPP"},
		{"f", "P"}, {"s", "p"}, {"S", "p"}, {"f", "r"}, {"s", "r"}, {"S", "P"}, {"l", "p"},
		{"r", ""}, {"p", ""}, {"P", ""}, {"", "l"}, {"", "f"}, {"", "s"}, {"", "S"},
		{"r1", "S1"}, {"p", "f"}, {"P", "s"}, {"sP", ""}, {"S1r1", ""}, {"", "S1r1"}, {"sP", "P"}, {"s", "Ps"},
		{"b", "b"}, {"F", "F"}, {"b", "j"}, {"j", "b"}, {"b", "h"}, {"h", "b"}, {"F", "j"}, {"j", "F"}, {"F", "h"}, {"h", "F"}, {"j", "h"}, {"h", "j"},
		{"b", ""}, {"F", ""}, {"j", ""}, {"h", ""}, {"", "b"}, {"", "F"}, {"", "j"}, {"", "h"}, {"bF", ""}, {"", "jj"}, {"h", "d"}, {"d", "h"}, {"j", "dd"},
		{"jd", "j"}, {"j", "jd"}, {"jd", "jd"}, {"hl", "hd"}, {"bd", "F"}, {"b", "Fd"}, {"jj", "jj"}, {"jj", "j"}, {"h", "hh"}, {"bF", "Fb"}, {"bb", "F"}, {"b", "FF"}, {"hj", "j"}, {"j", "hj"}, {"dhd", "d"}, {"d", "dhd"}, {"bF", "b"}, {"F", "Fb"},
	} {
		balanced(t, block(x[0], x[1]), false)
	}
}

// P1401: what is no kind is on neither side, wherever it stands.
func TestBalancedOfOdd(t *testing.T) {
	for _, kind := range odd {
		for _, ends := range []string{"..", "bF", "jj"} {
			b := block("dS1"+strings.Trim(ends[:1], "."), "r1d"+strings.Trim(ends[1:], "."))
			balanced(t, b, true)
			for place := range len(b.A) + 1 {
				list := slices.Insert(slices.Clone(b.A), place, api.Cell{Kind: kind})
				balanced(t, api.Block{A: list, E: b.E}, false)
				balanced(t, api.Block{A: b.A, E: slices.Insert(slices.Clone(b.E), place, api.Cell{Kind: kind})}, false)
			}
		}
	}
}

// P1401: what is sent is held by its Reg, whatever its number, what is fetched by its Ins, wholly; the other fields are not asked.
func TestBalancedFields(t *testing.T) {
	i := api.Ins{Op: api.Lw, D: 1, A: 2, B: 3, Imm: 4}
	x := api.Cell{Ins: i, Reg: 5, Pc: 6, Off: 7}
	others := map[string][]func(c *api.Cell, n int){
		"reg":   {func(c *api.Cell, n int) { c.Reg += n }},
		"place": {func(c *api.Cell, n int) { c.Pc += n }, func(c *api.Cell, n int) { c.Off += n }},
		"ins": {
			func(c *api.Cell, n int) { c.Ins.Op += n }, func(c *api.Cell, n int) { c.Ins.D += n }, func(c *api.Cell, n int) { c.Ins.A += n },
			func(c *api.Cell, n int) { c.Ins.B += n }, func(c *api.Cell, n int) { c.Ins.Imm += n },
		},
	}
	for _, row := range []struct {
		a, e int
		held string
	}{{api.KSend, api.KRecv, "reg"}, {api.KFetch, api.KPop, "ins"}, {api.KStore, api.KPut, ""}, {api.KBranch, api.KFollow, ""}, {api.KFollow, api.KBranch, ""}, {api.KJump, api.KJump, ""}, {api.KHalt, api.KHalt, ""}} {
		for name, turns := range others {
			for _, turn := range turns {
				for _, n := range []int{1, -1, 256, 1 << 32, math.MinInt} {
					a, e, turned := x, x, x
					a.Kind, e.Kind, turned.Kind = row.a, row.e, row.e
					turn(&turned, n)
					d := api.Cell{Kind: api.KDo}
					balanced(t, api.Block{A: []api.Cell{d, a}, E: []api.Cell{e}}, true)
					balanced(t, api.Block{A: []api.Cell{d, a}, E: []api.Cell{turned}}, name != row.held)
					turned.Kind = row.a
					balanced(t, api.Block{A: []api.Cell{turned}, E: []api.Cell{d, e}}, name != row.held)
				}
			}
		}
	}
}

// P1401: of many that are fetched the order counts, and each is looked at.
func TestBalancedOrderOfFetches(t *testing.T) {
	var a, e []api.Cell
	for n := range 20 {
		a = append(a, api.Cell{Kind: api.KFetch, Ins: load(n, 1), Pc: n}, api.Cell{Kind: api.KSend, Reg: n})
		e = append(e, api.Cell{Kind: api.KPop, Ins: load(n, 1), Off: n}, api.Cell{Kind: api.KRecv, Reg: n})
	}
	balanced(t, api.Block{A: a, E: e}, true)
	for n := range len(e) {
		for m := range n {
			turned := slices.Clone(e)
			turned[n], turned[m] = turned[m], turned[n]
			// Those of one kind that have changed places are in another order; those of two kinds just if one of their own is between.
			want := n-m == 1
			balanced(t, api.Block{A: a, E: turned}, want)
		}
		balanced(t, api.Block{A: a, E: slices.Delete(slices.Clone(e), n, n+1)}, false)
		balanced(t, api.Block{A: slices.Delete(slices.Clone(a), n, n+1), E: e}, false)
	}
}

// The cells of each side as letters, and what of them is held against the other side.
var (
	shapeA = regexp.MustCompile(`^[dlfsS]*([bFjh]?)$`)
	shapeE = regexp.MustCompile(`^[drpP]*([bFjh]?)$`)
)

// text is the letters of cells.
func text(list []api.Cell) string {
	var out []byte
	for _, c := range list {
		if c.Kind < 1 || c.Kind > 12 {
			out = append(out, '?')
			continue
		}
		out = append(out, letters[c.Kind-1])
	}
	return string(out)
}

// held are the cells of a letter, with nothing but the fields that the other side's are held by.
func held(list []api.Cell, letter byte) []api.Cell {
	out := []api.Cell{}
	for n, x := range []byte(text(list)) {
		if x != letter {
			continue
		}
		switch letter {
		case 'S', 'r':
			out = append(out, api.Cell{Reg: list[n].Reg})
		case 'f', 'p':
			out = append(out, api.Cell{Ins: list[n].Ins})
		default:
			out = append(out, api.Cell{})
		}
	}
	return out
}

// byShape is Balanced by the words, in another way.
func byShape(b api.Block) bool {
	a, e := shapeA.FindStringSubmatch(text(b.A)), shapeE.FindStringSubmatch(text(b.E))
	return a != nil && e != nil && slices.Contains([]string{"", "bF", "Fb", "jj", "hh"}, a[1]+e[1]) &&
		reflect.DeepEqual(held(b.A, 'S'), held(b.E, 'r')) &&
		reflect.DeepEqual(held(b.A, 'f'), held(b.E, 'p')) &&
		reflect.DeepEqual(held(b.A, 's'), held(b.E, 'P'))
}

// P1401: all blocks of up to two cells a side, of all kinds and two that are none.
func TestAllShortBlocks(t *testing.T) {
	lists := [][]api.Cell{nil}
	for k := range 14 {
		lists = append(lists, []api.Cell{{Kind: k}})
		for l := range 14 {
			lists = append(lists, []api.Cell{{Kind: k}, {Kind: l}})
		}
	}
	for _, a := range lists {
		for _, e := range lists {
			b := api.Block{A: a, E: e}
			if want := byShape(b); Balanced(b) != want {
				t.Fatalf("Balanced of %s, %s is not %v", text(a), text(e), want)
			}
		}
	}
}

// P1401: many blocks, some turned in a place or two.
func TestManyBlocks(t *testing.T) {
	c := chance(1401)
	seen := [2]int{}
	for range 60000 {
		var b api.Block
		for range c.next(9) {
			reg, i := c.next(3), api.Ins{Op: api.Lw, D: c.next(3)}
			switch c.next(6) {
			case 0:
				b.A = append(b.A, api.Cell{Kind: api.KDo + c.next(2), Off: c.next(4)})
			case 1:
				b.E = append(b.E, api.Cell{Kind: api.KDo})
			case 2, 3:
				b.A, b.E = append(b.A, api.Cell{Kind: api.KSend, Reg: reg}), append(b.E, api.Cell{Kind: api.KRecv, Reg: reg, Pc: c.next(2)})
			case 4:
				b.A, b.E = append(b.A, api.Cell{Kind: api.KFetch, Ins: i}), append(b.E, api.Cell{Kind: api.KPop, Ins: i, Reg: c.next(2)})
			case 5:
				b.A, b.E = append(b.A, api.Cell{Kind: api.KStore, Ins: i}), append(b.E, api.Cell{Kind: api.KPut, Reg: reg})
			}
		}
		ends := [][2]string{{}, {"b", "F"}, {"F", "b"}, {"j", "j"}, {"h", "h"}}[c.next(5)]
		b.A, b.E = append(b.A, cells(ends[0])...), append(b.E, cells(ends[1])...)
		if !Balanced(b) {
			t.Fatalf("Balanced(%v) is false", b)
		}
		for range 1 + c.next(2) {
			c.turn(&b)
		}
		want := byShape(b)
		if Balanced(b) != want {
			t.Fatalf("Balanced(%v) is not %v", b, want)
		}
		if want {
			seen[1]++
		} else {
			seen[0]++
		}
	}
	if min(seen[0], seen[1]) < 10000 {
		t.Errorf("%v: too few of one", seen)
	}
}

// turn turns a block in one place.
func (c *chance) turn(b *api.Block) {
	list := &b.A
	if c.next(2) == 0 {
		list = &b.E
	}
	if len(*list) == 0 {
		return
	}
	n, m := c.next(len(*list)), c.next(len(*list))
	switch c.next(6) {
	case 0:
		(*list)[n], (*list)[m] = (*list)[m], (*list)[n]
	case 1:
		(*list)[n].Reg = c.next(3)
	case 2:
		(*list)[n].Ins.D = c.next(3)
	case 3:
		(*list)[n].Kind = c.next(14)
	case 4:
		*list = slices.Delete(*list, n, n+1)
	case 5:
		(*list)[n].Pc, (*list)[n].Off = c.next(9), c.next(9)
	}
}

// most holds Most.
func most(t *testing.T, want int, blocks ...api.Block) {
	t.Helper()
	if got := Most(api.Split{Blocks: blocks, Owner: [16]int{9, -9}}); got != want {
		t.Fatalf("Most(%v) = %d, want %d", blocks, got, want)
	}
}

// at are cells of these Offs.
func at(offs ...int) []api.Cell {
	var out []api.Cell
	for n, off := range offs {
		out = append(out, api.Cell{Kind: n - 1, Pc: n, Reg: -n, Off: off})
	}
	return out
}

// P1401: Most is the greatest number of cells of one Off, of one side, of one block.
func TestMost(t *testing.T) {
	most(t, 0)
	most(t, 0, api.Block{}, api.Block{A: []api.Cell{}})
	most(t, 1, api.Block{A: at(0)})
	most(t, 1, api.Block{E: at(5)})
	most(t, 1, api.Block{A: at(0, 1, 2, 3), E: at(0, 1, 2, 3)})
	most(t, 2, api.Block{A: at(0, 0), E: at(0)})
	most(t, 3, api.Block{A: at(0, 0), E: at(0, 0, 0)})
	most(t, 5, api.Block{A: at(0, 1, 1, 1, 1, 1, 2, 2), E: at(1, 1)})
	// Cells of one Off need not stand side by side.
	most(t, 4, api.Block{A: at(0, 1, 1, 0, 2, 0, 3, 0)})
	most(t, 3, api.Block{E: at(7, 6, 7, 6, 5, 7)})
	most(t, 300, api.Block{A: at(make([]int, 300)...)})
	// Neither those of the other side nor those of other blocks are counted together.
	most(t, 1, api.Block{A: at(0), E: at(0)}, api.Block{A: at(0), E: at(0)}, api.Block{A: at(0), E: at(0)})
	most(t, 2, api.Block{A: at(0, 0)}, api.Block{A: at(0, 0)})
	// The greatest one may be in any block, at any place.
	for place := range 4 {
		for k := range 3 {
			bs := slices.Repeat([]api.Block{{A: at(0, 1, 2), E: at(0, 0)}}, 4)
			list := at(0, 1, 2)
			list = append(list, list[k], list[k])
			bs[place].A = list
			most(t, 3, bs...)
			bs[place] = api.Block{E: list}
			most(t, 3, bs...)
		}
	}
	// Offs may be any numbers.
	most(t, 1, api.Block{A: at(math.MinInt, -1, 0, 1, math.MaxInt, 1<<32, -1<<32, 256)})
	for _, off := range []int{math.MinInt, -1, math.MaxInt, 1 << 32} {
		most(t, 3, api.Block{E: at(off, 0, off, 1, off)})
	}
}

// right holds Right against the words: it is what split.With answers of the program and the split's owners.
func right(t *testing.T, p api.Program, s api.Split, want bool) {
	t.Helper()
	if Right(p, s) != want {
		t.Fatalf("Right(%v, %v) is not %v", p, s, want)
	}
}

// copied is a split of the same numbers in other memory.
func copied(s api.Split) api.Split {
	s.Blocks = slices.Clone(s.Blocks)
	for n := range s.Blocks {
		s.Blocks[n].A = slices.Clone(s.Blocks[n].A)
		s.Blocks[n].E = slices.Clone(s.Blocks[n].E)
	}
	return s
}

// numbers are where all numbers of a split are, but those of its owners.
func numbers(s *api.Split) []*int {
	var out []*int
	for n := range s.Blocks {
		b := &s.Blocks[n]
		out = append(out, &b.From, &b.To, &b.Next, &b.Taken)
		for _, list := range [][]api.Cell{b.A, b.E} {
			for k := range list {
				c := &list[k]
				out = append(out, &c.Kind, &c.Ins.Op, &c.Ins.D, &c.Ins.A, &c.Ins.B, &c.Ins.Imm, &c.Reg, &c.Pc, &c.Off)
			}
		}
	}
	return out
}

// loop adds up words: 1 is where they are, 2 where they end, 3 the sum, which is stored.
var loop = []api.Ins{
	{Op: api.Addi, D: 1, Imm: 16},
	{Op: api.Addi, D: 2, Imm: 64},
	load(4, 1),
	add(3, 3, 4),
	{Op: api.Addi, D: 1, A: 1, Imm: 4},
	branch(1, 2, -3),
	store(1, 3),
	halt,
}

// P1401: a split by hand is Right, by the words of the chapters below.
func TestRightByHand(t *testing.T) {
	for _, x := range []struct {
		code []api.Ins
		o    [16]int
		b    api.Block
	}{
		{[]api.Ins{halt}, onA(), api.Block{To: 1, Next: -1, Taken: -1, A: cells("h"), E: cells("h")}},
		{[]api.Ins{halt}, onA(4, 15), api.Block{To: 1, Next: -1, Taken: -1, A: cells("h"), E: cells("h")}},
		{[]api.Ins{jump(0)}, onA(), api.Block{To: 1, Next: -1, A: cells("j"), E: cells("j")}},
		{[]api.Ins{add(1, 2, 3)}, onA(), api.Block{To: 1, Next: -1, Taken: -1, E: []api.Cell{{Kind: api.KDo, Ins: add(1, 2, 3)}}}},
		{[]api.Ins{load(1, 2)}, onA(2), api.Block{To: 1, Next: -1, Taken: -1, A: []api.Cell{{Kind: api.KFetch, Ins: load(1, 2)}}, E: []api.Cell{{Kind: api.KPop, Ins: load(1, 2)}}}},
		{[]api.Ins{nop, store(2, 2)}, onA(2), api.Block{To: 2, Next: -1, Taken: -1,
			A: []api.Cell{{Kind: api.KDo, Ins: nop}, {Kind: api.KSend, Reg: 2, Pc: 1, Off: 1}, {Kind: api.KStore, Ins: store(2, 2), Pc: 1, Off: 1}},
			E: []api.Cell{{Kind: api.KRecv, Reg: 2, Pc: 1, Off: 1}, {Kind: api.KPut, Reg: 2, Pc: 1, Off: 1}}}},
	} {
		p, s := api.Program{Code: x.code}, api.Split{Blocks: []api.Block{x.b}, Owner: x.o}
		right(t, p, s, true)
		right(t, p, api.Split{Owner: x.o}, false)
		right(t, p, api.Split{Blocks: s.Blocks}, false)
		right(t, p, api.Split{Blocks: []api.Block{x.b, {}}, Owner: x.o}, false)
		for n := range numbers(&s) {
			turned := copied(s)
			*numbers(&turned)[n] ^= 8
			right(t, p, turned, false)
		}
	}
}

// P1401: each single number of a split counts.
func TestRightOfEachNumber(t *testing.T) {
	p := api.Program{Code: loop, Size: 16, Data: []byte{1}}
	for _, o := range [][16]int{onA(1), onA(1, 2), onA(1, 4), onA(1, 2, 3, 4, 5, 6, 7, 8, 9, 10, 11, 12, 13, 14, 15)} {
		s, _ := split.With(p, o)
		right(t, p, s, true)
		for n, x := range numbers(&s) {
			for _, to := range []int{*x + 1, *x - 1, *x + 1<<32, ^*x, math.MinInt, math.MaxInt} {
				turned := copied(s)
				*numbers(&turned)[n] = to
				right(t, p, turned, false)
			}
		}
	}
}

// P1401: how many there are of all counts, and their order.
func TestRightOfLists(t *testing.T) {
	p := api.Program{Code: loop}
	s, _ := split.Of(p)
	var changes []func(s *api.Split)
	for n := range s.Blocks {
		for _, list := range []func(s *api.Split) *[]api.Cell{
			func(s *api.Split) *[]api.Cell { return &s.Blocks[n].A },
			func(s *api.Split) *[]api.Cell { return &s.Blocks[n].E },
		} {
			changes = append(changes,
				func(s *api.Split) { *list(s) = nil },
				func(s *api.Split) { *list(s) = append(*list(s), api.Cell{}) },
				func(s *api.Split) { *list(s) = append(*list(s), (*list(s))[0]) },
				func(s *api.Split) { *list(s) = slices.Insert(*list(s), 0, api.Cell{}) })
			for k := range *list(&s) {
				changes = append(changes, func(s *api.Split) { *list(s) = slices.Delete(*list(s), k, k+1) })
			}
			if len(*list(&s)) > 1 {
				changes = append(changes, func(s *api.Split) { slices.Reverse(*list(s)) })
			}
		}
		changes = append(changes,
			func(s *api.Split) { s.Blocks = slices.Delete(s.Blocks, n, n+1) },
			func(s *api.Split) { s.Blocks = append(s.Blocks, s.Blocks[n]) },
			func(s *api.Split) { s.Blocks[n].A, s.Blocks[n].E = s.Blocks[n].E, s.Blocks[n].A },
		)
	}
	changes = append(changes,
		func(s *api.Split) { s.Blocks = nil },
		func(s *api.Split) { slices.Reverse(s.Blocks) },
		func(s *api.Split) { s.Blocks = append(s.Blocks, api.Block{}) },
	)
	for _, change := range changes {
		turned := copied(s)
		change(&turned)
		right(t, p, turned, false)
	}
	right(t, p, s, true)
	// nil and an empty list are the same.
	p = api.Program{Code: []api.Ins{nop}}
	s, _ = split.Of(p)
	s.Blocks[0].E = []api.Cell{}
	right(t, p, s, true)
	s.Blocks[0].E = nil
	right(t, p, s, true)
}

// P1401: the owners are those by which the cells were made; where both make the same cells, both are Right.
func TestRightOfOwners(t *testing.T) {
	p := api.Program{Code: loop}
	s, _ := split.With(p, onA(1))
	for r := 1; r < 16; r++ {
		turned := copied(s)
		turned.Owner[r] = 3 - s.Owner[r]
		// Of 1 to 4 the cells hang, of the others none; 1 has to be on A.
		right(t, p, turned, r > 4)
	}
	for r := range 16 {
		for _, x := range []int{math.MinInt, -1, 3, 1 << 32, 1<<32 + api.OnA, 1<<32 + api.OnE, math.MaxInt} {
			turned := copied(s)
			turned.Owner[r] = x
			right(t, p, turned, false)
		}
	}
	for _, x := range []int{api.OnA, api.OnE} {
		turned := copied(s)
		turned.Owner[0] = x
		right(t, p, turned, false)
	}
	turned := copied(s)
	turned.Owner[5] = api.Both
	right(t, p, turned, false)
	// Not the fewest on A alone are Right.
	more, _ := split.With(p, onA(1, 2, 9))
	right(t, p, more, true)
	more.Owner = s.Owner
	right(t, p, more, false)
}

// byEmit is a split of a program by owners, whether they are Closed or not.
func byEmit(p api.Program, o [16]int) api.Split {
	s := api.Split{Blocks: blocks.Cut(p), Owner: o}
	for n := range s.Blocks {
		b := &s.Blocks[n]
		for off, i := range p.Code[b.From:b.To] {
			b.A = append(b.A, emit.A(i, o, b.From+off, off)...)
			b.E = append(b.E, emit.E(i, o, b.From+off, off)...)
		}
	}
	return s
}

// P1401: what is made as split.With makes it, but by owners that are not Closed, is not Right, though it is Balanced.
func TestRightOfOwnersThatAreNotClosed(t *testing.T) {
	p := api.Program{Code: []api.Ins{add(1, 1, 2), load(3, 1), store(4, 3), halt}}
	for r := 1; r < 16; r++ {
		o := onA(1, 2, 4)
		o[r] = 3 - o[r]
		s := byEmit(p, o)
		closed := owner.Closed(p, o)
		if closed != (r != 1 && r != 2 && r != 4) {
			t.Fatalf("Closed(%v, %v): %v", p, o, closed)
		}
		right(t, p, s, closed)
		for _, b := range s.Blocks {
			balanced(t, b, true)
		}
	}
	o := onA(1, 2, 4)
	for _, x := range []int{-1, 1, 2, 3} {
		o[0] = x
		right(t, p, byEmit(p, o), false)
	}
}

// P1401: no split is Right of what is not image.Right, the zero one neither.
func TestRightOfWrongPrograms(t *testing.T) {
	good, _ := split.Of(api.Program{Code: []api.Ins{nop, halt}, Size: 8})
	wrong := []api.Program{
		{}, {Code: []api.Ins{}}, {Size: 8, Data: []byte{1}},
		{Code: []api.Ins{nop, halt}, Size: -1}, {Code: []api.Ins{nop, halt}, Size: api.MaxMem + 1}, {Code: []api.Ins{nop, halt}, Size: math.MaxInt}, {Code: []api.Ins{nop, halt}, Size: math.MinInt},
		{Code: []api.Ins{nop, halt}, Size: 1, Data: []byte{0, 0}}, {Code: []api.Ins{nop, jump(1)}}, {Code: []api.Ins{nop, branch(0, 0, -2)}},
		{Code: []api.Ins{nop, {}}}, {Code: []api.Ins{nop, {Op: 42}}}, {Code: []api.Ins{add(16, 0, 0), halt}}, {Code: []api.Ins{add(-1, math.MinInt, math.MaxInt), halt}}, {Code: []api.Ins{nop, jump(math.MaxInt)}},
		{Code: slices.Repeat([]api.Ins{nop}, api.MaxCode+1)},
	}
	for _, p := range wrong {
		of, _ := split.Of(p)
		for _, s := range []api.Split{{}, {Blocks: []api.Block{}}, {Owner: onA()}, of, good, byEmit(p, onA()), byEmit(p, [16]int{})} {
			right(t, p, s, false)
		}
	}
}

// P1401: of the program its code counts, wholly; Size and Data just by whether it is image.Right.
func TestRightOfOtherPrograms(t *testing.T) {
	p := api.Program{Code: loop, Size: 16, Data: []byte{1}}
	s, _ := split.Of(p)
	right(t, api.Program{Code: loop}, s, true)
	right(t, api.Program{Code: loop, Size: api.MaxMem, Data: make([]byte, api.MaxMem)}, s, true)
	right(t, api.Program{Code: loop, Size: api.MaxMem + 1}, s, false)
	right(t, api.Program{Code: loop, Data: []byte{1}}, s, false)
	right(t, api.Program{Code: append(slices.Clone(loop), halt)}, s, false)
	right(t, api.Program{Code: loop[:7]}, s, false)
	for place := range loop {
		for _, i := range []api.Ins{nop, halt, jump(-place), add(9, 9, 9), load(9, 1)} {
			code := slices.Clone(loop)
			code[place] = i
			right(t, api.Program{Code: code}, s, i == loop[place])
		}
	}
}

// whole holds of a split that With answered that it is Right, each of its blocks Balanced, and Most at most 3; it answers Most.
func whole(t *testing.T, p api.Program, s api.Split) int {
	t.Helper()
	right(t, p, s, true)
	greatest := 0
	for _, b := range s.Blocks {
		n := Counts(b)
		both := [2]int{}
		for side := range 2 {
			for _, x := range n[side] {
				both[side] += x
			}
		}
		if !Balanced(b) || both != [2]int{len(b.A), len(b.E)} || n[0][api.KSend-1] != n[1][api.KRecv-1] || n[0][api.KFetch-1] != n[1][api.KPop-1] || n[0][api.KStore-1] != n[1][api.KPut-1] {
			t.Fatalf("%v by %v: the block %v, with %v", p.Code, s.Owner, b, n)
		}
		for _, list := range [][]api.Cell{b.A, b.E} {
			for _, c := range list {
				same := 0
				for _, d := range list {
					if d.Off == c.Off {
						same++
					}
				}
				greatest = max(greatest, same)
			}
		}
	}
	if got := Most(s); got != greatest || got > 3 {
		t.Fatalf("%v by %v: Most is %d, want %d", p.Code, s.Owner, got, greatest)
	}
	return greatest
}

// P1402: Most is 3 where two are sent, and no more than that.
func TestMostOfSplits(t *testing.T) {
	for _, x := range []struct {
		code []api.Ins
		o    [16]int
		most int
	}{
		{[]api.Ins{halt}, onA(), 1}, {[]api.Ins{nop}, onA(), 1}, {[]api.Ins{load(1, 2)}, onA(2), 1}, {[]api.Ins{store(1, 2)}, onA(1), 1}, {[]api.Ins{branch(1, 2, 0)}, onA(1, 2), 1},
		{[]api.Ins{store(1, 2)}, onA(1, 2), 2}, {[]api.Ins{branch(1, 2, 0)}, onA(1), 2}, {[]api.Ins{add(3, 1, 2)}, onA(2), 2}, {[]api.Ins{add(3, 1, 1)}, onA(1), 2},
		{[]api.Ins{add(3, 1, 2)}, onA(1, 2), 3}, {[]api.Ins{halt, add(3, 1, 2), halt}, onA(1, 2), 3}, {loop, onA(1), 2}, {loop, onA(1, 4), 2},
	} {
		p := api.Program{Code: x.code}
		s, e := split.With(p, x.o)
		if e != api.OK || whole(t, p, s) != x.most {
			t.Fatalf("%v by %v: %d, Most %d, want %d", x.code, x.o, e, Most(s), x.most)
		}
	}
}

// P1401, P1402: many programs by many owners; a split that is turned is Right just if With makes it.
func TestManySplits(t *testing.T) {
	c := chance(1402)
	seen := [4]int{}
	for range 2500 {
		p := api.Program{Code: c.some(1+c.next(30), 2+c.next(14)), Size: 8, Data: []byte{1, 2}}
		least, _ := split.Of(p)
		seen[whole(t, p, least)]++
		s, e := split.With(p, c.owners(p))
		if e != api.OK {
			continue
		}
		seen[whole(t, p, s)]++
		for range 5 {
			turned := copied(s)
			all := numbers(&turned)
			x := all[c.next(len(all))]
			*x = c.turned(*x)
			right(t, p, turned, false)
			turned = copied(s)
			r := c.next(16)
			turned.Owner[r] = c.turned(s.Owner[r])
			again, e := split.With(p, turned.Owner)
			right(t, p, turned, e == api.OK && split.Same(again, turned))
		}
	}
	for n := 1; n <= 3; n++ {
		if seen[n] < 30 {
			t.Errorf("%d splits whose Most is %d", seen[n], n)
		}
	}
}

// P1402: the longest programs, too.
func TestLongestPrograms(t *testing.T) {
	n := api.MaxCode
	c := chance(14)
	for _, code := range [][]api.Ins{c.some(n, 15), c.some(n, 2), slices.Repeat([]api.Ins{halt}, n), slices.Repeat([]api.Ins{nop}, n), slices.Repeat([]api.Ins{add(3, 1, 2), store(1, 2), load(3, 1), load(1, 1)}, n/4)} {
		p := api.Program{Code: code, Size: api.MaxMem, Data: make([]byte, api.MaxMem)}
		for _, o := range [][16]int{owner.Of(p), onA(1, 2), onA(1, 2, 3, 4, 5, 6, 7, 8, 9, 10, 11, 12, 13, 14, 15)} {
			s, e := split.With(p, o)
			right(t, p, s, e == api.OK)
			if e != api.OK {
				continue
			}
			whole(t, p, s)
			last := &s.Blocks[len(s.Blocks)-1]
			last.A = append(last.A, api.Cell{})
			right(t, p, s, false)
		}
	}
}

// P1402: nothing that is handed in is changed, its spare room neither; what is in that room has no say; the answers stay the same.
func TestWhatIsHandedInStays(t *testing.T) {
	code := append(slices.Clone(loop), api.Ins{Op: 77}, jump(99))
	data := []byte{1, 2, 3, 4}
	p := api.Program{Code: code[:len(loop)], Size: 2, Data: data[:2]}
	s, _ := split.Of(p)
	roomy := copied(s)
	room := func(list []api.Cell) []api.Cell {
		return append(list, api.Cell{Kind: 99, Off: 0}, api.Cell{Kind: api.KHalt, Off: 0})[:len(list)]
	}
	for n := range roomy.Blocks {
		roomy.Blocks[n].A, roomy.Blocks[n].E = room(roomy.Blocks[n].A), room(roomy.Blocks[n].E)
	}
	roomy.Blocks = append(roomy.Blocks, api.Block{A: at(0, 0, 0, 0, 0)})[:len(s.Blocks)]
	for range 2 {
		right(t, p, roomy, true)
		if Most(roomy) != Most(s) {
			t.Fatalf("Most(%v) = %d", roomy, Most(roomy))
		}
		for n, b := range roomy.Blocks {
			if !Balanced(b) || Counts(b) != Counts(s.Blocks[n]) {
				t.Fatalf("the block %v", b)
			}
		}
	}
	for n, b := range roomy.Blocks {
		for k, list := range [][]api.Cell{b.A, b.E} {
			behind := list[len(list) : len(list)+2]
			if behind[0] != (api.Cell{Kind: 99}) || behind[1] != (api.Cell{Kind: api.KHalt}) || !slices.Equal(list, [][]api.Cell{s.Blocks[n].A, s.Blocks[n].E}[k]) {
				t.Fatalf("the lists of block %d: %v", n, list[:len(list)+2])
			}
		}
	}
	if extra := roomy.Blocks[:len(s.Blocks)+1][len(s.Blocks)]; !slices.Equal(extra.A, at(0, 0, 0, 0, 0)) {
		t.Errorf("the room behind the blocks: %v", extra)
	}
	if !slices.Equal(code, append(slices.Clone(loop), api.Ins{Op: 77}, jump(99))) || !slices.Equal(data, []byte{1, 2, 3, 4}) {
		t.Errorf("the program's lists: %v, %v", code, data)
	}
	// Nothing is kept: with other cells in the same memory the answers are others.
	roomy.Blocks[0].A[0].Kind = api.KHalt
	right(t, p, roomy, false)
	balanced(t, roomy.Blocks[0], false)
}
