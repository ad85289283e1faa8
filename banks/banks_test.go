package banks

import (
	"math"
	"slices"
	"testing"

	"forerunner/api"
	"forerunner/bytes"
)

// numbers are numbers that an address, a place or a count may be; some have others' lowest bits.
var numbers = []int{math.MinInt, math.MinInt + 1, -1 << 32, -1<<32 + 1, -1 << 31, -1 << 30, -5, -4, -3, -2, -1, 0, 1, 2, 3, 4, 5, 7, 8, 15, 16, 1<<30 - 1, 1 << 30, 1<<30 + 1, 1<<31 - 1, 1 << 31, 1<<32 - 1, 1 << 32, 1<<32 + 1, 1<<32 + 4, math.MaxInt - 1, math.MaxInt}

// chance makes numbers, the same ones each time.
type chance uint32

// next is the next number, from 0 to below most.
func (c *chance) next(most int) int {
	*c = *c*1664525 + 1013904223
	return int(*c>>9) % most
}

// word is one at an end, or any.
func (c *chance) word() uint32 {
	if c.next(3) == 0 {
		return []uint32{0, 1, 0x7f, 0x80, 0xff, 0x8000, 0xffff, 1 << 31, math.MaxUint32}[c.next(9)]
	}
	return uint32(c.next(1<<16))<<16 | uint32(c.next(1<<16))
}

// number is a small one, or one at an end.
func (c *chance) number() int {
	if c.next(4) == 0 {
		return numbers[c.next(len(numbers))]
	}
	return c.next(60) - 10
}

// numbers are up to so many.
func (c *chance) numbers(most int) []int {
	var l []int
	for range c.next(most + 1) {
		l = append(l, c.number())
	}
	return l
}

// request is one to an address in the first few words, most often one that can be.
func (c *chance) request() api.Request {
	r := api.Request{Op: api.Lw + c.next(8), Addr: c.next(52), Val: c.word(), Left: []int{-1, 0, 0, 0, 0, 1, 1, 2, 3}[c.next(9)], Reg: c.next(19) - 2, Tag: c.next(4)}
	r.Store, r.Size = r.Op >= api.Sw, bytes.Size(r.Op)
	switch c.next(8) {
	case 0:
		r.Addr = c.number()
	case 1:
		r.Size = c.next(7) - 1
	case 2:
		r.Op = c.next(api.Halt + 2)
	case 3:
	default:
		r.Addr -= r.Addr % r.Size
	}
	return r
}

// state is one that has something in each of its lists, most often.
func (c *chance) state() api.State {
	x := api.State{Cycle: c.next(100), Lats: c.next(9), Picks: c.next(9), Tags: c.next(9), Trap: api.Trap{Kind: c.next(5), Step: c.next(9), Pc: c.next(9)}}
	for i := range x.A.Regs {
		x.A.Regs[i], x.A.Ready[i], x.E.Regs[i], x.E.Ready[i] = c.word(), c.next(9)-1, c.word(), c.next(9)-1
	}
	x.A.Pos, x.E.Wait, x.A.Done, x.E.Halted = api.Pos{Block: c.next(9), Index: c.next(9), Base: c.next(9)}, c.next(9), c.next(9), c.next(2) == 0
	for range c.next(4) {
		x.Ldq = append(x.Ldq, api.Slot{Tag: c.next(4), Full: c.next(3) == 0, Val: c.word()})
		x.Sdq, x.Aeq = append(x.Sdq, c.word()), append(x.Aeq, c.word())
		x.Abq, x.Ebq = append(x.Abq, c.next(2) == 0), append(x.Ebq, c.next(2) == 0)
		x.Saq = append(x.Saq, api.Entry{Addr: 4 * c.next(9), Size: 4, Step: c.next(9), Known: c.next(2) == 0, Val: c.word()})
		x.Writes = append(x.Writes, api.Write{Addr: c.next(48), Size: 1, Val: c.word()})
	}
	for range c.next(9) {
		x.Table = append(x.Table, c.request())
	}
	for range 40 + c.next(5) {
		x.Mem = append(x.Mem, byte(c.next(256)))
	}
	return x
}

// cloned is the state with lists of its own.
func cloned(x api.State) api.State {
	x.Ldq, x.Sdq, x.Aeq, x.Abq, x.Ebq = slices.Clone(x.Ldq), slices.Clone(x.Sdq), slices.Clone(x.Aeq), slices.Clone(x.Abq), slices.Clone(x.Ebq)
	x.Saq, x.Table, x.Mem, x.Writes = slices.Clone(x.Saq), slices.Clone(x.Table), slices.Clone(x.Mem), slices.Clone(x.Writes)
	return x
}

// same tells whether two states are the same; an empty list and nil are.
func same(a, b api.State) bool {
	lists := slices.Equal(a.Ldq, b.Ldq) && slices.Equal(a.Sdq, b.Sdq) && slices.Equal(a.Aeq, b.Aeq) && slices.Equal(a.Abq, b.Abq) && slices.Equal(a.Ebq, b.Ebq) &&
		slices.Equal(a.Saq, b.Saq) && slices.Equal(a.Table, b.Table) && slices.Equal(a.Mem, b.Mem) && slices.Equal(a.Writes, b.Writes)
	return lists && a.Cycle == b.Cycle && a.A == b.A && a.E == b.E && a.Trap == b.Trap && a.Lats == b.Lats && a.Picks == b.Picks && a.Tags == b.Tags
}

// The marks stand in the spare room behind the lists that are handed in.
var (
	markSlot    = api.Slot{Tag: -77, Val: 77}
	markEntry   = api.Entry{Addr: -77, Step: -77}
	markRequest = api.Request{Addr: -77, Left: 1, Reg: 3}
	markWrite   = api.Write{Addr: -77, Size: 77}
)

// room is the list in a longer one, with the mark behind.
func room[T any](l []T, mark T) []T {
	whole := slices.Clip(append(slices.Clone(l), mark, mark, mark, mark))
	return whole[:len(l)]
}

// roomy is the state with marks behind each of its lists.
func roomy(x api.State) api.State {
	x.Ldq, x.Sdq, x.Aeq, x.Abq, x.Ebq = room(x.Ldq, markSlot), room(x.Sdq, 77), room(x.Aeq, 77), room(x.Abq, true), room(x.Ebq, true)
	x.Saq, x.Table, x.Mem, x.Writes = room(x.Saq, markEntry), room(x.Table, markRequest), room(x.Mem, 77), room(x.Writes, markWrite)
	return x
}

// spare tells whether the marks stand behind the list still.
func spare[T comparable](l []T, mark T) bool {
	for _, v := range l[len(l):cap(l)] {
		if v != mark {
			return false
		}
	}
	return cap(l) >= len(l)+4
}

// spares tells so of each list of a state that is roomy.
func spares(x api.State) bool {
	return spare(x.Ldq, markSlot) && spare(x.Sdq, 77) && spare(x.Aeq, 77) && spare(x.Abq, true) && spare(x.Ebq, true) &&
		spare(x.Saq, markEntry) && spare(x.Table, markRequest) && spare(x.Mem, 77) && spare(x.Writes, markWrite)
}

// scribble writes to each place of a list and behind it.
func scribble[T any](l []T, v T) {
	for i := range l {
		l[i] = v
	}
	_ = append(l, v, v)
}

// scribbled writes to all that an answer has.
func scribbled(x api.State) {
	scribble(x.Ldq, api.Slot{Tag: -88})
	scribble(x.Sdq, 88)
	scribble(x.Aeq, 99)
	scribble(x.Abq, true)
	scribble(x.Ebq, false)
	scribble(x.Saq, api.Entry{Addr: -88})
	scribble(x.Table, api.Request{Addr: -88})
	scribble(x.Mem, 88)
	scribble(x.Writes, api.Write{Addr: -88})
}

// ofItsOwn holds that no list of an answer shares memory with another one of it.
func ofItsOwn(t *testing.T, x api.State) {
	t.Helper()
	for _, v := range x.Sdq {
		if v != 88 {
			t.Errorf("Sdq of the answer shares memory: %v", x.Sdq)
		}
	}
	for _, v := range x.Abq {
		if !v {
			t.Errorf("Abq of the answer shares memory: %v", x.Abq)
		}
	}
}

// becomes holds that Advance answers this, in memory of its own, and leaves what it was given as it was.
func becomes(t *testing.T, c api.Config, s api.Script, x, want api.State) {
	t.Helper()
	lats, picks := slices.Clone(s.Lats), slices.Clone(s.Picks)
	s = api.Script{Lats: room(s.Lats, 77), Picks: room(s.Picks, 77)}
	long, tight := roomy(x), cloned(x)
	for _, in := range []api.State{long, tight} {
		got := Advance(c, s, in)
		if !same(got, want) {
			t.Fatalf("Advance(%v, %v, %v) = %v, want %v", c, s, x, got, want)
		}
		scribbled(got)
		ofItsOwn(t, got)
		if !same(in, x) {
			t.Fatalf("what was handed in is %v, was %v", in, x)
		}
	}
	if !spares(long) {
		t.Fatalf("the spare room of %v was written to", x)
	}
	if !slices.Equal(s.Lats, lats) || !slices.Equal(s.Picks, picks) || !spare(s.Lats, 77) || !spare(s.Picks, 77) {
		t.Fatalf("the script is %v, was %v, %v", s, lats, picks)
	}
}

// config is one of so many banks and that longest latency; nothing else of it is asked.
func config(banks, lat int) api.Config { return api.Config{Banks: banks, Lat: lat} }

// memory is so many bytes that all differ and have no sign at first.
func memory(n int) []byte {
	m := make([]byte, n)
	for i := range m {
		m[i] = byte(i + 1)
	}
	return m
}

// load is one of a word into a register of A, and fetch one into a slot.
func load(addr, reg, left int) api.Request {
	return api.Request{Op: api.Lw, Addr: addr, Size: 4, Left: left, Reg: reg}
}
func fetch(addr, tag, left int) api.Request {
	return api.Request{Op: api.Lw, Addr: addr, Size: 4, Left: left, Reg: -1, Tag: tag}
}

// store is one of a word.
func store(addr int, val uint32, left int) api.Request {
	return api.Request{Store: true, Op: api.Sw, Addr: addr, Size: 4, Val: val, Left: left}
}

// P1801: the chapter's example, and each address's bank, counted word by word.
func TestBank(t *testing.T) {
	if got := Bank(8, 2); got != 0 {
		t.Errorf("Bank(8, 2) = %d", got)
	}
	for n := 1; n <= 20; n++ {
		want := 0
		for addr := 0; addr < 400; addr += 4 {
			for k := range 4 {
				if got := Bank(addr+k, n); got != want {
					t.Errorf("Bank(%d, %d) = %d, want %d", addr+k, n, got, want)
				}
			}
			want++
			if want == n {
				want = 0
			}
		}
	}
}

// P1801: an address below 0 and a count below 1 have bank 0; great ones are cut down as others are.
func TestBankAtFarNumbers(t *testing.T) {
	for _, addr := range numbers {
		for _, n := range numbers {
			want := 0
			if addr >= 0 && n >= 1 {
				words := addr >> 2
				want = words - words/n*n
			}
			if got := Bank(addr, n); got != want {
				t.Errorf("Bank(%d, %d) = %d, want %d", addr, n, got, want)
			}
		}
	}
	for _, x := range []struct{ addr, n, want int }{{1 << 32, 3, 1}, {1<<32 + 4, 16, 1}, {math.MaxInt, math.MaxInt, 1<<61 - 1}, {math.MaxInt, 1 << 61, 1<<61 - 1}, {math.MaxInt, 1<<61 - 1, 0}, {-4, 2, 0}, {-12, 5, 0}, {4, -2, 0}, {12, -2, 0}} {
		if got := Bank(x.addr, x.n); got != x.want {
			t.Errorf("Bank(%d, %d) = %d, want %d", x.addr, x.n, got, x.want)
		}
	}
}

// chooses holds what Lat and Pick answer where both lists are these numbers; without is what Pick says.
func chooses(t *testing.T, l []int, i, most, without int) {
	t.Helper()
	if got := Lat(api.Script{Lats: l}, i, most); got != without+1 {
		t.Errorf("Lat(%v, %d, %d) = %d, want %d", l, i, most, got, without+1)
	}
	if got := Pick(api.Script{Picks: l}, i, most); got != without {
		t.Errorf("Pick(%v, %d, %d) = %d, want %d", l, i, most, got, without)
	}
}

// P1801: the i-th number, modulo.
func TestLatAndPick(t *testing.T) {
	l := []int{5, 0, 7, 12}
	for i, want := range []int{5, 0, 7, 2, 5, 0, 7, 2, 5} {
		chooses(t, l, i, 10, want)
	}
	for i, want := range []int{1, 0, 3, 0} {
		chooses(t, l, i, 4, want)
		chooses(t, l, i+400, 4, want)
		chooses(t, l, i, 1, 0)
	}
	for i := range 50 {
		chooses(t, []int{9}, i, 10, 9)
		chooses(t, []int{9}, i, 9, 0)
		chooses(t, []int{9}, i, 8, 1)
	}
	chooses(t, l, math.MaxInt, 10, 2)
	chooses(t, l[:3], math.MaxInt, 10, 0)
	chooses(t, l[:3], math.MaxInt-1, 10, 5)
}

// P1801: each looks at its own numbers alone.
func TestLatAndPickHaveTheirOwn(t *testing.T) {
	s := api.Script{Lats: []int{3}, Picks: []int{4, 6}}
	for i := range 4 {
		if got := Lat(s, i, 100); got != 4 {
			t.Errorf("Lat(%v, %d, 100) = %d", s, i, got)
		}
		if got, want := Pick(s, i, 100), 4+2*(i%2); got != want {
			t.Errorf("Pick(%v, %d, 100) = %d, want %d", s, i, got, want)
		}
	}
	if got := Lat(api.Script{Picks: []int{5}}, 0, 100); got != 1 {
		t.Errorf("Lat of picks alone = %d", got)
	}
	if got := Pick(api.Script{Lats: []int{5}}, 0, 100); got != 0 {
		t.Errorf("Pick of latencies alone = %d", got)
	}
}

// P1801: no numbers, a place below 0, a count below 1.
func TestLatAndPickOfNone(t *testing.T) {
	for _, n := range numbers {
		for _, most := range numbers {
			chooses(t, nil, n, most, 0)
			chooses(t, []int{}, n, most, 0)
			if n < 0 {
				chooses(t, []int{7, 9}, n, most, 0)
			}
			if most < 1 {
				chooses(t, []int{7, 9}, n, most, 0)
			}
		}
	}
}

// lowest is what a number's lowest 30 bits are, put together bit by bit.
func lowest(n int) int {
	sum := 0
	for bit := range 30 {
		if n>>bit&1 == 1 {
			sum += 1 << bit
		}
	}
	return sum
}

// P1801: the lowest 30 bits count, of numbers below 0 and of great ones, too; so no choice is below 0.
func TestLatAndPickOfTheLowestBits(t *testing.T) {
	for _, x := range []struct{ n, most, want int }{
		{-1, 1 << 40, 1<<30 - 1}, {-1, 10, 3}, {-2, 10, 2}, {1 << 30, 100, 0}, {1<<30 + 7, 100, 7}, {1<<30 - 1, 1 << 30, 1<<30 - 1}, {1<<30 - 1, 1<<30 - 1, 0},
		{math.MinInt, 100, 0}, {math.MinInt + 3, 100, 3}, {math.MaxInt, math.MaxInt, 1<<30 - 1}, {3<<30 + 5, 100, 5}, {1<<29 + 1, 1 << 29, 1}, {1<<29 + 1, 1 << 30, 1<<29 + 1},
	} {
		chooses(t, []int{x.n}, 0, x.most, x.want)
	}
	c := chance(1801)
	for range 20000 {
		l, i, most := c.numbers(6), c.next(30), 1+c.next(2000)
		if n := c.number(); n >= 1 {
			most = n
		}
		want := 0
		if len(l) > 0 {
			want = lowest(l[i%len(l)]) % most
		}
		chooses(t, l, i, most, want)
	}
}

// P1802: a load that has one cycle left is done, and A's register has it, a cycle later.
func TestLoadToARegister(t *testing.T) {
	for reg := 1; reg < 16; reg++ {
		x := api.State{Cycle: 41, Mem: memory(16), Table: []api.Request{load(4, reg, 1)}}
		x.A.Ready[reg] = -1
		want := api.State{Cycle: 41, Mem: memory(16)}
		want.A.Regs[reg], want.A.Ready[reg] = 0x08070605, 42
		becomes(t, config(2, 5), api.Script{}, x, want)
	}
}

// P1802: register 0, and those that are none, have nothing, and the load goes nevertheless.
func TestLoadToNoRegister(t *testing.T) {
	for _, reg := range numbers {
		if reg < 0 || 0 < reg && reg < 16 {
			continue
		}
		x := api.State{Cycle: 41, Mem: memory(16), Ldq: []api.Slot{{Tag: 0}}, Table: []api.Request{load(4, reg, 1)}}
		want := cloned(x)
		want.Table = nil
		becomes(t, config(2, 5), api.Script{}, x, want)
	}
}

// P1802: a load of a register below 0 goes to the first slot of its Tag that is not Full; if there is none, nowhere.
func TestLoadToASlot(t *testing.T) {
	for _, reg := range numbers {
		if reg >= 0 {
			continue
		}
		x := api.State{Mem: memory(16), Ldq: []api.Slot{{Tag: 5}, {Tag: 6, Full: true, Val: 1}, {Tag: 6}, {Tag: 6}}}
		for _, tag := range []int{5, 6, 7, 0, 6 + 1<<32, math.MinInt} {
			x.Table = []api.Request{{Op: api.Lw, Addr: 8, Size: 4, Left: 1, Reg: reg, Tag: tag}}
			want := cloned(x)
			want.Table = nil
			if at := slices.Index([]int{5, 0, 6}, tag); at >= 0 && tag != 0 {
				want.Ldq[at] = api.Slot{Tag: tag, Full: true, Val: 0x0c0b0a09}
			}
			becomes(t, config(1, 5), api.Script{}, x, want)
		}
	}
}

// P1802: a load's value is by its Op, with the sign of Lh and Lb; its Size is not asked.
func TestLoadsValue(t *testing.T) {
	m := []byte{0x80, 0x91, 0x7f, 0xff, 0x01, 0xf2}
	for _, x := range []struct {
		op, addr int
		want     uint32
	}{
		{api.Lw, 0, 0xff7f9180}, {api.Lh, 0, 0xffff9180}, {api.Lhu, 0, 0x9180}, {api.Lb, 0, 0xffffff80}, {api.Lbu, 0, 0x80},
		{api.Lh, 2, 0xffffff7f}, {api.Lhu, 4, 0xf201}, {api.Lb, 2, 0x7f}, {api.Lbu, 5, 0xf2}, {api.Lb, 5, 0xfffffff2},
		{api.Lw, 2, 0}, {api.Lh, 1, 0}, {api.Lw, 4, 0}, {api.Lh, 6, 0}, {api.Lb, 6, 0}, {api.Lbu, 100, 0},
		{api.Lw, 1 << 32, 0}, {api.Lbu, 1 << 32, 0}, {api.Lbu, 1<<32 - 1, 0}, {api.Lbu, -1, 0}, {api.Lb, -1 << 32, 0}, {api.Lw, math.MinInt, 0}, {api.Lbu, 1<<32 + 5, 0}, {api.Lbu, math.MaxInt, 0}, {api.Lbu, 5 - 1<<32, 0},
		{api.Sw, 0, 0}, {api.Sb, 0, 0}, {api.Add, 0, 0}, {0, 0, 0}, {-1, 0, 0}, {1<<32 + api.Lw, 0, 0}, {api.Halt, 0, 0},
	} {
		for _, size := range []int{0, 1, 2, 4, -7, math.MaxInt} {
			in := api.State{Mem: m, Cycle: 9, Table: []api.Request{{Op: x.op, Addr: x.addr, Size: size, Val: 99, Left: 1, Reg: 7}}}
			in.A.Regs[7] = 1234
			want := api.State{Mem: m, Cycle: 9}
			want.A.Regs[7], want.A.Ready[7] = x.want, 10
			becomes(t, config(1, 5), api.Script{}, in, want)
		}
	}
}

// P1802: a store's bytes are in memory, it is the last of Writes, and the first entry of Saq goes.
func TestStore(t *testing.T) {
	x := api.State{Mem: memory(12), Writes: []api.Write{{Addr: 1, Size: 1, Val: 2}}, Saq: []api.Entry{{Addr: 4, Size: 4, Known: true, Val: 5}, {Addr: 8, Size: 4, Step: 3}}, Table: []api.Request{store(4, 0xd4c3b2a1, 1)}}
	want := cloned(x)
	want.Table, want.Saq = nil, x.Saq[1:]
	copy(want.Mem[4:], []byte{0xa1, 0xb2, 0xc3, 0xd4})
	want.Writes = append(want.Writes, api.Write{Addr: 4, Size: 4, Val: 0xd4c3b2a1})
	becomes(t, config(2, 5), api.Script{}, x, want)
	x.Saq, want.Saq = x.Saq[:1], nil
	becomes(t, config(2, 5), api.Script{}, x, want)
	x.Saq = nil
	becomes(t, config(2, 5), api.Script{}, x, want)
	x.Writes, want.Writes = nil, want.Writes[1:]
	becomes(t, config(2, 5), api.Script{}, x, want)
}

// P1802: so many bytes are written as the Size says, whatever Op, Reg and Tag are; Writes has the whole Val.
func TestStoreIsByItsSize(t *testing.T) {
	for _, op := range []int{api.Sw, api.Sh, api.Sb, api.Lw, api.Lbu, 0, -1, math.MaxInt} {
		for _, size := range []int{1, 2, 4} {
			for _, reg := range []int{-1, 0, 3, 15, 16} {
				x := api.State{Mem: memory(12), Ldq: []api.Slot{{Tag: 3}}, Table: []api.Request{{Store: true, Op: op, Addr: 4, Size: size, Val: 0xd4c3b2a1, Left: 1, Reg: reg, Tag: 3}}}
				want := cloned(x)
				want.Table = nil
				copy(want.Mem[4:4+size], []byte{0xa1, 0xb2, 0xc3, 0xd4})
				want.Writes = []api.Write{{Addr: 4, Size: size, Val: 0xd4c3b2a1}}
				becomes(t, config(2, 5), api.Script{}, x, want)
			}
		}
	}
}

// P1802: a store that can't be leaves memory as it is; it is in Writes, and the entry goes.
func TestStoreThatCannotBe(t *testing.T) {
	for _, w := range []api.Write{{Addr: 12, Size: 4, Val: 7}, {Addr: 2, Size: 4, Val: 7}, {Addr: 5, Size: 2, Val: 7}, {Addr: 4, Size: 3, Val: 7}, {Addr: 4, Size: 0, Val: 7}, {Addr: 4, Size: 8, Val: 7}, {Addr: 4, Size: -4, Val: 7},
		{Addr: -4, Size: 4, Val: 7}, {Addr: 1 << 32, Size: 4, Val: 7}, {Addr: 4 + 1<<32, Size: 4, Val: 7}, {Addr: -1 << 32, Size: 1, Val: 7}, {Addr: math.MinInt, Size: 4, Val: 7}, {Addr: math.MaxInt, Size: 1, Val: 7}} {
		x := api.State{Mem: memory(12), Saq: []api.Entry{{Addr: 8, Size: 4}, {Addr: 0, Size: 4}}, Table: []api.Request{{Store: true, Op: api.Sw, Addr: w.Addr, Size: w.Size, Val: w.Val, Left: 1}}}
		want := cloned(x)
		want.Table, want.Saq, want.Writes = nil, x.Saq[1:], []api.Write{w}
		becomes(t, config(2, 5), api.Script{}, x, want)
	}
}

// P1802: those that are done at once are done in the order of the Table, so that one has what those ahead of it wrote.
func TestDoneInOrder(t *testing.T) {
	x := api.State{Mem: memory(8), Ldq: []api.Slot{{Tag: 1}, {Tag: 1}}, Saq: []api.Entry{{Addr: 0, Size: 4}, {Addr: 4, Size: 4}, {Addr: 8, Size: 4}}}
	x.Table = []api.Request{load(0, 1, 1), store(0, 100, 1), load(0, 2, 1), fetch(0, 1, 1), store(0, 200, 1), fetch(0, 1, 1), load(0, 3, 1), load(4, 3, 1)}
	want := cloned(x)
	want.Table, want.Saq = nil, x.Saq[2:]
	want.Mem = []byte{200, 0, 0, 0, 5, 6, 7, 8}
	want.Writes = []api.Write{{Addr: 0, Size: 4, Val: 100}, {Addr: 0, Size: 4, Val: 200}}
	want.Ldq = []api.Slot{{Tag: 1, Full: true, Val: 100}, {Tag: 1, Full: true, Val: 200}}
	want.A.Regs[1], want.A.Regs[2], want.A.Regs[3] = 0x04030201, 100, 0x08070605
	want.A.Ready[1], want.A.Ready[2], want.A.Ready[3] = 1, 1, 1
	becomes(t, config(1, 5), api.Script{}, x, want)
}

// P1802: more stores are done than Saq has entries.
func TestStoresWithoutEntries(t *testing.T) {
	for entries := range 5 {
		x := api.State{Mem: memory(16), Table: []api.Request{store(0, 1, 1), store(4, 2, 1), store(8, 3, 1)}}
		for k := range entries {
			x.Saq = append(x.Saq, api.Entry{Addr: 4 * k, Size: 4, Step: k})
		}
		want := cloned(x)
		want.Table, want.Saq, want.Mem = nil, x.Saq[min(3, entries):], []byte{1, 0, 0, 0, 2, 0, 0, 0, 3, 0, 0, 0, 13, 14, 15, 16}
		want.Writes = []api.Write{{Addr: 0, Size: 4, Val: 1}, {Addr: 4, Size: 4, Val: 2}, {Addr: 8, Size: 4, Val: 3}}
		becomes(t, config(1, 5), api.Script{}, x, want)
	}
}

// P1802: those that have more left have one less, each of them; nothing begins in their banks, and nothing is used.
func TestOneLess(t *testing.T) {
	x := api.State{Mem: memory(16), Lats: 3, Picks: 4, Table: []api.Request{load(0, 1, 3), load(4, 2, 2), load(0, 3, 7), store(8, 1, math.MaxInt), fetch(4, 2, 0)}}
	want := cloned(x)
	for i, left := range []int{2, 1, 6, math.MaxInt - 1, 0} {
		want.Table[i].Left = left
	}
	becomes(t, config(1, 5), api.Script{Lats: []int{3}}, x, want)
	becomes(t, config(2, 5), api.Script{Lats: []int{3}}, x, want)
}

// P1802: one that waits for a bank that is free begins, and has all of the latency left; it is not done in the same cycle.
func TestBegin(t *testing.T) {
	for lat := 1; lat <= 20; lat++ {
		for _, r := range []api.Request{load(4, 1, 0), fetch(4, 1, 0), store(4, 9, 0)} {
			x := api.State{Mem: memory(16), Lats: 2, Picks: 5, Saq: []api.Entry{{Addr: 4, Size: 4}}, Table: []api.Request{r}}
			want := cloned(x)
			want.Table[0].Left, want.Lats = lat, 3
			becomes(t, config(2, 20), api.Script{Lats: []int{50, 60, lat - 1, 70}}, x, want)
			becomes(t, config(2, 20), api.Script{Lats: []int{50, 60, lat + 19, 70}, Picks: []int{3}}, x, want)
		}
	}
}

// P1802: a bank whose last one is done begins the next one in the same cycle; one that is not done keeps it busy.
func TestABankThatBecomesFree(t *testing.T) {
	x := api.State{Mem: memory(16), Table: []api.Request{load(0, 0, 1), load(8, 2, 0)}}
	want := api.State{Mem: x.Mem, Lats: 1, Table: []api.Request{load(8, 2, 5)}}
	becomes(t, config(2, 9), api.Script{Lats: []int{4}}, x, want)
	x.Table[0].Left = 2
	want = api.State{Mem: x.Mem, Table: []api.Request{load(0, 0, 1), load(8, 2, 0)}}
	becomes(t, config(2, 9), api.Script{Lats: []int{4}}, x, want)
	x.Table = []api.Request{load(8, 2, 0), load(0, 0, 2)}
	want.Table = []api.Request{load(8, 2, 0), load(0, 0, 1)}
	becomes(t, config(2, 9), api.Script{Lats: []int{4}}, x, want)
	x.Table = []api.Request{load(8, 2, 0), load(4, 0, 2)}
	want.Table, want.Lats = []api.Request{load(8, 2, 5), load(4, 0, 1)}, 1
	becomes(t, config(2, 9), api.Script{Lats: []int{4}}, x, want)
}

// P1802: of more than one that wait the Pick-th begins, in order, and Picks is one more.
func TestPickOfThoseThatWait(t *testing.T) {
	for pick := range 9 {
		x := api.State{Picks: 1, Table: []api.Request{load(0, 1, 0), load(4, 2, 0), load(16, 3, 0), load(12, 4, 3), load(32, 5, 0)}}
		want := cloned(x)
		want.Table[[]int{0, 2, 4}[pick%3]].Left, want.Table[1].Left, want.Table[3].Left = 8, 9, 2
		want.Lats, want.Picks = 2, 2
		becomes(t, config(4, 100), api.Script{Lats: []int{7, 8}, Picks: []int{55, pick, 66}}, x, want)
	}
}

// P1802: without picks the first one begins, and Picks is one more nevertheless; alone, Picks stays.
func TestPicksAreUsedIfThereIsAChoice(t *testing.T) {
	x := api.State{Picks: 7, Table: []api.Request{load(0, 1, 0), load(0, 2, 0)}}
	want := cloned(x)
	want.Table[0].Left, want.Lats, want.Picks = 1, 1, 8
	becomes(t, config(1, 5), api.Script{}, x, want)
	x.Table = x.Table[1:]
	want.Table, want.Picks = []api.Request{load(0, 2, 1)}, 7
	becomes(t, config(1, 5), api.Script{}, x, want)
	becomes(t, config(1, 5), api.Script{Picks: []int{1, 2, 3}}, x, want)
}

// P1802: the banks use the script in their order, not in that of the Table.
func TestBanksInOrder(t *testing.T) {
	s := api.Script{Lats: []int{10, 20, 30, 40}, Picks: []int{1, 0, 1, 1}}
	x := api.State{}
	for _, addr := range []int{12, 12, 8, 8, 4, 4, 0, 0} {
		x.Table = append(x.Table, load(addr, 1, 0))
	}
	want := cloned(x)
	want.Lats, want.Picks = 4, 4
	want.Table[7].Left, want.Table[4].Left, want.Table[3].Left, want.Table[1].Left = 11, 21, 31, 41
	becomes(t, config(4, 100), s, x, want)
	x.Lats, x.Picks = 2, 1
	want = cloned(x)
	want.Lats, want.Picks = 6, 5
	want.Table[6].Left, want.Table[5].Left, want.Table[3].Left, want.Table[1].Left = 31, 41, 11, 21
	becomes(t, config(4, 100), s, x, want)
}

// P1802: how many were used may be any number; below 0 the script is not asked.
func TestBeginWithFarCounts(t *testing.T) {
	s := api.Script{Lats: []int{10, 20, 30}, Picks: []int{1, 2}}
	for _, n := range numbers {
		if n == math.MaxInt {
			continue
		}
		x := api.State{Lats: n, Picks: n, Table: []api.Request{load(0, 1, 0), load(0, 2, 0), load(0, 3, 0)}}
		want := cloned(x)
		want.Lats, want.Picks = n+1, n+1
		if n < 0 {
			want.Table[0].Left = 1
		} else {
			want.Table[1+n%2].Left = 11 + 10*(n%3)
		}
		becomes(t, config(1, 100), s, x, want)
	}
}

// P1802: below 0, Left is neither how many cycles still nor that it waits: such a one stays, and keeps no bank busy.
func TestLeftBelowNought(t *testing.T) {
	for _, left := range numbers {
		if left >= 0 {
			continue
		}
		x := api.State{Mem: memory(8), Table: []api.Request{load(0, 1, left), store(0, 9, left), load(0, 2, 0)}}
		want := cloned(x)
		want.Table[2].Left, want.Lats = 1, 1
		becomes(t, config(1, 5), api.Script{Picks: []int{1}}, x, want)
		x.Table = x.Table[:2]
		becomes(t, config(1, 5), api.Script{Picks: []int{1}}, x, x)
	}
}

// P1802: requests to addresses that can't be are in a bank, too: below 0, in the first one.
func TestBanksOfFarAddresses(t *testing.T) {
	for _, addr := range numbers {
		at := 0
		if addr > 0 {
			at = addr >> 2 & 3
		}
		for bank := range 4 {
			x := api.State{Mem: memory(8), Table: []api.Request{load(4*bank, 1, 5), load(addr, 2, 0)}}
			want := cloned(x)
			want.Table[0].Left = 4
			if at != bank {
				want.Table[1].Left, want.Lats = 3, 1
			}
			becomes(t, config(4, 5), api.Script{Lats: []int{2}}, x, want)
		}
	}
}

// P1802: Banks or Lat that can't be leave all as it is, whatever there would be to do.
func TestAdvanceOfAConfigThatCannotBe(t *testing.T) {
	c := chance(1802)
	for range 30 {
		x := c.state()
		x.Table = append(x.Table, load(0, 1, 1), store(4, 5, 1), load(8, 1, 4), load(12, 2, 0))
		for _, n := range append([]int{17, 18, 64, 100, 1001}, numbers...) {
			if n < 1 || n > api.MaxBanks {
				becomes(t, config(n, 5), api.Script{}, x, x)
			}
			if n < 1 || n > api.MaxLat {
				becomes(t, config(5, n), api.Script{}, x, x)
			}
			if n < 1 {
				becomes(t, config(n, n), api.Script{}, x, x)
			}
		}
		becomes(t, api.Config{}, api.Script{}, x, x)
		becomes(t, api.Config{}, api.Script{}, api.State{}, api.State{})
	}
}

// P1802: each number of banks and each latency that can be goes on.
func TestAdvanceOfEachConfig(t *testing.T) {
	for n := 1; n <= api.MaxBanks; n++ {
		x := api.State{}
		for bank := range 2 * n {
			x.Table = append(x.Table, load(4*bank, 1, 0))
		}
		want := cloned(x)
		want.Lats, want.Picks = n, n
		for bank := range n {
			want.Table[n+bank].Left = 1
		}
		becomes(t, config(n, 1), api.Script{Lats: []int{-1}, Picks: []int{1}}, x, want)
	}
	for lat := 1; lat <= api.MaxLat; lat++ {
		x := api.State{Table: []api.Request{load(0, 1, 0), load(4, 2, 0)}}
		want := cloned(x)
		want.Table[0].Left, want.Table[1].Left, want.Lats = lat, 1, 2
		becomes(t, config(2, lat), api.Script{Lats: []int{lat - 1, lat}}, x, want)
	}
}

// P1802: nothing but Banks and Lat is asked of a Config; more may be in the Table than Flight.
func TestNothingElseIsAsked(t *testing.T) {
	c := chance(18021)
	for range 50 {
		x, s := c.state(), api.Script{Lats: c.numbers(3), Picks: c.numbers(3)}
		want := expected(config(3, 9), s, x)
		for _, n := range numbers {
			becomes(t, api.Config{Ldq: n, Sdq: n, Aeq: n, Abq: n, Ebq: n, Saq: n, Banks: 3, Flight: n, Slip: n, Lat: 9, Mul: n, Div: n}, s, x, want)
		}
	}
}

// P1802: what is begun with a latency is done just so many cycles later, and is there from the cycle behind that on.
func TestALoadsLife(t *testing.T) {
	for lat := 1; lat <= 12; lat++ {
		x := api.State{Cycle: 100, Mem: memory(8), Table: []api.Request{load(4, 3, 0)}}
		x.A.Ready[3] = -1
		cycles := 0
		for len(x.Table) > 0 && cycles < 100 {
			if x.A.Ready[3] != -1 || x.A.Regs[3] != 0 {
				t.Fatalf("the register is there while the load is in the Table: %v", x)
			}
			x = Advance(config(2, 12), api.Script{Lats: []int{lat - 1}}, x)
			x.Cycle++
			cycles++
		}
		if cycles != lat+1 || x.A.Regs[3] != 0x08070605 || x.A.Ready[3] != 100+lat+1 || x.Lats != 1 {
			t.Errorf("a load of latency %d took %d cycles: %v", lat, cycles, x)
		}
	}
}

// stretch is the place of an address in a memory, where so many bytes may be moved (below 0: they may not).
func stretch(m []byte, addr, size int) int {
	for at := 0; at+size <= len(m); at += size {
		if at == addr {
			return at
		}
	}
	return -1
}

// loaded is what a load has of the memory, told byte by byte.
func loaded(m []byte, op, addr int) uint32 {
	size := map[int]int{api.Lw: 4, api.Lh: 2, api.Lhu: 2, api.Lb: 1, api.Lbu: 1}[op]
	if size == 0 || stretch(m, addr, size) < 0 {
		return 0
	}
	sum := 0
	for k := range size {
		sum += int(m[addr+k]) << (8 * k)
	}
	if (op == api.Lh || op == api.Lb) && m[addr+size-1] >= 0x80 {
		sum -= 1 << (8 * size)
	}
	return uint32(sum)
}

// ended is the state once a request is done.
func ended(x api.State, r api.Request) api.State {
	if r.Store {
		if (r.Size == 1 || r.Size == 2 || r.Size == 4) && stretch(x.Mem, r.Addr, r.Size) >= 0 {
			for k := range r.Size {
				x.Mem[r.Addr+k] = byte(r.Val >> (8 * k))
			}
		}
		x.Writes = append(x.Writes, api.Write{Addr: r.Addr, Size: r.Size, Val: r.Val})
		if len(x.Saq) > 0 {
			x.Saq = slices.Delete(x.Saq, 0, 1)
		}
		return x
	}
	w := loaded(x.Mem, r.Op, r.Addr)
	if r.Reg > 0 && r.Reg <= 15 {
		x.A.Regs[r.Reg], x.A.Ready[r.Reg] = w, x.Cycle+1
	}
	if r.Reg < 0 {
		if at := slices.IndexFunc(x.Ldq, func(s api.Slot) bool { return s.Tag == r.Tag && !s.Full }); at >= 0 {
			x.Ldq[at].Full, x.Ldq[at].Val = true, w
		}
	}
	return x
}

// chosen is the number that a script has at a place, modulo; 0: it is not asked.
func chosen(l []int, i, n int) int {
	if len(l) == 0 || i < 0 {
		return 0
	}
	return lowest(l[i%len(l)]) % n
}

// expected is what Advance has to answer, told the other way round: what is done is what has 1, and each bank has its lists.
func expected(c api.Config, s api.Script, x api.State) api.State {
	x = cloned(x)
	for at := 0; at < len(x.Table); {
		if x.Table[at].Left == 1 {
			x = ended(x, x.Table[at])
			x.Table = slices.Delete(x.Table, at, at+1)
			continue
		}
		at++
	}
	busy, waiting := make([]int, c.Banks), make([][]*api.Request, c.Banks)
	for at := range x.Table {
		r := &x.Table[at]
		bank := 0
		if r.Addr > 0 {
			bank = r.Addr >> 2 % c.Banks
		}
		if r.Left > 1 {
			r.Left--
			busy[bank]++
		} else if r.Left == 0 {
			waiting[bank] = append(waiting[bank], r)
		}
	}
	for bank, l := range waiting {
		if busy[bank] > 0 || len(l) == 0 {
			continue
		}
		r := l[0]
		if len(l) > 1 {
			r = l[chosen(s.Picks, x.Picks, len(l))]
			x.Picks++
		}
		r.Left = 1 + chosen(s.Lats, x.Lats, c.Lat)
		x.Lats++
	}
	return x
}

// P1802: all Tables of up to three requests of a few kinds, with one bank and with more.
func TestAllShortTables(t *testing.T) {
	var kinds []api.Request
	for left := -1; left < 3; left++ {
		for _, addr := range []int{0, 4, 8} {
			kinds = append(kinds, load(addr, 1, left), fetch(addr, 1, left), store(addr, 0xa0b0c0d0, left))
		}
	}
	tables := 0
	try := func(l ...api.Request) {
		tables++
		x := api.State{Cycle: 5, Lats: 1, Picks: 1, Mem: memory(12), Ldq: []api.Slot{{Tag: 1}, {Tag: 1}}, Saq: []api.Entry{{Addr: 4, Size: 4}, {Addr: 8, Size: 4}}, Table: l}
		s := api.Script{Lats: []int{6, 4, 5}, Picks: []int{2, 1, 5}}
		for n := 1; n <= 3; n++ {
			if got, want := Advance(config(n, 9), s, x), expected(config(n, 9), s, x); !same(got, want) {
				t.Fatalf("Advance(%d banks, %v) = %v, want %v", n, x, got, want)
			}
		}
	}
	try()
	for _, one := range kinds {
		try(one)
		for _, two := range kinds {
			try(one, two)
			for _, three := range kinds {
				try(one, two, three)
			}
		}
	}
	if want := 1 + 36 + 36*36 + 36*36*36; tables != want {
		t.Errorf("%d Tables were tried, want %d", tables, want)
	}
}

// P1802, P1803: many states, each some cycles on; each cycle twice, so that nothing hangs on what was asked ahead.
func TestManyStates(t *testing.T) {
	c := chance(18022)
	done, begun, picked := 0, 0, 0
	for range 2000 {
		x, k := c.state(), config(1+c.next(5), 1+c.next(6))
		s := api.Script{Lats: c.numbers(5), Picks: c.numbers(5)}
		if c.next(10) == 0 {
			k = config(1+c.next(api.MaxBanks), 1+c.next(api.MaxLat))
		}
		for range 10 {
			want := expected(k, s, x)
			becomes(t, k, s, x, want)
			done += len(x.Table) - len(want.Table)
			begun += want.Lats - x.Lats
			picked += want.Picks - x.Picks
			x = want
			x.Cycle++
		}
	}
	if done < 3000 || begun < 3000 || picked < 500 {
		t.Errorf("%d requests were done, %d begun, %d picked", done, begun, picked)
	}
}

// P1802: each request that can be is done at last, whatever the script is, and the stores to a word in any order once each.
func TestAllAreDone(t *testing.T) {
	c := chance(18023)
	for range 300 {
		k, s := config(1+c.next(api.MaxBanks), 1+c.next(20)), api.Script{Lats: c.numbers(5), Picks: c.numbers(5)}
		x := api.State{Mem: memory(64)}
		n := 1 + c.next(20)
		for i := range n {
			x.Table = append(x.Table, store(4*c.next(16), uint32(i), 0))
			x.Saq = append(x.Saq, api.Entry{Step: i})
		}
		for range n * (k.Lat + 1) {
			x = Advance(k, s, x)
		}
		var vals []int
		for _, w := range x.Writes {
			vals = append(vals, int(w.Val))
		}
		slices.Sort(vals)
		if len(x.Table) != 0 || len(x.Saq) != 0 || x.Lats != n || len(vals) != n || vals[0] != 0 || vals[n-1] != n-1 || len(slices.Compact(vals)) != n {
			t.Fatalf("%d stores by %v, %v: %v", n, k, s, x)
		}
	}
}

// P1803: what was answered stays so when what was handed in is written to, and when it is asked again.
func TestNothingIsKept(t *testing.T) {
	c := chance(1803)
	for range 200 {
		x := c.state()
		s := api.Script{Lats: []int{4, 2, -1}, Picks: []int{1, 0, 2}}
		for _, k := range []api.Config{config(2, 5), {}} {
			in := cloned(x)
			first := Advance(k, s, in)
			was := cloned(first)
			scribbled(in)
			for range 3 {
				Advance(k, api.Script{Lats: []int{9}}, c.state())
			}
			if !same(first, was) {
				t.Fatalf("what was answered is %v, was %v", first, was)
			}
			if again := Advance(k, s, x); !same(again, was) {
				t.Fatalf("asked again: %v, was %v", again, was)
			}
		}
	}
}

// P1802: a very long Table, all of it done, going on, and waiting for one bank.
func TestAVeryLongTable(t *testing.T) {
	const many = 200000
	x := api.State{Mem: memory(16), Picks: 1}
	for i := range many {
		x.Table = append(x.Table, load(4*(i%4), 1+i%15, 1))
	}
	got := Advance(config(16, 5), api.Script{}, x)
	if len(got.Table) != 0 || got.A.Ready[15] != 1 || got.Lats != 0 {
		t.Errorf("%d are left of a very long Table that is done", len(got.Table))
	}
	for i := range x.Table {
		x.Table[i].Left = 3
	}
	got = Advance(config(16, 5), api.Script{}, x)
	if len(got.Table) != many || got.Table[many-1].Left != 2 {
		t.Errorf("%d are left of a very long Table that goes on", len(got.Table))
	}
	for i := range x.Table {
		x.Table[i].Addr, x.Table[i].Left = 4, 0
	}
	got = Advance(config(16, 5), api.Script{Picks: []int{0, many - 2}}, x)
	if len(got.Table) != many || got.Table[many-2].Left != 1 || got.Table[many-1].Left != 0 || got.Table[0].Left != 0 || got.Lats != 1 || got.Picks != 2 {
		t.Errorf("%d are left of a very long Table that waits", len(got.Table))
	}
}
