package state

import (
	"math"
	"reflect"
	"slices"
	"strconv"
	"testing"

	"forerunner/api"
	"forerunner/banks"
	"forerunner/bytes"
	"forerunner/split"
)

// far are numbers far from all that may be; some have the lowest bits of one that may.
var far = []int{math.MinInt, math.MinInt + 1, -1 << 40, -1 << 32, 1<<32 - 4, 1 << 32, 1<<32 + 1, 1<<32 + 4, 1<<40 + 1, 1<<40 + 4, 1 << 41, math.MaxInt - 3, math.MaxInt - 1, math.MaxInt}

// around are the numbers at both limits, and far ones.
func around(least, most int) []int {
	return append([]int{least - 1, least, least + 1, most - 1, most, most + 1, -1, 0, 1}, far...)
}

// chance makes numbers, the same ones each time.
type chance uint32

// next is the next number, from 0 to below most.
func (c *chance) next(most int) int {
	*c = *c*1664525 + 1013904223
	return int(*c>>9) % most
}

// word is one at an end, or any.
func (c *chance) word() uint32 {
	if c.next(3) == 0 {
		return []uint32{0, 1, 0xff, 0xffff, 1 << 31, math.MaxUint32}[c.next(6)]
	}
	return uint32(c.next(1<<16))<<16 | uint32(c.next(1<<16))
}

// number is one that is most often no greater than 20, else at an end of what a state counts to, or far.
func (c *chance) number() int {
	switch c.next(6) {
	case 0:
		return []int{-2, -1, 0, 1, 1 << 40, 1<<40 + 1, api.MaxLat, api.MaxLat + 1}[c.next(8)]
	case 1:
		return far[c.next(len(far))]
	}
	return c.next(22) - 1
}

// wide is a Config whose numbers are all 6, so that a few more or less may be, too.
func wide() api.Config {
	return api.Config{Ldq: 6, Sdq: 6, Aeq: 6, Abq: 6, Ebq: 6, Saq: 6, Banks: 6, Flight: 6, Slip: 6, Lat: 6, Mul: 6, Div: 6}
}

// made is a split of three blocks whose sides have 2 and 5, 4 and 1, 0 and 0 cells.
func made() api.Split {
	cells := func(n int) []api.Cell { return make([]api.Cell, n) }
	return api.Split{Blocks: []api.Block{{A: cells(2), E: cells(5)}, {A: cells(4), E: cells(1)}, {A: cells(0), E: cells(0)}}}
}

// full is a state that is Right, with something in each of its lists, and a store on its way.
func full() api.State {
	x := api.State{
		Cycle: 7, Lats: 3, Picks: 2, Tags: 5,
		Ldq: []api.Slot{{Tag: 1, Full: true, Val: 9}, {Tag: 2}},
		Sdq: []uint32{1, 2}, Aeq: []uint32{3, 4}, Abq: []bool{true, false}, Ebq: []bool{false, true},
		Saq:    []api.Entry{{Addr: 8, Size: 4, Step: 3, Known: true, Val: 77}, {Addr: 6, Size: 2, Step: 5}, {Addr: 15, Size: 1, Step: 9}},
		Table:  []api.Request{{Op: api.Lhu, Addr: 2, Size: 2, Left: 4, Reg: 3}, {Store: true, Op: api.Sw, Addr: 8, Size: 4, Val: 77, Left: 2}, {Op: api.Lb, Addr: 5, Size: 1, Reg: -1, Tag: 2}},
		Mem:    []byte{1, 2, 3, 4, 5, 6, 7, 8, 9, 10, 11, 12, 13, 14, 15, 16},
		Writes: []api.Write{{Addr: 4, Size: 4, Val: 5}, {Addr: 8, Size: 1, Val: 6}},
		Trap:   api.Trap{Kind: api.TDiv, Step: 8, Pc: 2},
	}
	x.A.Pos, x.E.Pos = api.Pos{Block: 1, Index: 3, Base: 6}, api.Pos{Block: 0, Index: 4, Base: 2}
	for i := range 16 {
		x.A.Regs[i], x.E.Regs[i], x.A.Ready[i], x.E.Ready[i] = uint32(i), uint32(2*i), i-1, 2*i
	}
	x.A.Wait, x.E.Wait, x.A.Done, x.E.Done, x.E.Halted = 8, 9, 10, 4, true
	return x
}

// cloned is the state with lists of its own.
func cloned(x api.State) api.State {
	x.Ldq, x.Sdq, x.Aeq, x.Abq, x.Ebq = slices.Clone(x.Ldq), slices.Clone(x.Sdq), slices.Clone(x.Aeq), slices.Clone(x.Abq), slices.Clone(x.Ebq)
	x.Saq, x.Table, x.Mem, x.Writes = slices.Clone(x.Saq), slices.Clone(x.Table), slices.Clone(x.Mem), slices.Clone(x.Writes)
	return x
}

// leaves calls visit with each number, word and bool of a value, and its name.
func leaves(v reflect.Value, name string, visit func(name string, leaf reflect.Value)) {
	switch v.Kind() {
	case reflect.Struct:
		for i := range v.NumField() {
			leaves(v.Field(i), name+"."+v.Type().Field(i).Name, visit)
		}
	case reflect.Slice, reflect.Array:
		for i := range v.Len() {
			leaves(v.Index(i), name+"["+strconv.Itoa(i)+"]", visit)
		}
	default:
		visit(name, v)
	}
}

// turn makes another value of a number, a word or a bool.
func turn(leaf reflect.Value) {
	switch leaf.Kind() {
	case reflect.Bool:
		leaf.SetBool(!leaf.Bool())
	case reflect.Int:
		leaf.SetInt(leaf.Int() + 1)
	default:
		leaf.SetUint(leaf.Uint() + 1)
	}
}

// number is a number of a state, and the least and the most that it may be.
type number struct {
	name        string
	at          func(x *api.State) *int
	least, most int
}

// numbers are those of a state like full, whose limits hang on nothing else.
func numbers() []number {
	const top = 1 << 40
	l := []number{
		{"Cycle", func(x *api.State) *int { return &x.Cycle }, 0, top},
		{"A.Wait", func(x *api.State) *int { return &x.A.Wait }, 0, top},
		{"E.Wait", func(x *api.State) *int { return &x.E.Wait }, 0, top},
		{"A.Done", func(x *api.State) *int { return &x.A.Done }, 0, top},
		{"E.Done", func(x *api.State) *int { return &x.E.Done }, 0, top},
		{"Lats", func(x *api.State) *int { return &x.Lats }, 0, top},
		{"Picks", func(x *api.State) *int { return &x.Picks }, 0, top},
		{"Tags", func(x *api.State) *int { return &x.Tags }, 0, top},
		{"A.Base", func(x *api.State) *int { return &x.A.Pos.Base }, 0, top},
		{"E.Base", func(x *api.State) *int { return &x.E.Pos.Base }, 0, top},
		{"A.Index of 4", func(x *api.State) *int { return &x.A.Pos.Index }, 0, 4},
		{"E.Index of 5", func(x *api.State) *int { return &x.E.Pos.Index }, 0, 5},
		{"Trap.Kind", func(x *api.State) *int { return &x.Trap.Kind }, 1, 4},
		{"Trap.Step", func(x *api.State) *int { return &x.Trap.Step }, 0, top},
		{"Trap.Pc", func(x *api.State) *int { return &x.Trap.Pc }, 0, top},
	}
	for i := range 16 {
		l = append(l, number{"A.Ready", func(x *api.State) *int { return &x.A.Ready[i] }, -1, top},
			number{"E.Ready", func(x *api.State) *int { return &x.E.Ready[i] }, -1, top})
	}
	for i := range 3 {
		l = append(l, number{"Saq.Step", func(x *api.State) *int { return &x.Saq[i].Step }, 0, top},
			number{"Table.Left", func(x *api.State) *int { return &x.Table[i].Left }, 0, 1000},
			number{"Table.Reg", func(x *api.State) *int { return &x.Table[i].Reg }, -1, 15})
	}
	return l
}

// is holds what Right answers.
func is(t *testing.T, want bool, c api.Config, s api.Split, x api.State) {
	t.Helper()
	if got := Right(c, s, x); got != want {
		t.Errorf("Right(%v, %v, %v) = %v", c, s, x, got)
	}
}

// fields are the numbers of a Config, each with the most that it may be.
func fields(c *api.Config) ([]*int, []int) {
	return []*int{&c.Ldq, &c.Sdq, &c.Aeq, &c.Abq, &c.Ebq, &c.Saq, &c.Banks, &c.Flight, &c.Slip, &c.Lat, &c.Mul, &c.Div},
		[]int{64, 64, 64, 64, 64, 64, 16, 64, 64, 1000, 50, 50}
}

// P1901: the chapter's example, and each number at its limits and far from them, beside others that may be.
func TestConfigNumberByNumber(t *testing.T) {
	if Config(api.Config{}) {
		t.Error("Config of a zero one")
	}
	for k := range 12 {
		_, most := fields(new(api.Config))
		for _, n := range append(around(1, most[k]), 50, 51, 64, 65, 1000, 1001) {
			for _, rest := range []int{1, 16} {
				var c api.Config
				at, _ := fields(&c)
				for _, p := range at {
					*p = rest
				}
				*at[k] = n
				if got, want := Config(c), 1 <= n && n <= most[k]; got != want {
					t.Errorf("Config(%+v) = %v", c, got)
				}
			}
		}
	}
}

// P1901: all numbers at their limits; one that can't be is seen whatever the others are.
func TestConfigOfAnyNumbers(t *testing.T) {
	var most api.Config
	at, limits := fields(&most)
	for k := range at {
		*at[k] = limits[k]
	}
	if !Config(most) {
		t.Errorf("Config(%+v)", most)
	}
	c := chance(1901)
	count := map[bool]int{}
	for range 50000 {
		var x api.Config
		at, limits := fields(&x)
		want := true
		for k := range at {
			*at[k] = 1 + c.next(limits[k])
			if c.next(15) == 0 {
				*at[k] = []int{0, -1, limits[k] + 1, c.number(), far[c.next(len(far))]}[c.next(5)]
			}
			want = want && *at[k] > 0 && *at[k] <= limits[k]
		}
		if got := Config(x); got != want {
			t.Fatalf("Config(%+v) = %v", x, got)
		}
		count[want]++
	}
	if count[true] < 1000 || count[false] < 1000 {
		t.Errorf("so many of each: %v", count)
	}
}

// halts is a program with nothing but Halt.
func halts(size int, data []byte) api.Program {
	return api.Program{Code: []api.Ins{{Op: api.Halt}}, Size: size, Data: data}
}

// P1901: all is zero, but Mem, which has Data and bytes 0 behind.
func TestFirst(t *testing.T) {
	c := chance(1)
	for _, size := range []int{0, 1, 2, 3, 4, 5, 31, 255, 256, 65535, 65536} {
		for _, n := range []int{0, 1, 2, 5, 31, size - 1, size} {
			if n < 0 || n > size {
				continue
			}
			data := make([]byte, n)
			for i := range data {
				data[i] = byte(1 + c.next(255))
			}
			p := halts(size, data)
			got := First(p)
			if len(got.Mem) != size || !slices.Equal(got.Mem[:n], data) || slices.ContainsFunc(got.Mem[n:], func(b byte) bool { return b != 0 }) {
				t.Errorf("First: Mem of %d with %d of Data: %v", size, n, got.Mem)
			}
			got.Mem = nil
			if !reflect.DeepEqual(got, api.State{}) {
				t.Errorf("First: %+v", got)
			}
		}
	}
}

// P1901: of a program that is not Right all is zero, Mem too.
func TestFirstOfWhatIsNotRight(t *testing.T) {
	code := halts(0, nil).Code
	long := make([]api.Ins, api.MaxCode+1)
	for i := range long {
		long[i] = code[0]
	}
	for i, p := range []api.Program{
		{}, {Size: 5, Data: []byte{1}}, {Code: code, Size: -1}, {Code: code, Size: math.MinInt}, {Code: code, Size: api.MaxMem + 1}, {Code: code, Size: math.MaxInt},
		{Code: code, Data: []byte{1}}, {Code: code, Size: 2, Data: []byte{1, 2, 3}}, {Code: long, Size: 5}, {Code: []api.Ins{{}}, Size: 5}, {Code: []api.Ins{{Op: api.Halt, D: 1}}, Size: 5},
		{Code: []api.Ins{{Op: api.J, Imm: 1}}, Size: 5, Data: []byte{1}}, {Code: []api.Ins{{Op: api.Beq, Imm: -1}}, Size: 5},
	} {
		if got := First(p); !reflect.DeepEqual(got, api.State{}) {
			t.Errorf("First of %d: %+v", i, got)
		}
	}
	if got := First(api.Program{Code: long[1:], Size: 5}); len(got.Mem) != 5 {
		t.Errorf("First of the longest code: %+v", got)
	}
}

// P1902: what a program begins with is Right, whatever the Config; a zero state is, if there is a block.
func TestRightOfFirst(t *testing.T) {
	p := api.Program{Size: 16, Data: []byte{1, 2}, Code: []api.Ins{{Op: api.Lw, D: 1}, {Op: api.Sw, B: 1, Imm: 8}, {Op: api.Beq, A: 1, Imm: -2}, {Op: api.Halt}}}
	s, e := split.Of(p)
	if e != api.OK {
		t.Fatalf("Of: %v", e)
	}
	least := api.Config{Ldq: 1, Sdq: 1, Aeq: 1, Abq: 1, Ebq: 1, Saq: 1, Banks: 1, Flight: 1, Slip: 1, Lat: 1, Mul: 1, Div: 1}
	for _, c := range []api.Config{wide(), least} {
		is(t, true, c, s, First(p))
		is(t, true, c, s, api.State{})
		is(t, true, c, api.Split{Blocks: make([]api.Block, 1)}, First(p))
		is(t, false, c, api.Split{}, First(p))
		is(t, false, c, api.Split{Blocks: []api.Block{}}, api.State{})
	}
	is(t, true, wide(), made(), full())
}

// P1902: of what is not Config nothing is Right.
func TestRightOfNoConfig(t *testing.T) {
	is(t, false, api.Config{}, made(), api.State{})
	for k := range 12 {
		for _, n := range []int{0, -1, 1001, math.MinInt, math.MaxInt} {
			c := wide()
			at, _ := fields(&c)
			*at[k] = n
			is(t, false, c, made(), full())
			is(t, false, c, made(), api.State{})
		}
	}
}

// P1902: each number at its limits and far from them.
func TestRightNumberByNumber(t *testing.T) {
	for _, n := range numbers() {
		for _, v := range around(n.least, n.most) {
			if n.name == "Trap.Kind" && v == 0 {
				continue
			}
			x := full()
			*n.at(&x) = v
			if got, want := Right(wide(), made(), x), n.least <= v && v <= n.most; got != want {
				t.Errorf("Right with %s %d = %v", n.name, v, got)
			}
		}
	}
}

// P1902: each side's block is one of the split, and its Index no greater than its own side's number of cells.
func TestRightPlaces(t *testing.T) {
	most := [2][3]int{{2, 4, 0}, {5, 1, 0}}
	for side := range 2 {
		for _, block := range append([]int{-1, 0, 1, 2, 3, 4}, far...) {
			for _, index := range append([]int{-2, -1, 0, 1, 2, 3, 4, 5, 6}, far...) {
				x := api.State{}
				at := []*api.Pos{&x.A.Pos, &x.E.Pos}[side]
				at.Block, at.Index = block, index
				want := 0 <= block && block < 3 && 0 <= index && index <= most[side][block]
				is(t, want, wide(), made(), x)
			}
		}
	}
}

// P1902: a queue has at most as many as its own number of the Config; the Table, as Flight.
func TestRightQueues(t *testing.T) {
	for k, queue := range []struct {
		field func(c *api.Config) *int
		put   func(x *api.State, n int)
	}{
		{func(c *api.Config) *int { return &c.Ldq }, func(x *api.State, n int) { x.Ldq = make([]api.Slot, n) }},
		{func(c *api.Config) *int { return &c.Sdq }, func(x *api.State, n int) { x.Sdq = make([]uint32, n) }},
		{func(c *api.Config) *int { return &c.Aeq }, func(x *api.State, n int) { x.Aeq = make([]uint32, n) }},
		{func(c *api.Config) *int { return &c.Abq }, func(x *api.State, n int) { x.Abq = make([]bool, n) }},
		{func(c *api.Config) *int { return &c.Ebq }, func(x *api.State, n int) { x.Ebq = make([]bool, n) }},
		{func(c *api.Config) *int { return &c.Saq }, func(x *api.State, n int) { x.Saq = slices.Repeat([]api.Entry{{Size: 1}}, n) }},
		{func(c *api.Config) *int { return &c.Flight }, func(x *api.State, n int) { x.Table = slices.Repeat([]api.Request{{Op: api.Lb, Size: 1}}, n) }},
	} {
		for _, most := range []int{1, 2, 5, 63, 64} {
			for _, rest := range []int{1, 16} {
				var c api.Config
				at, _ := fields(&c)
				for _, p := range at {
					*p = rest
				}
				*queue.field(&c) = most
				for _, n := range []int{0, 1, most - 1, most, most + 1, 64, 65, 200} {
					x := api.State{Mem: make([]byte, 1)}
					queue.put(&x, n)
					if got := Right(c, made(), x); got != (n <= most) {
						t.Errorf("Right with %d of at most %d in queue %d = %v", n, most, k, got)
					}
				}
			}
		}
	}
}

// P1902: memory has at most MaxMem bytes, and what was written may be any number of any writes.
func TestRightMemory(t *testing.T) {
	for _, n := range []int{0, 1, 65535, 65536, 65537, 100000} {
		is(t, n <= 65536, wide(), made(), api.State{Mem: make([]byte, n)})
	}
	is(t, true, wide(), made(), api.State{Writes: make([]api.Write, 70000)})
}

// moves tells whether each of so many bytes from there on is in a memory of n, and there is a multiple of it.
func moves(addr, size, n int) bool {
	if addr < 0 || addr >= n {
		return false
	}
	return addr/size*size == addr && addr+size-1 < n
}

// P1902: an entry's Size is 1, 2 or 4, and all of it is in memory, at a multiple; in any place of the queue.
func TestRightEntries(t *testing.T) {
	for _, n := range []int{0, 1, 2, 3, 4, 5, 6, 7, 8, 9} {
		for _, size := range append([]int{-4, -2, -1, 0, 1, 2, 3, 4, 5, 6, 8}, far...) {
			for _, addr := range append([]int{-8, -4, -3, -2, -1, 0, 1, 2, 3, 4, 5, 6, 7, 8, 9, 10, 12}, far...) {
				e := api.Entry{Addr: addr, Size: size}
				want := (size == 1 || size == 2 || size == 4) && moves(addr, size, n)
				x := api.State{Mem: make([]byte, n), Saq: []api.Entry{e}}
				is(t, want, wide(), made(), x)
				if n > 0 {
					x.Saq = []api.Entry{{Size: 1}, {Size: 1}, e}
					is(t, want, wide(), made(), x)
				}
			}
		}
	}
	x := api.State{Mem: make([]byte, 65536), Saq: []api.Entry{{Addr: 65532, Size: 4}, {Addr: 65534, Size: 2}, {Addr: 65535, Size: 1}}}
	is(t, true, wide(), made(), x)
	for i := range x.Saq {
		y := cloned(x)
		y.Saq[i].Addr = 65536
		is(t, false, wide(), made(), y)
	}
}

// sizes are how many bytes the operations from Lw to Sb move.
var sizes = [8]int{4, 2, 2, 1, 1, 4, 2, 1}

// P1902: a load's Op is Lw to Lbu, a store's Sw to Sb, and the Size is that of the Op; at whatever place.
func TestRightRequests(t *testing.T) {
	for _, op := range append([]int{-1, 0, 1, 17, 25, 26, 27, 28, 29, 30, 31, 32, 33, 34, 41, 42, 1<<32 + api.Lw}, far...) {
		for _, store := range []bool{false, true} {
			for _, size := range append([]int{-1, 0, 1, 2, 3, 4, 8}, far...) {
				want := api.Lw <= op && op <= api.Lbu && !store || api.Sw <= op && op <= api.Sb && store
				want = want && size == sizes[op-api.Lw]
				r := api.Request{Store: store, Op: op, Addr: 4, Size: size}
				x := api.State{Mem: make([]byte, 8), Table: []api.Request{r}}
				if store {
					x.Saq = []api.Entry{{Addr: 4, Size: size, Known: true}}
				}
				is(t, want, wide(), made(), x)
				x.Table = []api.Request{{Op: api.Lw, Size: 4}, r}
				is(t, want, wide(), made(), x)
				// Behind an entry that may be, whatever the request is.
				if store {
					x.Saq = []api.Entry{{Addr: 4, Size: 4, Known: true}}
					is(t, want && size == 4, wide(), made(), x)
				}
			}
		}
	}
}

// P1902: all of a request is in memory, at a multiple of its Size.
func TestRightRequestsPlaces(t *testing.T) {
	for op := api.Lw; op <= api.Sb; op++ {
		for n := 1; n <= 9; n++ {
			for _, addr := range append([]int{-8, -4, -2, -1, 0, 1, 2, 3, 4, 5, 6, 7, 8, 9, 12}, far...) {
				size := sizes[op-api.Lw]
				r := api.Request{Store: op >= api.Sw, Op: op, Addr: addr, Size: size}
				x := api.State{Mem: make([]byte, n), Table: []api.Request{{Op: api.Lbu, Size: 1}, r}}
				if r.Store {
					x.Saq = []api.Entry{{Addr: addr, Size: size, Known: true}}
				}
				is(t, moves(addr, size, n), wide(), made(), x)
			}
		}
	}
	x := api.State{Mem: make([]byte, 65536), Table: []api.Request{{Op: api.Lw, Addr: 65532, Size: 4}}}
	is(t, true, wide(), made(), x)
	x.Table[0].Addr = 65536
	is(t, false, wide(), made(), x)
}

// P1902: Left may be above the Config's Lat, up to MaxLat.
func TestRightLeftIsNotTheConfigs(t *testing.T) {
	c := wide()
	c.Lat = 1
	x := full()
	for i := range x.Table {
		x.Table[i].Left = 1000
	}
	is(t, true, c, made(), x)
}

// queues are all queues of up to so many entries of these kinds.
func queues[T any](kinds []T, most int) [][]T {
	all := [][]T{nil}
	for begin, n := 0, 0; n < most; n++ {
		end := len(all)
		for _, l := range all[begin:end] {
			for _, k := range kinds {
				all = append(all, append(slices.Clone(l), k))
			}
		}
		begin = end
	}
	return all
}

// P1902: no entry is Known but the first; if it is, there is one store in the Table, of its Addr and Size, and else none.
func TestRightStores(t *testing.T) {
	entries := queues([]api.Entry{{Addr: 4, Size: 4}, {Addr: 4, Size: 4, Known: true}, {Addr: 4, Size: 2, Known: true}, {Addr: 0, Size: 4, Known: true}}, 3)
	tables := queues([]api.Request{{Op: api.Lw, Addr: 4, Size: 4}, {Store: true, Op: api.Sw, Addr: 4, Size: 4}, {Store: true, Op: api.Sh, Addr: 4, Size: 2}}, 4)
	count := 0
	for _, saq := range entries {
		for _, table := range tables {
			var stores []api.Request
			for _, r := range table {
				if r.Store {
					stores = append(stores, r)
				}
			}
			known := slices.IndexFunc(saq, func(e api.Entry) bool { return e.Known })
			want := known < 0 && len(stores) == 0
			if known == 0 && !slices.ContainsFunc(saq[1:], func(e api.Entry) bool { return e.Known }) {
				want = len(stores) == 1 && stores[0].Addr == saq[0].Addr && stores[0].Size == saq[0].Size
			}
			is(t, want, wide(), made(), api.State{Mem: make([]byte, 8), Saq: saq, Table: table})
			if want {
				count++
			}
		}
	}
	// 20 without a store, and 30 each of the first entries that one of the stores may be of.
	if count != 80 {
		t.Errorf("%d that are Right", count)
	}
}

// P1902: a store's Val and its entry's need not be the same.
func TestRightStoresValue(t *testing.T) {
	x := full()
	x.Saq[0].Val, x.Table[1].Val = 1, math.MaxUint32
	is(t, true, wide(), made(), x)
}

// P1902: a trap's kind, step and place; without one both are 0.
func TestRightTraps(t *testing.T) {
	l := append([]int{-2, -1, 0, 1, 2, 3, 4, 5, 6, 1<<40 - 1, 1 << 40}, far...)
	for _, kind := range l {
		for _, step := range l {
			for _, pc := range l {
				may := func(n int) bool { return 0 <= n && n <= 1<<40 }
				want := kind == 0 && step == 0 && pc == 0 || 1 <= kind && kind <= 4 && may(step) && may(pc)
				is(t, want, wide(), made(), api.State{Trap: api.Trap{Kind: kind, Step: step, Pc: pc}})
			}
		}
	}
}

// P1902: what the chapter does not name may be anything: registers, values, tags, who halted, what was written, what is in the split.
func TestRightAsksNothingElse(t *testing.T) {
	c := chance(3)
	for range 300 {
		x, s := full(), made()
		for i := range 16 {
			x.A.Regs[i], x.E.Regs[i], s.Owner[i] = c.word(), c.word(), c.number()
		}
		x.A.Halted, x.E.Halted = c.next(2) == 0, c.next(2) == 0
		for i := range x.Ldq {
			x.Ldq[i] = api.Slot{Tag: c.number(), Full: c.next(2) == 0, Val: c.word()}
			x.Writes[i] = api.Write{Addr: c.number(), Size: c.number(), Val: c.word()}
			x.Sdq[i], x.Aeq[i], x.Abq[i], x.Ebq[i] = c.word(), c.word(), c.next(2) == 0, c.next(2) == 0
		}
		for i := range x.Table {
			x.Table[i].Val, x.Table[i].Tag, x.Saq[i].Val = c.word(), c.number(), c.word()
		}
		for i := range s.Blocks {
			b := &s.Blocks[i]
			b.From, b.To, b.Next, b.Taken = c.number(), c.number(), c.number(), c.number()
			for k := range b.A {
				b.A[k] = api.Cell{Kind: c.number(), Reg: c.number(), Pc: c.number(), Off: c.number()}
			}
		}
		is(t, true, wide(), s, x)
	}
}

// told is a second telling of the chapter's words: what is amiss with a state of a Config that is one.
func told(c api.Config, s api.Split, x api.State) (amiss []string) {
	must := func(what string, ok bool) {
		if !ok {
			amiss = append(amiss, what)
		}
	}
	counts := func(what string, n int) { must(what, !(n < 0) && !(n > 1<<40)) }
	for _, side := range []struct {
		name  string
		s     api.Side
		cells func(b api.Block) int
	}{{"A", x.A, func(b api.Block) int { return len(b.A) }}, {"E", x.E, func(b api.Block) int { return len(b.E) }}} {
		found := false
		for i, b := range s.Blocks {
			found = found || i == side.s.Pos.Block && side.s.Pos.Index >= 0 && side.s.Pos.Index <= side.cells(b)
		}
		must(side.name+" is in no block", found)
		counts(side.name+" Base", side.s.Pos.Base)
		counts(side.name+" Wait", side.s.Wait)
		counts(side.name+" Done", side.s.Done)
		for _, ready := range side.s.Ready {
			if ready != -1 {
				counts(side.name+" Ready", ready)
			}
		}
	}
	for _, n := range []int{x.Cycle, x.Lats, x.Picks, x.Tags} {
		counts("a count", n)
	}
	room := []int{c.Ldq - len(x.Ldq), c.Sdq - len(x.Sdq), c.Aeq - len(x.Aeq), c.Abq - len(x.Abq), c.Ebq - len(x.Ebq), c.Saq - len(x.Saq), c.Flight - len(x.Table), 65536 - len(x.Mem)}
	must("a list is too long", slices.Min(room) >= 0)
	for i, e := range x.Saq {
		must("an entry's place", slices.Contains([]int{1, 2, 4}, e.Size) && moves(e.Addr, e.Size, len(x.Mem)))
		counts("an entry's step", e.Step)
		must("a Known one", i == 0 || !e.Known)
	}
	stores := 0
	for _, r := range x.Table {
		must("a request's Op", slices.Contains([]int{api.Lw, api.Lh, api.Lhu, api.Lb, api.Lbu}, r.Op) && !r.Store || slices.Contains([]int{api.Sw, api.Sh, api.Sb}, r.Op) && r.Store)
		must("a request's place", r.Size > 0 && r.Size == bytes.Size(r.Op) && moves(r.Addr, r.Size, len(x.Mem)))
		must("a request's Left", r.Left >= 0 && r.Left <= 1000)
		must("a request's Reg", r.Reg >= -1 && r.Reg <= 15)
		if r.Store {
			stores++
			must("the store is another one's", len(x.Saq) > 0 && r.Addr == x.Saq[0].Addr && r.Size == x.Saq[0].Size)
		}
	}
	if len(x.Saq) > 0 && x.Saq[0].Known {
		must("not one store", stores == 1)
	} else {
		must("a store that was not sent", stores == 0)
	}
	if x.Trap.Kind == 0 {
		must("no trap, somewhere", x.Trap.Step == 0 && x.Trap.Pc == 0)
	} else {
		must("a trap's kind", x.Trap.Kind > 0 && x.Trap.Kind < 5)
		counts("a trap's step", x.Trap.Step)
		counts("a trap's place", x.Trap.Pc)
	}
	return amiss
}

// spoil turns some number or bool of a state.
func (c *chance) spoil(x *api.State) {
	var all []reflect.Value
	leaves(reflect.ValueOf(x).Elem(), "", func(_ string, leaf reflect.Value) {
		if leaf.Kind() != reflect.Uint32 && leaf.Kind() != reflect.Uint8 {
			all = append(all, leaf)
		}
	})
	leaf := all[c.next(len(all))]
	switch {
	case leaf.Kind() == reflect.Bool:
		leaf.SetBool(!leaf.Bool())
	case c.next(2) == 0:
		leaf.SetInt(int64(c.number()))
	default:
		leaf.SetInt(leaf.Int() + int64(c.next(5)-2))
	}
}

// P1902: made states, most of them with one number turned, against the second telling of the words.
func TestRightOfMadeStates(t *testing.T) {
	c := chance(1902)
	count := map[string]int{}
	for range 60000 {
		x, k := full(), wide()
		at, _ := fields(&k)
		for _, p := range at {
			*p = 2 + c.next(5)
		}
		x.Saq, x.Table = x.Saq[:c.next(4)], x.Table[:c.next(4)]
		if c.next(4) == 0 {
			x.Mem = x.Mem[:c.next(17)]
		}
		if c.next(2) == 0 {
			x.Trap = api.Trap{}
		}
		if c.next(6) > 0 {
			c.spoil(&x)
		}
		amiss := told(k, made(), x)
		if got := Right(k, made(), x); got != (len(amiss) == 0) {
			t.Fatalf("Right(%+v, %v, %+v) = %v; amiss: %v", k, made(), x, got, amiss)
		}
		if len(amiss) == 0 {
			count["Right"]++
		}
		if len(amiss) == 1 {
			count[amiss[0]]++
		}
	}
	if count["Right"] < 5000 || len(count) < 20 {
		t.Errorf("so many of each: %v", count)
	}
}

// P1902: a state that is Right is so after a cycle of the memory, till nothing is under way.
func TestRightAfterCyclesOfTheMemory(t *testing.T) {
	for _, lat := range []int{1, 2, 6} {
		c, x := wide(), full()
		c.Lat = lat
		for cycle := range 40 {
			is(t, true, c, made(), x)
			x = banks.Advance(c, api.Script{Lats: []int{3, 1, 4}, Picks: []int{1}}, x)
			x.Cycle = 8 + cycle
		}
		if len(x.Table) != 0 || len(x.Saq) != 2 {
			t.Errorf("it is not over: %v %v", x.Table, x.Saq)
		}
	}
}

// same holds what Same answers, both ways round.
func same(t *testing.T, what string, want bool, a, b api.State) {
	t.Helper()
	if Same(a, b) != want || Same(b, a) != want {
		t.Errorf("Same, %s: not %v", what, want)
	}
}

// P1902: each number, word and bool of a state counts.
func TestSameFieldByField(t *testing.T) {
	same(t, "zero", true, api.State{}, api.State{})
	same(t, "full", true, full(), full())
	same(t, "full and zero", false, full(), api.State{})
	b := full()
	count := 0
	leaves(reflect.ValueOf(&b).Elem(), "State", func(name string, leaf reflect.Value) {
		was := reflect.New(leaf.Type()).Elem()
		was.Set(leaf)
		turn(leaf)
		same(t, name, false, full(), b)
		leaf.Set(was)
		same(t, name+" as it was", true, full(), b)
		count++
	})
	if count < 150 {
		t.Errorf("%d fields", count)
	}
}

// P1902: of each list the length counts and the order; nil and an empty one are the same.
func TestSameListByList(t *testing.T) {
	for i := range reflect.TypeFor[api.State]().NumField() {
		field := reflect.TypeFor[api.State]().Field(i)
		if field.Type.Kind() != reflect.Slice {
			continue
		}
		a, b := full(), full()
		one, two := reflect.ValueOf(&a).Elem().Field(i), reflect.ValueOf(&b).Elem().Field(i)
		n := two.Len()
		two.Set(two.Slice(0, n-1))
		same(t, field.Name+" shorter", false, a, b)
		two.Set(reflect.Append(one, reflect.Zero(field.Type.Elem())))
		same(t, field.Name+" longer", false, a, b)
		two.Set(reflect.AppendSlice(one.Slice(1, n), one.Slice(0, 1)))
		same(t, field.Name+" in another order", false, a, b)
		two.SetZero()
		same(t, field.Name+" and nothing", false, a, b)
		one.Set(reflect.MakeSlice(field.Type, 0, 4))
		same(t, field.Name+" empty and nothing", true, a, b)
		two.Set(reflect.MakeSlice(field.Type, 0, 0))
		same(t, field.Name+" empty", true, a, b)
		one.Set(reflect.MakeSlice(field.Type, 1, 1))
		same(t, field.Name+" of a zero one, and empty", false, a, b)
	}
}

// P1902: Same is asked of any states, those that are not Right, too.
func TestSameOfWhatIsNotRight(t *testing.T) {
	for _, n := range far {
		a, b := full(), full()
		a.Cycle, a.Trap.Kind, a.Saq[1].Addr, a.A.Pos.Block = n, n, n, n
		same(t, "far", false, a, b)
		b.Cycle, b.Trap.Kind, b.Saq[1].Addr, b.A.Pos.Block = n, n, n, n
		same(t, "far", true, a, b)
	}
}

// room gives each list of a value spare room with marks in it, and answers a call that tells whether they stand still.
func room(v reflect.Value) (stand func() bool) {
	stand = func() bool { return true }
	switch v.Kind() {
	case reflect.Struct:
		for i := range v.NumField() {
			stand = both(stand, room(v.Field(i)))
		}
	case reflect.Slice:
		n := v.Len()
		for i := range n {
			stand = both(stand, room(v.Index(i)))
		}
		long := reflect.MakeSlice(v.Type(), n+3, n+3)
		reflect.Copy(long, v)
		for i := n; i < n+3; i++ {
			leaves(long.Index(i), "", func(_ string, leaf reflect.Value) { turn(leaf) })
		}
		was := reflect.MakeSlice(v.Type(), n+3, n+3)
		reflect.Copy(was, long)
		v.Set(long.Slice(0, n))
		stand = both(stand, func() bool { return reflect.DeepEqual(long.Interface(), was.Interface()) })
	}
	return stand
}

// both tells whether two calls hold.
func both(a, b func() bool) func() bool { return func() bool { return a() && b() } }

// P1903: what is handed in stays as it is, its spare room too, and each call answers the same again.
func TestWhatIsHandedInStays(t *testing.T) {
	p := halts(8, []byte{1, 2, 3})
	in := struct {
		P    api.Program
		C    api.Config
		S    api.Split
		X, Y api.State
	}{p, wide(), made(), full(), full()}
	stand := room(reflect.ValueOf(&in).Elem())
	for range 3 {
		if !Config(in.C) || !Right(in.C, in.S, in.X) || !Same(in.X, in.Y) || !slices.Equal(First(in.P).Mem, []byte{1, 2, 3, 0, 0, 0, 0, 0}) {
			t.Error("another answer")
		}
		in.Y.Table[0].Op, in.X.Table[0].Op = api.Sw, api.Sw
		if Right(in.C, in.S, in.X) || !Same(in.X, in.Y) {
			t.Error("another answer of a wrong one")
		}
		in.Y.Table[0].Op, in.X.Table[0].Op = api.Lhu, api.Lhu
	}
	if !stand() {
		t.Error("the spare room was written to")
	}
	if !reflect.DeepEqual(in.P, p) || !reflect.DeepEqual(in.S, made()) || !reflect.DeepEqual(in.X, full()) || !reflect.DeepEqual(in.Y, full()) {
		t.Errorf("what was handed in is %v", in)
	}
}

// P1903: the memory that First answers is new each time.
func TestFirstsMemoryIsNew(t *testing.T) {
	data := append(make([]byte, 0, 64), 1, 2, 3, 4)
	p := halts(4, data)
	one, two := First(p), First(p)
	one.Mem[0] = 99
	_ = append(one.Mem, 98, 97)
	if data[0] != 1 || two.Mem[0] != 1 || data[:6][4] != 0 {
		t.Errorf("shared memory: %v %v", data, two.Mem)
	}
	data[1] = 50
	if one.Mem[1] != 2 || two.Mem[1] != 2 {
		t.Errorf("kept memory: %v %v", one.Mem, two.Mem)
	}
	if again := First(p); again.Mem[0] != 1 || again.Mem[1] != 50 {
		t.Errorf("First again: %v", again.Mem)
	}
}
