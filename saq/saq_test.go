package saq

import (
	"math"
	"slices"
	"testing"

	"forerunner/api"
	"forerunner/bytes"
)

// words are words at the ends and at the places where a sign or a byte begins.
var words = []uint32{0, 1, 0x7f, 0x80, 0xff, 0x100, 0x7fff, 0x8000, 0xffff, 0x10000, math.MaxInt32, 1 << 31, 0xfffffffe, math.MaxUint32}

// numbers are numbers that an address or a size may be; some have others' lowest bits.
var numbers = []int{math.MinInt, math.MinInt + 1, -1 << 32, -1<<32 + 1, -1 << 31, -4, -2, -1, 0, 1, 2, 3, 4, 5, 8, 1<<31 - 1, 1 << 31, 1<<32 - 1, 1 << 32, 1<<32 + 1, 1<<32 + 2, 1<<32 + 4, math.MaxInt - 1, math.MaxInt}

// sizes are how many bytes stores move.
var sizes = []int{1, 2, 4}

// chance makes numbers, the same ones each time.
type chance uint32

// next is the next number, from 0 to below most.
func (c *chance) next(most int) int {
	*c = *c*1664525 + 1013904223
	return int(*c>>9) % most
}

// word is one of a few, or any.
func (c *chance) word() uint32 {
	if c.next(2) == 0 {
		return words[c.next(len(words))]
	}
	return uint32(c.next(1<<16))<<16 | uint32(c.next(1<<16))
}

// entry is a store somewhere in the first few bytes.
func (c *chance) entry() api.Entry {
	return api.Entry{Addr: c.next(16), Size: sizes[c.next(3)], Step: c.next(1000), Known: c.next(2) == 0, Val: c.word()}
}

// queue is a few entries.
func (c *chance) queue(most int) []api.Entry {
	var l []api.Entry
	for range c.next(most + 1) {
		l = append(l, c.entry())
	}
	return l
}

// listOf is a queue of these, store an entry whose value is not there yet, and known one whose value is.
func listOf(l ...api.Entry) []api.Entry    { return l }
func store(addr, size, step int) api.Entry { return api.Entry{Addr: addr, Size: size, Step: step} }
func known(addr, size int, v uint32) api.Entry {
	return api.Entry{Addr: addr, Size: size, Step: 3, Known: true, Val: v}
}

// mark stands in the spare room behind what is handed in.
var mark = api.Entry{Addr: -77, Size: -7, Step: -777, Known: true, Val: 0xabababab}

// roomy is the list with marks behind its end, and the same with nothing behind it.
func roomy(l []api.Entry) (long, tight []api.Entry) {
	whole := slices.Clip(append(slices.Clone(l), mark, mark, mark))
	return whole[:len(l)], slices.Clip(slices.Clone(l))
}

// untouched holds that the list handed in and its spare room are as they were.
func untouched(t *testing.T, l, was []api.Entry) {
	t.Helper()
	if !slices.Equal(l, was) {
		t.Errorf("what was handed in is %v, was %v", l, was)
	}
	for _, spare := range l[len(l):cap(l)] {
		if spare != mark {
			t.Errorf("the spare room behind %v has %v", was, spare)
		}
	}
}

// pushes holds that Push answers this, of the list with spare room and without, in memory of its own.
func pushes(t *testing.T, l []api.Entry, n int, e api.Entry, want []api.Entry, there bool) {
	t.Helper()
	long, tight := roomy(l)
	for _, in := range [][]api.Entry{long, tight} {
		got, ok := Push(in, n, e)
		if !slices.Equal(got, want) || ok != there {
			t.Errorf("Push(%v, %d, %v) = %v, %v, want %v, %v", l, n, e, got, ok, want, there)
		}
		for i := range got {
			got[i] = api.Entry{Addr: -88}
		}
		_ = append(got, api.Entry{Addr: -99}, api.Entry{Addr: -99})
		untouched(t, in, l)
	}
}

// finds holds that Search answers the entry at that place of the list (below 0: none).
func finds(t *testing.T, l []api.Entry, addr, size, at int) {
	t.Helper()
	var want api.Entry
	if at >= 0 {
		want = l[at]
	}
	long, tight := roomy(l)
	for _, in := range [][]api.Entry{long, tight} {
		got, ok := Search(in, addr, size)
		if got != want || ok != (at >= 0) {
			t.Errorf("Search(%v, %d, %d) = %v, %v, want %v, %v", l, addr, size, got, ok, want, at >= 0)
		}
		untouched(t, in, l)
	}
}

// passes holds that Bypass answers this.
func passes(t *testing.T, e api.Entry, op, addr int, want uint32, there bool) {
	t.Helper()
	if got, ok := Bypass(e, op, addr); got != want || ok != there {
		t.Errorf("Bypass(%v, %d, %d) = %#x, %v, want %#x, %v", e, op, addr, got, ok, want, there)
	}
}

// P1701: an entry goes behind, with all its fields as they are.
func TestPush(t *testing.T) {
	e := api.Entry{Addr: 12, Size: 4, Step: 7, Known: true, Val: 9}
	pushes(t, nil, 1, e, listOf(e), true)
	pushes(t, []api.Entry{}, 1, e, listOf(e), true)
	l := listOf(store(0, 4, 1), known(8, 2, 5), store(2, 1, 3))
	pushes(t, l, 4, e, append(slices.Clone(l), e), true)
	pushes(t, l, 3, e, l, false)
	pushes(t, listOf(e), 2, e, listOf(e, e), true)
	for _, x := range numbers {
		for _, w := range words {
			for _, e := range listOf(api.Entry{}, api.Entry{Addr: x}, api.Entry{Size: x}, api.Entry{Step: x}, api.Entry{Known: true, Val: w}, api.Entry{Val: w}) {
				pushes(t, l, 4, e, append(slices.Clone(l), e), true)
			}
		}
	}
}

// P1701: n or more are there, just so, by one and by far.
func TestPushWhenThereAreSoMany(t *testing.T) {
	e := store(44, 4, 44)
	for there := range api.MaxQueue + 3 {
		var l []api.Entry
		for k := range there {
			l = append(l, api.Entry{Addr: 4 * k, Size: 4, Step: k, Known: k == 0, Val: uint32(k)})
		}
		for n := -2; n < api.MaxQueue+6; n++ {
			if n > there {
				pushes(t, l, n, e, append(slices.Clone(l), e), true)
			} else {
				pushes(t, l, n, e, l, false)
			}
		}
		for _, n := range []int{math.MinInt, math.MinInt + 1, -1 << 32, -1<<32 + 100, -1 << 31, -100} {
			pushes(t, l, n, e, l, false)
		}
		for _, n := range []int{1 << 31, 1 << 32, 1<<32 + 1, 1 << 62, math.MaxInt - 1, math.MaxInt} {
			pushes(t, l, n, e, append(slices.Clone(l), e), true)
		}
	}
}

// P1701: the chapter's example, of nil and of an empty list.
func TestSearchInNothing(t *testing.T) {
	for _, addr := range numbers {
		for _, size := range numbers {
			finds(t, nil, addr, size, -1)
			finds(t, []api.Entry{}, addr, size, -1)
		}
	}
}

// P1701: the bytes at both ends of an entry, and those just beside it.
func TestSearchAtTheEnds(t *testing.T) {
	l := listOf(store(8, 4, 1))
	for _, x := range []struct{ addr, size, at int }{
		{8, 4, 0}, {8, 1, 0}, {11, 1, 0}, {10, 2, 0}, {9, 2, 0}, {8, 2, 0},
		{7, 1, -1}, {6, 2, -1}, {4, 4, -1}, {12, 1, -1}, {12, 2, -1}, {12, 4, -1},
		{7, 2, 0}, {5, 4, 0}, {11, 2, 0}, {11, 4, 0}, {0, 100, 0}, {-100, 108, -1}, {-100, 109, 0},
	} {
		finds(t, l, x.addr, x.size, x.at)
	}
}

// P1701: of more than one the last, whether it is just that address, Known, or greater than another.
func TestSearchAnswersTheLast(t *testing.T) {
	l := listOf(known(8, 4, 1), store(8, 4, 2), store(12, 4, 3), store(10, 2, 4), known(8, 1, 5), store(0, 8, 6))
	finds(t, l, 8, 4, 4)
	finds(t, l, 9, 1, 1)
	finds(t, l, 10, 1, 3)
	finds(t, l, 10, 2, 3)
	finds(t, l, 11, 2, 3)
	finds(t, l, 12, 4, 2)
	finds(t, l, 7, 1, 5)
	finds(t, l, 7, 9, 5)
	finds(t, l, 8, 8, 4)
	finds(t, l, 16, 4, -1)
	finds(t, l[:1], 8, 4, 0)
	finds(t, l[:2], 8, 4, 1)
	finds(t, l[:0], 8, 4, -1)
}

// P1701: neither Known nor the Step nor the Val are looked at, and all are answered.
func TestSearchAnswersTheWholeEntry(t *testing.T) {
	for _, step := range numbers {
		for _, e := range listOf(api.Entry{Addr: 4, Size: 2, Step: step, Known: true, Val: 6}, api.Entry{Addr: 4, Size: 2, Step: step, Val: 6}, api.Entry{Addr: 4, Size: 2, Step: step}) {
			finds(t, listOf(e), 4, 2, 0)
			finds(t, listOf(e, store(20, 4, 1)), 5, 1, 0)
			finds(t, listOf(store(4, 2, 1), e), 5, 1, 1)
		}
	}
}

// P1701: a size below 1 has no byte, be it the entry's or the one that is looked for.
func TestSearchOfNoBytes(t *testing.T) {
	for _, none := range []int{0, -1, -4, -1 << 32, math.MinInt} {
		finds(t, listOf(store(8, 4, 1)), 8, none, -1)
		finds(t, listOf(store(8, none, 1)), 8, 4, -1)
		finds(t, listOf(store(8, none, 1)), 8, none, -1)
		finds(t, listOf(store(8, 4, 1), store(8, none, 2)), 8, 4, 0)
	}
}

// P1701: numbers that wrap round, were they added, overlap nothing that they have no byte of.
func TestSearchAtFarNumbers(t *testing.T) {
	finds(t, listOf(store(math.MaxInt, 4, 1)), math.MinInt, 4, -1)
	finds(t, listOf(store(math.MinInt, 4, 1)), math.MaxInt, 4, -1)
	finds(t, listOf(store(math.MaxInt, 4, 1)), math.MaxInt, 1, 0)
	finds(t, listOf(store(math.MinInt, 4, 1)), math.MinInt+3, 1, 0)
	finds(t, listOf(store(math.MinInt, 4, 1)), math.MinInt+4, 1, -1)
	finds(t, listOf(store(math.MinInt, math.MaxInt, 1)), -2, 1, 0)
	finds(t, listOf(store(math.MinInt, math.MaxInt, 1)), -1, 1, -1)
	finds(t, listOf(store(0, math.MaxInt, 1)), math.MaxInt-1, 1, 0)
	finds(t, listOf(store(0, math.MaxInt, 1)), math.MaxInt, 1, -1)
	finds(t, listOf(store(8, 4, 1)), 8+1<<32, 4, -1)
	finds(t, listOf(store(8, 4, 1)), 8-1<<32, 4, -1)
	finds(t, listOf(store(8, 1<<32, 1)), 8+1<<32-1, 4, 0)
	finds(t, listOf(store(8, 1<<32, 1)), 8+1<<32, 4, -1)
}

// lastWithAByte is the place of the last entry that has one of the bytes, found byte by byte; -1: none.
func lastWithAByte(l []api.Entry, addr, size int) int {
	found := -1
	for at := addr; at < addr+size; at++ {
		for i, e := range l {
			for k := range max(e.Size, 0) {
				if e.Addr+k == at {
					found = max(found, i)
				}
			}
		}
	}
	return found
}

// P1701: all queues of up to three entries of a few kinds, in all places where a load may look.
func TestSearchInAllShortQueues(t *testing.T) {
	var kinds []api.Entry
	for addr := range 4 {
		for size := range 4 {
			kinds = append(kinds, store(addr, size, len(kinds)))
		}
	}
	queues := 0
	try := func(l []api.Entry) {
		queues++
		for addr := -1; addr < 7; addr++ {
			for size := -1; size < 4; size++ {
				at := lastWithAByte(l, addr, size)
				got, ok := Search(l, addr, size)
				if ok != (at >= 0) || ok && got != l[at] || !ok && got != (api.Entry{}) {
					t.Fatalf("Search(%v, %d, %d) = %v, %v, want that at %d", l, addr, size, got, ok, at)
				}
			}
		}
	}
	try(nil)
	for _, one := range kinds {
		try(listOf(one))
		for _, two := range kinds {
			try(listOf(one, two))
			for _, three := range kinds {
				try(listOf(one, two, three))
			}
		}
	}
	if want := 1 + 16 + 256 + 4096; queues != want {
		t.Errorf("%d queues were tried, want %d", queues, want)
	}
}

// P1701: each load has its entry's Val, Lh and Lb with the sign.
func TestBypass(t *testing.T) {
	for _, x := range []struct {
		op, size  int
		val, want uint32
	}{
		{api.Lw, 4, 0, 0}, {api.Lw, 4, 5, 5}, {api.Lw, 4, 0x80, 0x80}, {api.Lw, 4, 0x8000, 0x8000}, {api.Lw, 4, 0x80000000, 0x80000000}, {api.Lw, 4, 0xfffffffe, 0xfffffffe},
		{api.Lh, 2, 0, 0}, {api.Lh, 2, 5, 5}, {api.Lh, 2, 0x80, 0x80}, {api.Lh, 2, 0x7fff, 0x7fff}, {api.Lh, 2, 0x8000, 0xffff8000}, {api.Lh, 2, 0x8001, 0xffff8001}, {api.Lh, 2, 0xffff, 0xffffffff},
		{api.Lhu, 2, 0, 0}, {api.Lhu, 2, 5, 5}, {api.Lhu, 2, 0x80, 0x80}, {api.Lhu, 2, 0x7fff, 0x7fff}, {api.Lhu, 2, 0x8000, 0x8000}, {api.Lhu, 2, 0xffff, 0xffff},
		{api.Lb, 1, 0, 0}, {api.Lb, 1, 5, 5}, {api.Lb, 1, 0x7f, 0x7f}, {api.Lb, 1, 0x80, 0xffffff80}, {api.Lb, 1, 0x81, 0xffffff81}, {api.Lb, 1, 0xff, 0xffffffff},
		{api.Lbu, 1, 0, 0}, {api.Lbu, 1, 5, 5}, {api.Lbu, 1, 0x7f, 0x7f}, {api.Lbu, 1, 0x80, 0x80}, {api.Lbu, 1, 0xff, 0xff},
	} {
		passes(t, known(8, x.size, x.val), x.op, 8, x.want, true)
	}
}

// P1701: a Val that has more than its Size bytes is its Val still; only the sign of Lh and Lb is spread over it.
func TestBypassOfALongVal(t *testing.T) {
	for _, w := range []uint32{0xaabb7fff, 0xaabb8000, 0xaabb007f, 0xaabb0080, 0x0000ff80, 0xffff0001} {
		passes(t, known(8, 4, w), api.Lw, 8, w, true)
		passes(t, known(8, 2, w), api.Lhu, 8, w, true)
		passes(t, known(8, 1, w), api.Lbu, 8, w, true)
		passes(t, known(8, 2, w), api.Lh, 8, uint32(int32(w)<<16>>16), true)
		passes(t, known(8, 1, w), api.Lb, 8, uint32(int32(w)<<24>>24), true)
	}
}

// P1701: not so: it is not Known, of another Addr (one whose bytes it has, too), of another Size, or there is no load.
func TestBypassOfWhatIsNotSo(t *testing.T) {
	for op := range api.Halt + 3 {
		for _, size := range sizes {
			passes(t, api.Entry{Addr: 8, Size: size, Step: 1, Val: 5}, op, 8, 0, false)
			for _, addr := range []int{0, 4, 7, 9, 10, 11, 12, -8, 8 + 1<<32, 8 - 1<<32, math.MinInt, math.MaxInt} {
				passes(t, known(8, size, 5), op, addr, 0, false)
				passes(t, known(addr, size, 5), op, 8, 0, false)
			}
		}
	}
	for _, x := range []struct{ op, size int }{{api.Lw, 4}, {api.Lh, 2}, {api.Lhu, 2}, {api.Lb, 1}, {api.Lbu, 1}} {
		for _, size := range numbers {
			want := uint32(0)
			if size == x.size {
				want = 5
			}
			passes(t, known(8, size, 5), x.op, 8, want, size == x.size)
		}
	}
}

// P1701: what is no load has nothing, be the Size that of a store or 0, as bytes.Size of it is.
func TestBypassOfNoLoad(t *testing.T) {
	ops := []int{math.MinInt, -1 << 32, -26, -1, 0, 42, 100, 1<<32 + api.Lw, 1<<32 + api.Lb, 256 + api.Lw, math.MaxInt}
	for op := range api.Halt + 1 {
		if op < api.Lw || op > api.Lbu {
			ops = append(ops, op)
		}
	}
	for _, op := range ops {
		for _, size := range numbers {
			for _, w := range words {
				passes(t, known(8, size, w), op, 8, 0, false)
				passes(t, api.Entry{Size: size, Known: true, Val: w}, op, 0, 0, false)
			}
		}
	}
}

// P1701: an address may be any number, and the Step is no matter.
func TestBypassAtEachAddress(t *testing.T) {
	for _, addr := range numbers {
		for _, other := range numbers {
			if addr == other {
				passes(t, known(addr, 4, 77), api.Lw, other, 77, true)
			} else {
				passes(t, known(addr, 4, 77), api.Lw, other, 0, false)
			}
		}
		passes(t, api.Entry{Addr: 4, Size: 1, Step: addr, Known: true, Val: 0x90}, api.Lb, 4, 0xffffff90, true)
	}
}

// P1701: what goes by a store is what the memory would have once the store is in it.
func TestBypassIsWhatMemoryHas(t *testing.T) {
	c := chance(1701)
	passed := 0
	for range 20000 {
		size, op, addr := sizes[c.next(3)], api.Lw+c.next(8), 4*c.next(5)
		w := c.word()
		m := bytes.Store(make([]byte, 24), api.Write{Addr: 8, Size: size, Val: w})
		got, ok := Bypass(api.Entry{Addr: 8, Size: size, Known: true, Val: Mask(w, size)}, op, addr)
		must := addr == 8 && op <= api.Lbu && bytes.Size(op) == size
		if ok != must || !ok && got != 0 || ok && got != bytes.Load(m, op, 8) {
			t.Fatalf("Bypass of %#x, %d bytes, by %d at %d = %#x, %v, in memory %v", w, size, op, addr, got, ok, m)
		}
		if ok {
			passed++
		}
	}
	if passed < 300 {
		t.Errorf("only %d loads went by a store", passed)
	}
}

// P1701: the lowest 1, 2 or 4 bytes; of another size 0.
func TestMask(t *testing.T) {
	for size, want := range map[int]uint32{1: 0xdd, 2: 0xccdd, 4: 0xaabbccdd, 0: 0, 3: 0, 5: 0, 8: 0, -1: 0} {
		if got := Mask(0xaabbccdd, size); got != want {
			t.Errorf("Mask of %d bytes = %#x, want %#x", size, got, want)
		}
	}
	for _, w := range words {
		for _, size := range append(numbers, -3, 6, 7, 16, 32, 64, 1<<8+1, 1<<16+2) {
			want := uint32(0)
			if slices.Contains(sizes, size) {
				want = uint32(uint64(w) % (1 << (8 * size)))
			}
			if got := Mask(w, size); got != want {
				t.Errorf("Mask(%#x, %d) = %#x, want %#x", w, size, got, want)
			}
		}
	}
}

// P1701: what is masked is what a store of so many bytes leaves.
func TestMaskIsWhatAStoreLeaves(t *testing.T) {
	c := chance(1711)
	for range 5000 {
		w, size := c.word(), sizes[c.next(3)]
		m := bytes.Store(make([]byte, 4), api.Write{Size: size, Val: w})
		if got, want := Mask(w, size), bytes.Load(m, api.Lw, 0); got != want {
			t.Fatalf("Mask(%#x, %d) = %#x, a store leaves %#x", w, size, got, want)
		}
	}
}

// P1701: many pushes and searches, with what must be in the queue kept beside it.
func TestManyCalls(t *testing.T) {
	c := chance(1702)
	for most := -1; most <= api.MaxQueue+1; most++ {
		var l, want []api.Entry
		for range 300 {
			switch c.next(5) {
			case 0, 1, 2:
				e := c.entry()
				var ok bool
				l, ok = Push(l, most, e)
				if ok != (len(want) < most) {
					t.Fatalf("Push to %d of %d: %v", len(want), most, ok)
				}
				if ok {
					want = append(want, e)
				}
			case 3:
				addr, size := c.next(20)-2, c.next(6)-1
				finds(t, l, addr, size, lastWithAByte(want, addr, size))
			case 4:
				if len(l) > 0 {
					l, want = l[1:], want[1:]
				}
			}
			if !slices.Equal(l, want) {
				t.Fatalf("of %d: %v, want %v", most, l, want)
			}
		}
	}
}

// P1701: a queue that is far longer than any core has.
func TestALongQueue(t *testing.T) {
	const n = 100000
	l := make([]api.Entry, n)
	for i := range l {
		l[i] = store(4*i, 4, i)
	}
	e := store(2, 1, 5)
	if got, ok := Push(l, n, e); ok || !slices.Equal(got, l) {
		t.Errorf("Push to a long one that has no room = %v", ok)
	}
	if got, ok := Push(l, n+1, e); !ok || !slices.Equal(got, append(slices.Clone(l), e)) {
		t.Errorf("Push to a long one that has room = %v", ok)
	}
	for _, at := range []int{0, 1, n / 2, n - 1} {
		if got, ok := Search(l, 4*at+3, 1); !ok || got != l[at] {
			t.Errorf("Search in a long one = %v, %v, want %v", got, ok, l[at])
		}
	}
	if got, ok := Search(l, 4*n, 4); ok || got != (api.Entry{}) {
		t.Errorf("Search behind a long one = %v, %v", got, ok)
	}
}

// P1702: two answers of the same have no memory in common.
func TestTwoAnswersAreApart(t *testing.T) {
	l := listOf(store(0, 4, 1), known(4, 2, 3))
	for _, n := range []int{2, 9} {
		one, ok := Push(l, n, store(8, 4, 3))
		two, _ := Push(l, n, store(8, 4, 3))
		want := slices.Clone(two)
		clear(one)
		_ = append(one, mark, mark, mark)
		if !slices.Equal(two, want) {
			t.Errorf("Push, %v: an answer written to changes another: %v, want %v", ok, two, want)
		}
		if again, _ := Push(l, n, store(8, 4, 3)); !slices.Equal(again, want) {
			t.Errorf("Push, %v: an answer written to changes a later one: %v, want %v", ok, again, want)
		}
	}
}

// P1702: two pushes to one answer don't come into each other's way.
func TestTwoPushesToOneAnswer(t *testing.T) {
	var l []api.Entry
	for k := range 40 {
		one, _ := Push(l, 64, store(4*k, 4, 1))
		two, _ := Push(l, 64, store(4*k, 2, 2))
		if one[k] != store(4*k, 4, 1) || two[k] != store(4*k, 2, 2) {
			t.Fatalf("one push changes another: %v, %v", one[k], two[k])
		}
		l = one
	}
}

// P1702: what was handed in is not kept: written to behind the call, it changes no answer.
func TestNothingIsKept(t *testing.T) {
	c := chance(1703)
	for range 300 {
		l := c.queue(5)
		got, _ := Push(l, len(l)+c.next(2), c.entry())
		was := slices.Clone(got)
		for i := range l {
			l[i] = mark
		}
		if !slices.Equal(got, was) {
			t.Fatalf("what was handed in is in an answer: %v, want %v", got, was)
		}
	}
}

// P1702: the same arguments have the same answers, whatever was asked between.
func TestAnswersHangOnArgumentsAlone(t *testing.T) {
	var told [2][]api.Entry
	for turn := range told {
		c := chance(78)
		for range 500 {
			l := c.queue(5)
			pushed, ok := Push(l, c.next(7), c.entry())
			found, there := Search(l, c.next(20), sizes[c.next(3)])
			w, is := Bypass(c.entry(), api.Lw+c.next(5), c.next(16))
			low := Mask(c.word(), c.next(5))
			told[turn] = append(append(told[turn], pushed...), found, api.Entry{Known: ok}, api.Entry{Known: there}, api.Entry{Known: is, Val: w}, api.Entry{Val: low})
			if turn == 1 {
				Push(pushed, 99, found)
				Search(pushed, 0, 99)
				Bypass(found, api.Lw, found.Addr)
				Mask(w, 1)
			}
		}
	}
	if !slices.Equal(told[0], told[1]) {
		t.Error("the same arguments have other answers")
	}
}
