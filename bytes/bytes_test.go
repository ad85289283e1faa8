package bytes

import (
	"math"
	"math/big"
	"slices"
	"testing"

	"forerunner/api"
)

const (
	lastWord = 0xfffffffc // the last address that is a multiple of 4
	lastHalf = 0xfffffffe
	lastByte = 0xffffffff
)

var (
	loads  = []int{api.Lw, api.Lh, api.Lhu, api.Lb, api.Lbu}
	stores = []int{api.Sw, api.Sh, api.Sb}
)

// notMemory are numbers that are no load and no store; some have one's lowest bits.
var notMemory = []int{
	math.MinInt, math.MinInt + api.Lw, -1 << 32, -1<<32 + api.Lw, -64 + api.Sb, -api.Lw, -api.Sb, -1, 0,
	api.Add, api.Lui, api.Beq, api.J, api.Halt, 42, 63, 64, 64 + api.Lw, 256 + api.Lh, 1<<32 + api.Lb, 1<<32 + api.Sw, math.MaxInt,
}

// wrongSizes are numbers of bytes that no store has; some have one's lowest bits.
var wrongSizes = []int{
	math.MinInt, math.MinInt + 1, math.MinInt + 4, -1 << 32, -1<<32 + 1, -8, -4, -2, -1,
	0, 3, 5, 6, 7, 8, 9, 16, 32, 257, 258, 260, 1<<32 + 1, 1<<32 + 2, 1<<32 + 4, math.MaxInt,
}

// wrongAddrs are numbers that are no address; some have the lowest bits of one that is in a small memory.
var wrongAddrs = []int{
	math.MinInt, math.MinInt + 1, math.MinInt + 4, -1 << 33, -1 << 32, -1<<32 + 1, -1<<32 + 4, -1 << 31, -16, -8, -4, -3, -2, -1,
	1 << 32, 1<<32 + 1, 1<<32 + 2, 1<<32 + 4, 1 << 33, 1<<33 + 8, 3 << 32, 1 << 40, 1 << 62, math.MaxInt - 3, math.MaxInt - 1, math.MaxInt,
}

// chance makes numbers, the same ones each time.
type chance uint32

// next is the next number, from 0 to below most.
func (c *chance) next(most int) int {
	*c = *c*1664525 + 1013904223
	return int(*c>>9) % most
}

// word is the next word.
func (c *chance) word() uint32 { return uint32(c.next(1<<16))<<16 | uint32(c.next(1<<16)) }

// bytes are the next so many.
func (c *chance) bytes(n int) []byte {
	out := make([]byte, n)
	for i := range out {
		out[i] = byte(c.next(256))
	}
	return out
}

// P501: each load's and store's number of bytes; of all other operations, 0.
func TestSize(t *testing.T) {
	for _, c := range []struct{ op, want int }{
		{api.Lw, 4}, {api.Lh, 2}, {api.Lhu, 2}, {api.Lb, 1}, {api.Lbu, 1}, {api.Sw, 4}, {api.Sh, 2}, {api.Sb, 1},
	} {
		if got := Size(c.op); got != c.want {
			t.Errorf("Size(%d) = %d, want %d", c.op, got, c.want)
		}
	}
	for op := -100; op < 1000; op++ {
		if got := Size(op); got != 0 && !slices.Contains(loads, op) && !slices.Contains(stores, op) {
			t.Errorf("Size(%d) = %d, want 0", op, got)
		}
	}
	for _, op := range notMemory {
		if got := Size(op); got != 0 {
			t.Errorf("Size(%d) = %d, want 0", op, got)
		}
	}
}

// checks holds that Check answers this.
func checks(t *testing.T, size int, addr uint32, n, want int) {
	t.Helper()
	if got := Check(size, addr, n); got != want {
		t.Errorf("Check(%d, %#x, %d) = %d, want %d", size, addr, n, got, want)
	}
}

// P501: each address of small memories, by each number of bytes that a load or store has.
func TestCheckInSmallMemories(t *testing.T) {
	for n := range 20 {
		for _, size := range []int{1, 2, 4} {
			for addr := range 30 {
				want := 0
				if addr > n-size {
					want = api.TRange
				}
				if addr&(size-1) != 0 {
					want = api.TMis
				}
				checks(t, size, uint32(addr), n, want)
			}
		}
	}
}

// P501: the last address that may be and the first that may not, in the greatest memory of a program and beyond it.
func TestCheckAtTheEndOfMemory(t *testing.T) {
	for _, n := range []int{api.MaxMem, 1 << 20, 1 << 31, 1<<32 - 8} {
		for _, size := range []int{1, 2, 4} {
			checks(t, size, uint32(n-size), n, 0)
			checks(t, size, uint32(n), n, api.TRange)
			checks(t, size, uint32(n-size), n-1, api.TRange)
			checks(t, size, uint32(n-size), n+1, 0)
		}
	}
}

// P501: addresses near 2^32 - 1 don't wrap round to the memory's beginning.
func TestCheckNearTheLastAddress(t *testing.T) {
	for _, n := range []int{0, 1, 3, 4, 100, api.MaxMem, 1 << 31, lastWord} {
		checks(t, 4, lastWord, n, api.TRange)
		checks(t, 2, lastHalf, n, api.TRange)
		checks(t, 1, lastByte, n, api.TRange)
	}
	for _, size := range []int{1, 2, 4} {
		checks(t, size, uint32(1<<32-size), 1<<32, 0)
		checks(t, size, uint32(1<<32-size), 1<<32+1, 0)
		checks(t, size, uint32(1<<32-size), math.MaxInt, 0)
		checks(t, size, uint32(1<<32-size), 1<<32-1, api.TRange)
	}
	checks(t, 4, lastByte, 1<<32, api.TMis)
	checks(t, 4, lastHalf, 1<<32, api.TMis)
	checks(t, 2, lastByte, 1<<32, api.TMis)
	checks(t, 1<<31, 1<<31, 1<<32, 0)
	checks(t, 1<<31, 1<<31, 1<<32-1, api.TRange)
}

// P501: an address that is wrong in both ways is told as no multiple.
func TestCheckTellsTheMultipleFirst(t *testing.T) {
	for _, addr := range []uint32{9, 10, 11, 0x7fffffff, 0x80000001, 0xfffffffd, lastHalf, lastByte} {
		for _, n := range []int{math.MinInt, -1, 0, 1, 8} {
			checks(t, 4, addr, n, api.TMis)
		}
	}
}

// P501: a size below 1 has no multiples to ask for; it is added all the same.
func TestCheckOfSizesBelowOne(t *testing.T) {
	for _, addr := range []uint32{0, 1, 2, 3, 4, 5, 0x80000000, lastWord, lastByte} {
		at := int(addr)
		checks(t, 0, addr, at, 0)
		checks(t, 0, addr, at-1, api.TRange)
		checks(t, -1, addr, at-1, 0)
		checks(t, -1, addr, at-2, api.TRange)
		checks(t, -4, addr, at-4, 0)
		checks(t, -4, addr, at-5, api.TRange)
		checks(t, math.MinInt, addr, math.MinInt+at, 0)
		checks(t, math.MinInt, addr, math.MaxInt, 0)
		if at > 0 {
			checks(t, math.MinInt, addr, math.MinInt+at-1, api.TRange)
			checks(t, math.MinInt, addr, math.MinInt, api.TRange)
		}
	}
}

// P501: sizes and numbers of bytes so great or so low that a sum or a difference could wrap round.
func TestCheckOfGreatNumbers(t *testing.T) {
	great := []int{math.MinInt, math.MinInt + 1, -1 << 32, -5, -4, -1, 0, 1, 2, 3, 4, 5, 7, 1 << 31, 1<<32 - 1, 1 << 32, 1<<32 + 1, 1 << 62, math.MaxInt - 1, math.MaxInt}
	addrs := []uint32{0, 1, 2, 3, 4, 5, 6, 7, 8, 12, 0x7fffffff, 0x80000000, 0x80000001, lastWord, lastHalf, lastByte}
	for _, size := range great {
		for _, n := range great {
			for _, addr := range addrs {
				checks(t, size, addr, n, worked(size, addr, n))
			}
		}
	}
}

// worked is what Check has to answer, worked out in numbers of any length.
func worked(size int, addr uint32, n int) int {
	long, at := big.NewInt(int64(size)), big.NewInt(int64(addr))
	if size >= 1 && new(big.Int).Rem(at, long).Sign() != 0 {
		return api.TMis
	}
	if new(big.Int).Add(at, long).Cmp(big.NewInt(int64(n))) > 0 {
		return api.TRange
	}
	return 0
}

// P501: sizes that no load has are multiples like others.
func TestCheckOfOtherSizes(t *testing.T) {
	for size := 1; size < 12; size++ {
		for addr := range uint32(60) {
			for n := range 50 {
				checks(t, size, addr, n, worked(size, addr, n))
			}
		}
	}
}

// reads holds that Load answers this.
func reads(t *testing.T, m []byte, op int, addr, want uint32) {
	t.Helper()
	if got := Load(m, op, addr); got != want {
		t.Errorf("Load(%v, %d, %#x) = %#x, want %#x", m, op, addr, got, want)
	}
}

// P501: words, halves and bytes, the lowest first, with the sign and without.
func TestLoad(t *testing.T) {
	m := []byte{0x80, 0x7f, 0xfe, 0xff, 0x11, 0x22, 0x33, 0x44, 0x00, 0x80, 0xff, 0x7f}
	for _, c := range []struct {
		op         int
		addr, want uint32
	}{
		{api.Lw, 0, 0xfffe7f80}, {api.Lw, 4, 0x44332211}, {api.Lw, 8, 0x7fff8000},
		{api.Lh, 0, 0x7f80}, {api.Lh, 2, 0xfffffffe}, {api.Lh, 4, 0x2211}, {api.Lh, 6, 0x4433}, {api.Lh, 8, 0xffff8000}, {api.Lh, 10, 0x7fff},
		{api.Lhu, 0, 0x7f80}, {api.Lhu, 2, 0xfffe}, {api.Lhu, 4, 0x2211}, {api.Lhu, 6, 0x4433}, {api.Lhu, 8, 0x8000}, {api.Lhu, 10, 0x7fff},
		{api.Lb, 0, 0xffffff80}, {api.Lb, 1, 0x7f}, {api.Lb, 2, 0xfffffffe}, {api.Lb, 3, 0xffffffff}, {api.Lb, 4, 0x11}, {api.Lb, 8, 0}, {api.Lb, 11, 0x7f},
		{api.Lbu, 0, 0x80}, {api.Lbu, 1, 0x7f}, {api.Lbu, 2, 0xfe}, {api.Lbu, 3, 0xff}, {api.Lbu, 4, 0x11}, {api.Lbu, 8, 0}, {api.Lbu, 11, 0x7f},
	} {
		reads(t, m, c.op, c.addr, c.want)
	}
}

// P501: every byte and every half, as a number with its sign and as one without.
func TestLoadHasTheSign(t *testing.T) {
	for n := range 1 << 16 {
		half := []byte{byte(n), byte(n >> 8)}
		reads(t, half, api.Lhu, 0, uint32(n))
		signed := n
		if n >= 1<<15 {
			signed = n - 1<<16
		}
		reads(t, half, api.Lh, 0, uint32(signed))
	}
	for n := range 256 {
		reads(t, []byte{0x55, byte(n), 0xaa}, api.Lbu, 1, uint32(n))
		signed := n
		if n >= 128 {
			signed = n - 256
		}
		reads(t, []byte{0x55, byte(n), 0xaa}, api.Lb, 1, uint32(signed))
	}
}

// P501: what is not a load has nothing, stores neither.
func TestLoadOfOtherOperations(t *testing.T) {
	m := slices.Repeat([]byte{0xff}, 64)
	for op := -100; op < 1000; op++ {
		if slices.Contains(loads, op) {
			continue
		}
		for _, addr := range []uint32{0, 1, 2, 4, 8} {
			reads(t, m, op, addr, 0)
		}
	}
	for _, op := range notMemory {
		reads(t, m, op, 0, 0)
		reads(t, nil, op, 0, 0)
	}
}

// P501: memories of each small length, also of none, at each address up to and beyond their end.
func TestLoadAtTheEnds(t *testing.T) {
	whole := slices.Repeat([]byte{0xff}, 32)
	want := func(op, addr, n int) uint32 {
		if Check(Size(op), uint32(addr), n) != 0 {
			return 0
		}
		switch op {
		case api.Lhu:
			return 0xffff
		case api.Lbu:
			return 0xff
		}
		return 0xffffffff
	}
	for _, op := range loads {
		for n := range 20 {
			for addr := range 24 {
				// Longer memory behind the end is no part of it.
				reads(t, whole[:n], op, uint32(addr), want(op, addr, n))
				reads(t, whole[:n:n], op, uint32(addr), want(op, addr, n))
			}
		}
		for _, addr := range []uint32{0, 1, 4, 0x7fffffff, 0x80000000, 0x80000004, lastWord, lastHalf, lastByte} {
			reads(t, nil, op, addr, 0)
			reads(t, []byte{}, op, addr, 0)
			if addr > 4 {
				reads(t, whole, op, addr, 0)
			}
		}
	}
}

// P501: the greatest memory of a program, at its last places.
func TestLoadInTheGreatestMemory(t *testing.T) {
	m := make([]byte, api.MaxMem)
	copy(m[api.MaxMem-4:], []byte{1, 2, 3, 0x84})
	reads(t, m, api.Lw, api.MaxMem-4, 0x84030201)
	reads(t, m, api.Lh, api.MaxMem-2, 0xffff8403)
	reads(t, m, api.Lhu, api.MaxMem-2, 0x8403)
	reads(t, m, api.Lb, api.MaxMem-1, 0xffffff84)
	reads(t, m, api.Lbu, api.MaxMem-1, 0x84)
	for _, op := range loads {
		reads(t, m, op, api.MaxMem, 0)
	}
}

// becomes holds that Store answers this, and that the memory handed in stays.
func becomes(t *testing.T, m []byte, w api.Write, want []byte) {
	t.Helper()
	was := slices.Clone(m)
	if got := Store(m, w); !slices.Equal(got, want) {
		t.Errorf("Store(%v, %+v) = %v, want %v", was, w, got, want)
	}
	if !slices.Equal(m, was) {
		t.Errorf("Store of %+v changes what is handed in: %v, was %v", w, m, was)
	}
}

// P501: words, halves and bytes, the lowest of Val first, at each place of a small memory.
func TestStore(t *testing.T) {
	m := []byte{10, 11, 12, 13, 14, 15, 16, 17, 18}
	for _, c := range []struct {
		w    api.Write
		want []byte
	}{
		{api.Write{Addr: 0, Size: 4, Val: 0x04030201}, []byte{1, 2, 3, 4, 14, 15, 16, 17, 18}},
		{api.Write{Addr: 4, Size: 4, Val: 0xfffefdfc}, []byte{10, 11, 12, 13, 0xfc, 0xfd, 0xfe, 0xff, 18}},
		{api.Write{Addr: 0, Size: 2, Val: 0x04030201}, []byte{1, 2, 12, 13, 14, 15, 16, 17, 18}},
		{api.Write{Addr: 2, Size: 2, Val: 0xffff0000}, []byte{10, 11, 0, 0, 14, 15, 16, 17, 18}},
		{api.Write{Addr: 6, Size: 2, Val: 0x8000}, []byte{10, 11, 12, 13, 14, 15, 0, 0x80, 18}},
		{api.Write{Addr: 0, Size: 1, Val: 0x04030201}, []byte{1, 11, 12, 13, 14, 15, 16, 17, 18}},
		{api.Write{Addr: 3, Size: 1, Val: 0xffffff00}, []byte{10, 11, 12, 0, 14, 15, 16, 17, 18}},
		{api.Write{Addr: 8, Size: 1, Val: 0xff}, []byte{10, 11, 12, 13, 14, 15, 16, 17, 0xff}},
		{api.Write{Addr: 4, Size: 4}, []byte{10, 11, 12, 13, 0, 0, 0, 0, 18}},
	} {
		becomes(t, m, c.w, c.want)
	}
	becomes(t, []byte{7}, api.Write{Size: 1, Val: 0x109}, []byte{9})
	becomes(t, []byte{7, 8}, api.Write{Size: 2, Val: 0xa0b0c0d}, []byte{0xd, 0xc})
	becomes(t, []byte{7, 8, 9, 10}, api.Write{Size: 4, Val: 0xa0b0c0d}, []byte{0xd, 0xc, 0xb, 0xa})
}

// P501: a size that no store has leaves the memory as it is.
func TestStoreOfOtherSizes(t *testing.T) {
	m := []byte{1, 2, 3, 4, 5, 6, 7, 8, 9, 10, 11, 12, 13, 14, 15, 16, 17}
	for _, size := range wrongSizes {
		for _, addr := range []int{0, 1, 2, 3, 4, 6, 8, 16} {
			becomes(t, m, api.Write{Addr: addr, Size: size, Val: 0xfefefefe}, m)
		}
	}
}

// P501: an address below 0 or above 2^32 - 1 leaves the memory as it is, whatever its lowest bits are.
func TestStoreAtNoAddress(t *testing.T) {
	m := []byte{1, 2, 3, 4, 5, 6, 7, 8, 9, 10, 11, 12}
	for _, addr := range wrongAddrs {
		for _, size := range []int{1, 2, 4} {
			becomes(t, m, api.Write{Addr: addr, Size: size, Val: 0xfefefefe}, m)
			becomes(t, nil, api.Write{Addr: addr, Size: size, Val: 0xfefefefe}, nil)
		}
	}
}

// P501: an address that is no multiple, or not in the memory, leaves it as it is.
func TestStoreAtWrongAddresses(t *testing.T) {
	whole := []byte{1, 2, 3, 4, 5, 6, 7, 8, 9, 10, 11, 12, 13, 14, 15, 16, 17, 18, 19, 20}
	val := []byte{0xf1, 0xf2, 0xf3, 0xf4}
	for n := range 16 {
		for addr := range 20 {
			for _, size := range []int{1, 2, 4} {
				want := slices.Clone(whole[:n])
				if addr%size == 0 && addr+size <= n {
					copy(want[addr:], val[:size])
				}
				becomes(t, whole[:n], api.Write{Addr: addr, Size: size, Val: 0xf4f3f2f1}, want)
				becomes(t, whole[:n:n], api.Write{Addr: addr, Size: size, Val: 0xf4f3f2f1}, want)
			}
		}
		for _, addr := range []int{0x7ffffffc, 0x80000000, 0x80000004, lastWord, lastHalf, lastByte} {
			for _, size := range []int{1, 2, 4} {
				becomes(t, whole[:n], api.Write{Addr: addr, Size: size, Val: 0xf4f3f2f1}, whole[:n])
			}
		}
	}
}

// P501: the greatest memory of a program, at its last places.
func TestStoreInTheGreatestMemory(t *testing.T) {
	m := make([]byte, api.MaxMem)
	for _, size := range []int{1, 2, 4} {
		want := slices.Clone(m)
		copy(want[api.MaxMem-size:], []byte{1, 2, 3, 4}[:size])
		becomes(t, m, api.Write{Addr: api.MaxMem - size, Size: size, Val: 0x04030201}, want)
		becomes(t, m, api.Write{Addr: api.MaxMem, Size: size, Val: 0x04030201}, m)
	}
}

// P501: what was stored is loaded again, and all else stays, in memories of many lengths.
func TestStoredIsLoaded(t *testing.T) {
	c := chance(5)
	for range 20000 {
		m := c.bytes(c.next(40))
		size := []int{1, 2, 4}[c.next(3)]
		w := api.Write{Addr: c.next(44), Size: size, Val: c.word()}
		want := slices.Clone(m)
		there := w.Addr%size == 0 && w.Addr+size <= len(m)
		for i := range size {
			if there {
				want[w.Addr+i] = byte(w.Val >> (8 * i))
			}
		}
		becomes(t, m, w, want)
		if !there {
			continue
		}
		after := Store(m, w)
		switch size {
		case 4:
			reads(t, after, api.Lw, uint32(w.Addr), w.Val)
		case 2:
			reads(t, after, api.Lhu, uint32(w.Addr), w.Val&0xffff)
			reads(t, after, api.Lh, uint32(w.Addr), uint32(int32(w.Val<<16)>>16))
		case 1:
			reads(t, after, api.Lbu, uint32(w.Addr), w.Val&0xff)
			reads(t, after, api.Lb, uint32(w.Addr), uint32(int32(w.Val<<24)>>24))
		}
	}
}

// overlaps holds that Overlap answers this, in both orders.
func overlaps(t *testing.T, a, n, b, m int, want bool) {
	t.Helper()
	if Overlap(a, n, b, m) != want || Overlap(b, m, a, n) != want {
		t.Errorf("Overlap(%d, %d, %d, %d) = %v, turned %v, want %v", a, n, b, m, Overlap(a, n, b, m), Overlap(b, m, a, n), want)
	}
}

// together is whether two stretches have a place together, gone through place by place.
func together(a, n, b, m int) bool {
	for i := range max(n, 0) {
		for j := range max(m, 0) {
			if a+i == b+j {
				return true
			}
		}
	}
	return false
}

// P501: small stretches, all of them: apart, touching, in each other, the same, and empty.
func TestOverlapOfSmallStretches(t *testing.T) {
	for a := -6; a < 7; a++ {
		for b := -6; b < 7; b++ {
			for n := -2; n < 7; n++ {
				for m := -2; m < 7; m++ {
					overlaps(t, a, n, b, m, together(a, n, b, m))
				}
			}
		}
	}
}

// P501: a stretch of fewer than one byte has none, wherever it lies.
func TestOverlapOfEmptyStretches(t *testing.T) {
	places := []int{math.MinInt, -1, 0, 1, 5, math.MaxInt}
	for _, n := range []int{math.MinInt, math.MinInt + 1, -1 << 32, -4, -1, 0} {
		for _, a := range places {
			for _, b := range places {
				for _, m := range []int{math.MinInt, -1, 0, 1, 4, math.MaxInt} {
					overlaps(t, a, n, b, m, false)
				}
			}
		}
	}
}

// P501: stretches whose ends are no ints any more, or that lie so far apart that this is none.
func TestOverlapFarOff(t *testing.T) {
	for _, c := range []struct {
		a, n, b, m int
		want       bool
	}{
		{math.MaxInt, 1, math.MaxInt, 1, true},
		{math.MaxInt, 1, math.MaxInt - 1, 1, false},
		{math.MaxInt, 1, math.MaxInt - 1, 2, true},
		{math.MaxInt - 3, 4, math.MaxInt, 9, true},
		{math.MaxInt - 4, 4, math.MaxInt, 9, false},
		{math.MaxInt, 4, math.MinInt, 4, false},
		{math.MaxInt, math.MaxInt, math.MinInt, math.MaxInt, false},
		{math.MinInt, 1, math.MinInt, 1, true},
		{math.MinInt, math.MaxInt, -1, 1, false},
		{math.MinInt, math.MaxInt, -2, 1, true},
		{math.MinInt, math.MaxInt, -1, math.MaxInt, false},
		{math.MinInt, math.MaxInt, 0, 1, false},
		{math.MinInt, math.MaxInt, math.MaxInt, 1, false},
		{-1, math.MaxInt, math.MaxInt - 2, 1, true},
		{-1, math.MaxInt, math.MaxInt - 1, 1, false},
		{-2, math.MaxInt, math.MaxInt, 1, false},
		{0, math.MaxInt, math.MaxInt - 1, 1, true},
		{0, math.MaxInt, math.MaxInt, 1, false},
		{1, math.MaxInt, math.MaxInt, 1, true},
		{math.MinInt, 1 << 62, -1<<62 - 1, 1, true},
		{math.MinInt, 1 << 62, -1 << 62, 1, false},
	} {
		overlaps(t, c.a, c.n, c.b, c.m, c.want)
	}
	edges := []int{math.MinInt, math.MinInt + 1, math.MinInt + 2, -1 << 62, -2, -1, 0, 1, 2, 1 << 62, math.MaxInt - 2, math.MaxInt - 1, math.MaxInt}
	for _, a := range edges {
		for _, n := range edges {
			for _, b := range edges {
				for _, m := range edges {
					overlaps(t, a, n, b, m, workedTogether(a, n, b, m))
				}
			}
		}
	}
}

// workedTogether is what Overlap has to answer, worked out in numbers of any length.
func workedTogether(a, n, b, m int) bool {
	ahead := func(from, of, other int) bool {
		end := new(big.Int).Add(big.NewInt(int64(from)), big.NewInt(int64(of)))
		return big.NewInt(int64(other)).Cmp(end) < 0
	}
	return n >= 1 && m >= 1 && ahead(a, n, b) && ahead(b, m, a)
}

// P502: neither the memory nor its spare room is changed.
func TestWhatIsHandedInStays(t *testing.T) {
	whole := []byte{1, 2, 3, 4, 5, 6, 7, 8, 9, 10, 11, 12}
	was := slices.Clone(whole)
	for n := range len(whole) + 1 {
		for addr := range len(whole) + 1 {
			for _, op := range loads {
				Load(whole[:n], op, uint32(addr))
			}
			for _, size := range []int{1, 2, 4} {
				Store(whole[:n], api.Write{Addr: addr, Size: size, Val: 0xfefefefe})
			}
			if !slices.Equal(whole, was) {
				t.Fatalf("with %d bytes handed in, at %d: %v, was %v", n, addr, whole, was)
			}
		}
	}
}

// P502: an answer shares no memory with the argument or with another answer, whether the write may be or not.
func TestWhatIsAnsweredIsNew(t *testing.T) {
	for _, w := range []api.Write{
		{Addr: 0, Size: 4, Val: 0x01020304}, {Addr: 2, Size: 2, Val: 9}, {Addr: 7, Size: 1},
		{Addr: 1, Size: 4, Val: 5}, {Addr: 8, Size: 4, Val: 5}, {Addr: 0, Size: 3}, {Addr: -4, Size: 4}, {Addr: 1 << 32, Size: 4}, {},
	} {
		whole := []byte{1, 2, 3, 4, 5, 6, 7, 8, 9, 10, 11, 12}
		was := slices.Clone(whole)
		first, second := Store(whole[:8], w), Store(whole[:8], w)
		kept := slices.Clone(second)
		clear(append(first, 1, 2, 3))
		clear(first[:cap(first)])
		if !slices.Equal(whole, was) || !slices.Equal(second, kept) {
			t.Errorf("an answer of %+v written to: the argument is %v, another answer %v", w, whole, second)
		}
		clear(whole)
		if !slices.Equal(second, kept) {
			t.Errorf("the argument written to changes an answer of %+v: %v, was %v", w, second, kept)
		}
	}
}

// P502: the same arguments have the same answers, whatever was asked between.
func TestAnswersHangOnArgumentsAlone(t *testing.T) {
	c := chance(502)
	m := []byte{0x81, 2, 3, 0x84, 5}
	w := api.Write{Addr: 2, Size: 2, Val: 0x0706}
	for n := range 1000 {
		other := c.bytes(c.next(12))
		Size(n)
		Check(n%6, c.word(), n)
		Load(other, api.Lw+n%5, uint32(c.next(12)))
		Store(other, api.Write{Addr: c.next(12), Size: 1 << (n % 3), Val: c.word()})
		Overlap(n, c.next(9), c.next(2000), c.next(9))
		if Size(api.Lh) != 2 || Check(4, 2, 9) != api.TMis || Check(4, 8, 9) != api.TRange || Check(4, 4, 9) != 0 {
			t.Fatalf("after %d other calls Size or Check is another", n)
		}
		if Load(m, api.Lw, 0) != 0x84030281 || Load(m, api.Lb, 0) != 0xffffff81 || Load(m, api.Lw, 4) != 0 {
			t.Fatalf("after %d other calls Load is another", n)
		}
		if !slices.Equal(Store(m, w), []byte{0x81, 2, 6, 7, 5}) || !Overlap(0, 4, 3, 1) || Overlap(0, 4, 4, 1) {
			t.Fatalf("after %d other calls Store or Overlap is another", n)
		}
	}
}
