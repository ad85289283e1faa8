package word

import (
	"math"
	"slices"
	"testing"
)

// P101: ordinary numbers, the edges of 32 bits, numbers below 0, and those that more bits hold.
func TestOfKeepsTheLowestBits(t *testing.T) {
	cases := []struct {
		n    int
		want uint32
	}{
		{0, 0},
		{1, 1},
		{0x12345678, 0x12345678},
		{-1, 0xffffffff},
		{-2, 0xfffffffe},
		{1<<31 - 1, 0x7fffffff},
		{1 << 31, 0x80000000},
		{1<<31 + 1, 0x80000001},
		{1<<32 - 1, 0xffffffff},
		{1 << 32, 0},
		{1<<32 + 5, 5},
		{-1 << 31, 0x80000000},
		{-1<<31 - 1, 0x7fffffff},
		{-1 << 32, 0},
		{-1<<32 - 3, 0xfffffffd},
		{0x7654321089abcdef, 0x89abcdef},
		{math.MaxInt, 0xffffffff},
		{math.MinInt, 0},
	}
	for _, c := range cases {
		if got := Of(c.n); got != c.want {
			t.Errorf("Of(%d) = %#x, want %#x", c.n, got, c.want)
		}
	}
}

// P101: the highest bit is the sign.
func TestIntHasTheSign(t *testing.T) {
	cases := []struct {
		w    uint32
		want int
	}{
		{0, 0},
		{1, 1},
		{0x12345678, 0x12345678},
		{0x7fffffff, 1<<31 - 1},
		{0x80000000, -1 << 31},
		{0x80000001, -1<<31 + 1},
		{0xfffffffe, -2},
		{0xffffffff, -1},
	}
	for _, c := range cases {
		if got := Int(c.w); got != c.want {
			t.Errorf("Int(%#x) = %d, want %d", c.w, got, c.want)
		}
	}
}

// P101: each bit alone goes through Of, Int, Put and Get and comes back.
func TestEachBitComesBack(t *testing.T) {
	for bit := range 32 {
		w := uint32(1) << bit
		if got := Of(Int(w)); got != w {
			t.Errorf("Of(Int(%#x)) = %#x", w, got)
		}
		got, ok := Get(Put([]byte{7, 7, 7}, w), 3)
		if got != w || !ok {
			t.Errorf("Get of Put of %#x = %#x, %v", w, got, ok)
		}
	}
}

// P101: the four bytes stand behind what was there, the lowest first.
func TestPutLaysTheLowestFirst(t *testing.T) {
	cases := []struct {
		b    []byte
		w    uint32
		want []byte
	}{
		{nil, 0x04030201, []byte{1, 2, 3, 4}},
		{[]byte{}, 0, []byte{0, 0, 0, 0}},
		{[]byte{9}, 0xffffffff, []byte{9, 255, 255, 255, 255}},
		{[]byte{9, 8, 7}, 0x80000000, []byte{9, 8, 7, 0, 0, 0, 128}},
		{[]byte{1, 2, 3, 4, 5}, 0xdeadbeef, []byte{1, 2, 3, 4, 5, 0xef, 0xbe, 0xad, 0xde}},
	}
	for _, c := range cases {
		if got := Put(c.b, c.w); !slices.Equal(got, c.want) {
			t.Errorf("Put(%v, %#x) = %v, want %v", c.b, c.w, got, c.want)
		}
	}
}

// P101: every place at which four bytes stand has its word.
func TestGetReadsTheLowestFirst(t *testing.T) {
	b := []byte{0x11, 0x22, 0x33, 0x44, 0xff, 0x80}
	for at, want := range []uint32{0x44332211, 0xff443322, 0x80ff4433} {
		if got, ok := Get(b, at); got != want || !ok {
			t.Errorf("Get at %d = %#x, %v, want %#x", at, got, ok, want)
		}
	}
	if got, ok := Get([]byte{1, 0, 0, 0}, 0); got != 1 || !ok {
		t.Errorf("Get of just four bytes = %#x, %v", got, ok)
	}
}

// P101: a place without four bytes answers 0 and false, however far off it is.
func TestGetRefusesWhatIsNotAllThere(t *testing.T) {
	places := []int{math.MinInt, math.MinInt + 3, -5, -4, -1, 3, 4, 5, 6, 7, math.MaxInt - 3, math.MaxInt}
	for _, at := range places {
		if got, ok := Get([]byte{1, 2, 3, 4, 5, 6}, at); got != 0 || ok {
			t.Errorf("Get of six bytes at %d = %#x, %v", at, got, ok)
		}
	}
	for _, b := range [][]byte{nil, {}, {1}, {1, 2}, {1, 2, 3}} {
		for _, at := range []int{math.MinInt, -4, -3, -2, -1, 0, 1, 2, 3, 4, math.MaxInt} {
			if got, ok := Get(b, at); got != 0 || ok {
				t.Errorf("Get(%v, %d) = %#x, %v", b, at, got, ok)
			}
		}
	}
}

// P101: spare room behind a list is no part of it, even where four bytes stand there.
func TestGetDoesNotLookIntoSpareRoom(t *testing.T) {
	whole := []byte{1, 2, 3, 4, 5, 6, 7, 8}
	for n := range 4 {
		if got, ok := Get(whole[:n], 0); got != 0 || ok {
			t.Errorf("Get of %d bytes with spare room = %#x, %v", n, got, ok)
		}
	}
	if got, ok := Get(whole[:5], 2); got != 0 || ok {
		t.Errorf("Get that ends in spare room = %#x, %v", got, ok)
	}
}

// P102: neither the list nor its spare room is changed.
func TestWhatIsHandedInStays(t *testing.T) {
	whole := []byte{1, 2, 3, 4, 5, 6, 7, 8, 9, 10}
	before := slices.Clone(whole)
	for n := range len(whole) + 1 {
		Put(whole[:n], 0xa5a5a5a5)
		Get(whole[:n], 0)
		Get(whole[:n], n-4)
		Get(whole[:n], n)
		if !slices.Equal(whole, before) {
			t.Fatalf("with %d bytes handed in: %v, was %v", n, whole, before)
		}
	}
}

// P102: an answer shares no memory with the argument or with another answer.
func TestWhatIsAnsweredIsNew(t *testing.T) {
	for _, own := range [][]byte{nil, {}, {5, 6}, make([]byte, 2, 64), make([]byte, 0, 64)} {
		before := slices.Clone(own)
		first, second := Put(own, 0x01010101), Put(own, 0x02020202)
		kept := slices.Clone(second)
		for i := range first {
			first[i] = 0xee
		}
		if !slices.Equal(own, before) {
			t.Errorf("an answer written to changes the argument: %v, was %v", own, before)
		}
		if !slices.Equal(second, kept) {
			t.Errorf("an answer written to changes another: %v, was %v", second, kept)
		}
		for i := range own {
			own[i] = 0xdd
		}
		if !slices.Equal(second, kept) {
			t.Errorf("the argument written to changes an answer: %v, was %v", second, kept)
		}
	}
}

// P102: what is behind an answer in its memory may be appended to without harm to another.
func TestSpareRoomOfAnswersIsApart(t *testing.T) {
	own := make([]byte, 2, 64)
	first, second := Put(own, 1), Put(own, 2)
	longer := append(first, 7, 7, 7, 7)
	other := append(second, 9, 9, 9, 9)
	if !slices.Equal(longer, []byte{0, 0, 1, 0, 0, 0, 7, 7, 7, 7}) {
		t.Errorf("the first answer, made longer: %v", longer)
	}
	if !slices.Equal(other, []byte{0, 0, 2, 0, 0, 0, 9, 9, 9, 9}) {
		t.Errorf("the second answer, made longer: %v", other)
	}
	if spare := own[2:cap(own)]; slices.Max(spare) != 0 {
		t.Errorf("the argument's spare room: %v", spare)
	}
}

// P102: the same arguments have the same answers, whatever was asked between.
func TestAnswersHangOnArgumentsAlone(t *testing.T) {
	b := []byte{4, 3, 2, 1, 0}
	of, number, put := Of(-7), Int(0x80000007), Put(b, 77)
	got, ok := Get(b, 1)
	for n := range 100 {
		Of(n)
		Int(uint32(n))
		Put(put, uint32(n))
		Get(put, n)
		if Of(-7) != of || Int(0x80000007) != number || !slices.Equal(Put(b, 77), put) {
			t.Fatalf("after %d other calls an answer is another", n)
		}
		if again, there := Get(b, 1); again != got || there != ok {
			t.Fatalf("after %d other calls Get is %#x, %v", n, again, there)
		}
	}
}
