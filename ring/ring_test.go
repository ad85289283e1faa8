package ring

import (
	"math"
	"slices"
	"testing"

	"forerunner/api"
)

// edges are words at the ends and in the middle of what a word may be; one of 0 is a word, too.
var edges = []uint32{0, 1, 255, 256, math.MaxInt32, 1 << 31, math.MaxUint32}

// chance makes numbers, the same ones each time.
type chance uint32

// next is the next number, from 0 to below most.
func (c *chance) next(most int) int {
	*c = *c*1664525 + 1013904223
	return int(*c>>9) % most
}

// word is one of a few, so that equal ones come near each other, or any.
func (c *chance) word() uint32 {
	if c.next(2) == 0 {
		return edges[c.next(len(edges))]
	}
	return uint32(c.next(1<<16))<<16 | uint32(c.next(1<<16))
}

// queue is a Ring beside what must be in it.
type queue struct {
	ring *Ring
	most int
	want []uint32
}

// made is a queue of n words, told by the words of the promise how many these are.
func made(n int) *queue {
	most := n
	if n < 1 {
		most = 1
	}
	if n > 64 {
		most = 64
	}
	return &queue{ring: New(n), most: most}
}

// push pushes, and holds what is answered against what must be.
func (q *queue) push(t *testing.T, w uint32) {
	t.Helper()
	room := len(q.want) < q.most
	if got := q.ring.Push(w); got != room {
		t.Fatalf("Push with %d of %d in it = %v", len(q.want), q.most, got)
	}
	if room {
		q.want = append(q.want, w)
	}
}

// pop pops, and holds what is answered against what must be.
func (q *queue) pop(t *testing.T) {
	t.Helper()
	var want uint32
	there := len(q.want) > 0
	if there {
		want, q.want = q.want[0], q.want[1:]
	}
	if got, ok := q.ring.Pop(); got != want || ok != there {
		t.Fatalf("Pop of one of %d = %#x, %v, want %#x, %v", q.most, got, ok, want, there)
	}
}

// holds holds all that is in it, and its room, against what must be.
func (q *queue) holds(t *testing.T) {
	t.Helper()
	if got := q.ring.All(); !slices.Equal(got, q.want) {
		t.Fatalf("All of one of %d = %v, want %v", q.most, got, q.want)
	}
	if got, want := q.ring.Room(), q.most-len(q.want); got != want {
		t.Fatalf("Room of one of %d with %v in it = %d, want %d", q.most, q.want, got, want)
	}
}

// P1501: the chapter's example.
func TestRoomOfANewOne(t *testing.T) {
	if got := New(3).Room(); got != 3 {
		t.Errorf("Room of a new one of 3 = %d", got)
	}
}

// P1501: New cuts what it is given to 1 to MaxQueue.
func TestNewCuts(t *testing.T) {
	for n, want := range map[int]int{
		math.MinInt: 1, math.MinInt32: 1, -1 << 32: 1, -64: 1, -1: 1, 0: 1, 1: 1, 2: 2,
		62: 62, 63: 63, 64: 64, 65: 64, 66: 64, 127: 64, 128: 64, 256: 64,
		math.MaxInt32: 64, 1 << 32: 64, 1<<32 + 3: 64, math.MaxInt: 64,
	} {
		r := New(n)
		if got := r.Room(); got != want {
			t.Errorf("Room of a new one of %d = %d, want %d", n, got, want)
		}
		if got := r.All(); len(got) != 0 {
			t.Errorf("All of a new one of %d = %v", n, got)
		}
		went := 0
		for went < 1000 && r.Push(7) {
			went++
		}
		if went != want {
			t.Errorf("into a new one of %d go %d, want %d", n, went, want)
		}
	}
	if api.MaxQueue != 64 {
		t.Errorf("MaxQueue = %d", api.MaxQueue)
	}
}

// P1501: the first in is the first out, written out.
func TestByHand(t *testing.T) {
	r := New(2)
	if !r.Push(5) || !r.Push(0) || r.Push(9) {
		t.Error("two go into one of 2, and no third")
	}
	if got := r.All(); !slices.Equal(got, []uint32{5, 0}) || r.Room() != 0 {
		t.Errorf("a full one has %v and room for %d", got, r.Room())
	}
	if w, ok := r.Pop(); w != 5 || !ok {
		t.Errorf("the first Pop = %d, %v", w, ok)
	}
	if got := r.All(); !slices.Equal(got, []uint32{0}) || r.Room() != 1 {
		t.Errorf("one that was popped has %v and room for %d", got, r.Room())
	}
	if !r.Push(8) {
		t.Error("there is room again behind a Pop")
	}
	if got := r.All(); !slices.Equal(got, []uint32{0, 8}) || r.Room() != 0 {
		t.Errorf("a full one again has %v and room for %d", got, r.Room())
	}
	if w, ok := r.Pop(); w != 0 || !ok {
		t.Errorf("the second Pop = %d, %v", w, ok)
	}
	if w, ok := r.Pop(); w != 8 || !ok {
		t.Errorf("the third Pop = %d, %v", w, ok)
	}
	if w, ok := r.Pop(); w != 0 || ok || len(r.All()) != 0 || r.Room() != 2 {
		t.Errorf("Pop of an empty one = %d, %v", w, ok)
	}
}

// P1501: whatever a word is, it takes a slot and comes out as it went in.
func TestWords(t *testing.T) {
	for _, w := range edges {
		q := made(3)
		for range 5 {
			q.push(t, w)
			q.holds(t)
		}
		for range 5 {
			q.pop(t)
			q.holds(t)
		}
	}
}

// P1501: filled and emptied from each slot on, with what is refused at both ends, at all lengths.
func TestRoundAndRound(t *testing.T) {
	for n := 1; n <= api.MaxQueue; n++ {
		q := made(n)
		next := uint32(0)
		for range n + 1 {
			for range n + 2 {
				next++
				q.push(t, next)
			}
			q.holds(t)
			for range n + 2 {
				q.pop(t)
			}
			q.holds(t)
			// One in and out again: the next filling begins a slot on.
			next++
			q.push(t, next)
			q.pop(t)
			q.holds(t)
		}
	}
}

// P1501: all orders of up to 12 calls of Push and Pop, at the shortest lengths.
func TestAllShortOrders(t *testing.T) {
	const calls = 12
	for n := 1; n <= 4; n++ {
		for order := range 1 << calls {
			q := made(n)
			for call := range calls {
				if order>>call&1 == 1 {
					q.push(t, uint32(call))
				} else {
					q.pop(t)
				}
				q.holds(t)
			}
		}
	}
}

// P1501: many calls at all lengths, with more of Push and more of Pop by turns.
func TestManyCalls(t *testing.T) {
	c := chance(1501)
	for n := -1; n <= api.MaxQueue+2; n++ {
		q := made(n)
		for call := range 1500 {
			pushes := 1 + 2*(call/150%2) // of 4
			if c.next(4) < pushes {
				q.push(t, c.word())
			} else {
				q.pop(t)
			}
			q.holds(t)
		}
	}
}

// P1501: All and Room only look.
func TestAskedAgain(t *testing.T) {
	q := made(3)
	for _, w := range []uint32{4, 0, 6} {
		for range 5 {
			q.holds(t)
		}
		q.push(t, w)
	}
	for range 4 {
		for range 5 {
			q.holds(t)
		}
		q.pop(t)
	}
	q.holds(t)
}

// P1502: a nil one answers false, 0, nothing, again and again.
func TestNil(t *testing.T) {
	var r *Ring
	for range 3 {
		if r.Push(1) {
			t.Error("Push into a nil one = true")
		}
		if w, ok := r.Pop(); w != 0 || ok {
			t.Errorf("Pop of a nil one = %d, %v", w, ok)
		}
		if got := r.All(); len(got) != 0 {
			t.Errorf("All of a nil one = %v", got)
		}
		if got := r.Room(); got != 0 {
			t.Errorf("Room of a nil one = %d", got)
		}
	}
}

// One that New did not make holds nothing, and no call of it panics.
func TestZeroRing(t *testing.T) {
	var r Ring
	for range 3 {
		if r.Push(1) {
			t.Error("Push into a zero one = true")
		}
		if w, ok := r.Pop(); w != 0 || ok {
			t.Errorf("Pop of a zero one = %d, %v", w, ok)
		}
		if got := r.All(); len(got) != 0 || r.Room() != 0 {
			t.Errorf("All of a zero one = %v, its Room %d", got, r.Room())
		}
	}
}

// P1502: what is done with one is not seen in another.
func TestTwoHaveNothingInCommon(t *testing.T) {
	c := chance(1502)
	queues := []*queue{made(3), made(3), made(1), made(64), made(64), made(5)}
	for range 5000 {
		q := queues[c.next(len(queues))]
		if c.next(2) == 0 {
			q.push(t, c.word())
		} else {
			q.pop(t)
		}
		for _, other := range queues {
			other.holds(t)
		}
	}
}

// P1502: nor is what is done with a copy of one.
func TestACopyHasNothingInCommon(t *testing.T) {
	first := made(3)
	first.push(t, 1)
	first.push(t, 2)
	copied := *first.ring
	second := &queue{ring: &copied, most: 3, want: slices.Clone(first.want)}
	second.push(t, 3)
	first.holds(t)
	first.push(t, 4)
	second.holds(t)
	for range 4 {
		second.pop(t)
		first.holds(t)
	}
	for range 4 {
		first.pop(t)
		second.holds(t)
	}
}

// P1502: what All answers is new memory, of the Ring and of every other answer.
func TestWhatIsAnsweredIsNew(t *testing.T) {
	q := made(6)
	for _, w := range []uint32{9, 8, 7, 6} {
		q.push(t, w)
	}
	one, two := q.ring.All(), q.ring.All()
	for i := range one {
		one[i] = 0xee
	}
	_ = append(one, 0xdd, 0xdd)
	if !slices.Equal(two, []uint32{9, 8, 7, 6}) {
		t.Errorf("an answer written to changes another: %v", two)
	}
	q.holds(t)
	q.push(t, 5)
	q.holds(t)
	q.pop(t)
	q.pop(t)
	for range 4 {
		q.push(t, 4)
	}
	if !slices.Equal(two, []uint32{9, 8, 7, 6}) {
		t.Errorf("later calls change an answer: %v", two)
	}
	q.holds(t)
}

// P1502: what is answered hangs on a Ring's own calls alone: the same calls, the same answers.
func TestAnswersHangOnCallsAlone(t *testing.T) {
	var told [2][]uint32
	for turn := range told {
		c := chance(77)
		r, between := New(4), New(4)
		for range 500 {
			if c.next(2) == 0 {
				if r.Push(c.word()) {
					told[turn] = append(told[turn], 1)
				}
			} else if w, ok := r.Pop(); ok {
				told[turn] = append(told[turn], w)
			}
			told[turn] = append(told[turn], uint32(r.Room()))
			told[turn] = append(told[turn], r.All()...)
			if turn == 1 {
				between.Push(5)
				New(r.Room()).Push(6)
			}
		}
	}
	if !slices.Equal(told[0], told[1]) {
		t.Error("the same calls of two have other answers")
	}
}
