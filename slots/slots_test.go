package slots

import (
	"math"
	"slices"
	"testing"

	"forerunner/api"
)

// words are words at the ends and in the middle of what a word may be; one of 0 is a word, too.
var words = []uint32{0, 1, 255, 256, math.MaxInt32, 1 << 31, math.MaxUint32}

// tags are numbers that a Tag may be; some have others' lowest bits.
var tags = []int{math.MinInt, -1 << 32, -1<<32 + 1, -1 << 31, -3, -1, 0, 1, 2, 1<<31 - 1, 1 << 31, 1<<32 - 1, 1 << 32, 1<<32 + 1, math.MaxInt}

// chance makes numbers, the same ones each time.
type chance uint32

// next is the next number, from 0 to below most.
func (c *chance) next(most int) int {
	*c = *c*1664525 + 1013904223
	return int(*c>>9) % most
}

// word is one of a few, so that equal ones come near each other, or any.
func (c *chance) word() uint32 {
	if c.next(2) == 0 {
		return words[c.next(len(words))]
	}
	return uint32(c.next(1<<16))<<16 | uint32(c.next(1<<16))
}

// slot is one of few Tags, so that more than one of the same are in a list.
func (c *chance) slot() api.Slot {
	return api.Slot{Tag: c.next(5) - 1, Full: c.next(2) == 0, Val: c.word()}
}

// empty and full are slots of a Tag.
func empty(tag int) api.Slot              { return api.Slot{Tag: tag} }
func full(tag int, val uint32) api.Slot   { return api.Slot{Tag: tag, Full: true, Val: val} }
func listOf(slots ...api.Slot) []api.Slot { return slots }

// mark stands in the spare room behind what is handed in.
var mark = api.Slot{Tag: -77, Full: true, Val: 0xabababab}

// roomy is the list with marks behind its end, and the same with nothing behind it.
func roomy(l []api.Slot) (long, tight []api.Slot) {
	whole := slices.Clip(append(slices.Clone(l), mark, mark, mark))
	return whole[:len(l)], slices.Clip(slices.Clone(l))
}

// apart holds that the list handed in and its spare room are as they were, and stay so when the answer is written to.
func apart(t *testing.T, l, was, got []api.Slot) {
	t.Helper()
	for i := range got {
		got[i] = api.Slot{Tag: -88, Full: true, Val: 0xcdcdcdcd}
	}
	got = append(got, api.Slot{Tag: -99}, api.Slot{Tag: -99})
	if !slices.Equal(l, was) {
		t.Errorf("what was handed in is %v, was %v (the answer: %v)", l, was, got)
	}
	for _, spare := range l[len(l):cap(l)] {
		if spare != mark {
			t.Errorf("the spare room behind %v has %v", was, spare)
		}
	}
}

// reserves holds that Reserve answers this, of the list with spare room and without.
func reserves(t *testing.T, l []api.Slot, n, tag int, want []api.Slot, there bool) {
	t.Helper()
	long, tight := roomy(l)
	for _, in := range [][]api.Slot{long, tight} {
		got, ok := Reserve(in, n, tag)
		if !slices.Equal(got, want) || ok != there {
			t.Errorf("Reserve(%v, %d, %d) = %v, %v, want %v, %v", l, n, tag, got, ok, want, there)
		}
		apart(t, in, l, got)
	}
}

// fills holds that Fill answers this, of the list with spare room and without.
func fills(t *testing.T, l []api.Slot, tag int, w uint32, want []api.Slot, there bool) {
	t.Helper()
	long, tight := roomy(l)
	for _, in := range [][]api.Slot{long, tight} {
		got, ok := Fill(in, tag, w)
		if !slices.Equal(got, want) || ok != there {
			t.Errorf("Fill(%v, %d, %#x) = %v, %v, want %v, %v", l, tag, w, got, ok, want, there)
		}
		apart(t, in, l, got)
	}
}

// pops holds that Pop answers this, of the list with spare room and without.
func pops(t *testing.T, l, want []api.Slot, w uint32, there bool) {
	t.Helper()
	long, tight := roomy(l)
	for _, in := range [][]api.Slot{long, tight} {
		got, val, ok := Pop(in)
		if !slices.Equal(got, want) || val != w || ok != there {
			t.Errorf("Pop(%v) = %v, %#x, %v, want %v, %#x, %v", l, got, val, ok, want, w, there)
		}
		apart(t, in, l, got)
	}
}

// P1601: the chapter's example, of nil and of an empty list.
func TestPopOfNothing(t *testing.T) {
	pops(t, nil, nil, 0, false)
	pops(t, []api.Slot{}, nil, 0, false)
}

// P1601: a slot goes behind, with its Tag, and nothing in it.
func TestReserve(t *testing.T) {
	reserves(t, nil, 1, 5, listOf(empty(5)), true)
	reserves(t, []api.Slot{}, 1, 5, listOf(empty(5)), true)
	l := listOf(empty(1), full(2, 9), empty(0))
	reserves(t, l, 4, 3, listOf(empty(1), full(2, 9), empty(0), empty(3)), true)
	for _, tag := range tags {
		reserves(t, l, 4, tag, append(slices.Clone(l), empty(tag)), true)
		reserves(t, nil, 1, tag, listOf(empty(tag)), true)
	}
}

// P1601: a Tag that is there already is reserved like others, whether that one is Full or not.
func TestReserveOfATagThatIsThere(t *testing.T) {
	reserves(t, listOf(empty(7)), 2, 7, listOf(empty(7), empty(7)), true)
	reserves(t, listOf(full(7, 3)), 2, 7, listOf(full(7, 3), empty(7)), true)
	reserves(t, listOf(empty(7), full(7, 3)), 2, 7, listOf(empty(7), full(7, 3)), false)
}

// P1601: n or more are there, just so, by one and by far; slots that are Full count, too.
func TestReserveWhenThereAreSoMany(t *testing.T) {
	for there := range api.MaxQueue + 3 {
		var l []api.Slot
		for k := range there {
			l = append(l, api.Slot{Tag: k, Full: k%3 == 0, Val: uint32(k)})
		}
		for n := -2; n < api.MaxQueue+6; n++ {
			want, room := l, there < n
			if room {
				want = append(slices.Clone(l), empty(44))
			}
			reserves(t, l, n, 44, want, room)
		}
		for _, n := range []int{math.MinInt, math.MinInt + 1, -1 << 32, -1<<32 + 100, -1 << 31, -100} {
			reserves(t, l, n, 44, l, false)
		}
		for _, n := range []int{1 << 31, 1 << 32, 1<<32 + 1, 1 << 62, math.MaxInt - 1, math.MaxInt} {
			reserves(t, l, n, 44, append(slices.Clone(l), empty(44)), true)
		}
	}
}

// P1601: the first slot of the Tag that is not Full, and no other, has the word.
func TestFill(t *testing.T) {
	l := listOf(empty(4), full(5, 1), empty(5), empty(4), empty(5), full(6, 2))
	fills(t, l, 4, 8, listOf(full(4, 8), full(5, 1), empty(5), empty(4), empty(5), full(6, 2)), true)
	fills(t, l, 5, 8, listOf(empty(4), full(5, 1), full(5, 8), empty(4), empty(5), full(6, 2)), true)
	fills(t, l, 6, 8, l, false)
	fills(t, l, 7, 8, l, false)
	fills(t, l, 0, 8, l, false)
	fills(t, nil, 0, 8, nil, false)
	fills(t, []api.Slot{}, 0, 8, nil, false)
	fills(t, listOf(full(0, 8)), 0, 8, listOf(full(0, 8)), false)
	fills(t, listOf(full(0, 8)), 0, 9, listOf(full(0, 8)), false)
}

// P1601: each word fills, one of 0 too, whatever stood in the slot.
func TestFillWithEachWord(t *testing.T) {
	for _, w := range words {
		fills(t, listOf(empty(3)), 3, w, listOf(full(3, w)), true)
		fills(t, listOf(full(3, w), empty(3)), 3, w, listOf(full(3, w), full(3, w)), true)
		for _, was := range words {
			fills(t, listOf(api.Slot{Tag: 3, Val: was}), 3, w, listOf(full(3, w)), true)
		}
	}
}

// P1601: a Tag is that number and no other that is like it.
func TestFillOfEachTag(t *testing.T) {
	var all []api.Slot
	for _, tag := range tags {
		all = append(all, empty(tag))
	}
	for i, tag := range tags {
		want := slices.Clone(all)
		want[i] = full(tag, 6)
		fills(t, all, tag, 6, want, true)
		without := slices.Delete(slices.Clone(all), i, i+1)
		fills(t, without, tag, 6, without, false)
	}
}

// P1601: the first goes, if it is Full; what is in others is no matter.
func TestPop(t *testing.T) {
	pops(t, listOf(full(3, 9)), nil, 9, true)
	pops(t, listOf(full(3, 9), empty(4), full(5, 2)), listOf(empty(4), full(5, 2)), 9, true)
	pops(t, listOf(full(3, 9), full(3, 8)), listOf(full(3, 8)), 9, true)
	pops(t, listOf(empty(3)), listOf(empty(3)), 0, false)
	pops(t, listOf(empty(4), full(5, 2)), listOf(empty(4), full(5, 2)), 0, false)
	stale := listOf(api.Slot{Tag: 3, Val: 5}, full(4, 2))
	pops(t, stale, stale, 0, false)
	for _, w := range words {
		for _, tag := range tags {
			pops(t, listOf(full(tag, w), empty(tag)), listOf(empty(tag)), w, true)
		}
	}
}

// each calls f with all lists of up to so many slots of two Tags, Full or not, each with two values.
func each(most int, f func(l []api.Slot)) {
	kinds := listOf(empty(0), full(0, 0), api.Slot{Val: 7}, full(0, 7), empty(1), full(1, 0), api.Slot{Tag: 1, Val: 7}, full(1, 7))
	f(nil)
	if most == 0 {
		return
	}
	each(most-1, func(l []api.Slot) {
		for _, kind := range kinds {
			if len(l) == most-1 {
				f(append(slices.Clone(l), kind))
			}
		}
		if len(l) > 0 {
			f(l)
		}
	})
}

// firstToFill is the place of the slot that Fill has to take, told from the end on; -1: none.
func firstToFill(l []api.Slot, tag int) int {
	at := -1
	for i := len(l) - 1; i >= 0; i-- {
		if l[i] == (api.Slot{Tag: tag, Val: l[i].Val}) {
			at = i
		}
	}
	return at
}

// P1601: all lists of up to four slots of a few kinds, by all three calls.
func TestAllShortLists(t *testing.T) {
	lists := 0
	each(4, func(l []api.Slot) {
		lists++
		for n := range 7 {
			if n > len(l) {
				reserves(t, l, n, 1, append(slices.Clone(l), empty(1)), true)
			} else {
				reserves(t, l, n, 1, l, false)
			}
		}
		for tag := range 3 {
			want, at := slices.Clone(l), firstToFill(l, tag)
			if at >= 0 {
				want[at] = full(tag, 3)
			}
			fills(t, l, tag, 3, want, at >= 0)
		}
		if len(l) > 0 && l[0].Full {
			pops(t, l, l[1:], l[0].Val, true)
		} else {
			pops(t, l, l, 0, false)
		}
	})
	if want := 1 + 8 + 64 + 512 + 4096; lists != want {
		t.Errorf("%d lists were tried, want %d", lists, want)
	}
}

// P1601: reserved in order, filled in all orders, popped in the order of the reserving.
func TestFilledInAllOrders(t *testing.T) {
	const n = 6
	orders := 0
	var try func(l []api.Slot, popped []uint32)
	try = func(l []api.Slot, popped []uint32) {
		for {
			rest, w, ok := Pop(l)
			if !ok {
				break
			}
			l, popped = rest, append(slices.Clone(popped), w)
		}
		if len(l) == 0 {
			orders++
			if !slices.Equal(popped, []uint32{100, 101, 102, 103, 104, 105}) {
				t.Fatalf("popped %v", popped)
			}
		}
		for _, slot := range l {
			next, ok := Fill(l, slot.Tag, uint32(100+slot.Tag))
			if ok == slot.Full {
				t.Fatalf("Fill of %d in %v = %v", slot.Tag, l, ok)
			}
			if ok {
				try(next, popped)
			}
		}
	}
	var l []api.Slot
	for tag := range n {
		l, _ = Reserve(l, n, tag)
	}
	try(l, nil)
	if orders != 720 {
		t.Errorf("%d orders, want 720", orders)
	}
}

// P1601: many calls one behind another, with what must be in the queue kept beside it, field by field.
func TestManyCalls(t *testing.T) {
	c := chance(1601)
	for most := -1; most <= api.MaxQueue+1; most++ {
		var l, want []api.Slot
		for range 600 {
			tag, w := c.next(7)-1, c.word()
			var ok, must bool
			switch c.next(4) {
			case 0, 1:
				l, ok = Reserve(l, most, tag)
				if must = len(want) < most; must {
					want = append(want, empty(tag))
				}
			case 2:
				l, ok = Fill(l, tag, w)
				if at := firstToFill(want, tag); at >= 0 {
					want[at], must = full(tag, w), true
				}
			case 3:
				var got, first uint32
				l, got, ok = Pop(l)
				if must = len(want) > 0 && want[0].Full; must {
					first, want = want[0].Val, want[1:]
				}
				if got != first {
					t.Fatalf("Pop = %#x, want %#x", got, first)
				}
			}
			if ok != must || !slices.Equal(l, want) {
				t.Fatalf("of %d: %v, %v, want %v, %v", most, l, ok, want, must)
			}
		}
	}
}

// P1601: a queue that is far longer than any core has.
func TestALongQueue(t *testing.T) {
	const n = 100000
	l := make([]api.Slot, n)
	for i := range l {
		l[i] = api.Slot{Tag: i, Full: i != n-1, Val: uint32(i)}
	}
	if got, ok := Reserve(l, n, 1); ok || !slices.Equal(got, l) {
		t.Errorf("Reserve of a long one that has no room = %v", ok)
	}
	if got, ok := Reserve(l, n+1, 1); !ok || !slices.Equal(got, append(slices.Clone(l), empty(1))) {
		t.Errorf("Reserve of a long one that has room = %v", ok)
	}
	if got, ok := Fill(l, n-2, 1); ok || !slices.Equal(got, l) {
		t.Errorf("Fill of a long one's last but one = %v", ok)
	}
	if got, ok := Fill(l, n-1, 1); !ok || !slices.Equal(got[:n-1], l[:n-1]) || got[n-1] != full(n-1, 1) {
		t.Errorf("Fill of a long one's last = %v", ok)
	}
	if got, w, ok := Pop(l); !ok || w != 0 || !slices.Equal(got, l[1:]) {
		t.Errorf("Pop of a long one = %d, %v", w, ok)
	}
}

// P1602: two answers of the same have no memory in common.
func TestTwoAnswersAreApart(t *testing.T) {
	for _, l := range [][]api.Slot{listOf(full(1, 2), empty(3), empty(4)), listOf(empty(1), empty(3))} {
		for name, call := range map[string]func() []api.Slot{
			"Reserve":         func() []api.Slot { got, _ := Reserve(l, 9, 5); return got },
			"Reserve, false":  func() []api.Slot { got, _ := Reserve(l, 1, 5); return got },
			"Fill":            func() []api.Slot { got, _ := Fill(l, 3, 5); return got },
			"Fill, false":     func() []api.Slot { got, _ := Fill(l, 2, 5); return got },
			"Pop, both kinds": func() []api.Slot { got, _, _ := Pop(l); return got },
		} {
			one, two := call(), call()
			want := slices.Clone(two)
			clear(one)
			_ = append(one, mark, mark, mark)
			if !slices.Equal(two, want) {
				t.Errorf("%s: an answer written to changes another: %v, want %v", name, two, want)
			}
			if again := call(); !slices.Equal(again, want) {
				t.Errorf("%s: an answer written to changes a later one: %v, want %v", name, again, want)
			}
		}
	}
}

// P1602: what was handed in is not kept: written to behind the call, it changes no answer.
func TestNothingIsKept(t *testing.T) {
	c := chance(1602)
	for range 300 {
		var l []api.Slot
		for range c.next(6) {
			l = append(l, c.slot())
		}
		reserved, _ := Reserve(l, len(l)+c.next(2), 1)
		filled, _ := Fill(l, c.next(4)-1, c.word())
		popped, _, _ := Pop(l)
		all := [][]api.Slot{reserved, filled, popped}
		var were [3][]api.Slot
		for i, got := range all {
			were[i] = slices.Clone(got)
		}
		for i := range l {
			l[i] = mark
		}
		for i, got := range all {
			if !slices.Equal(got, were[i]) {
				t.Fatalf("what was handed in is in an answer: %v, want %v", got, were[i])
			}
		}
	}
}

// P1602: the same arguments have the same answers, whatever was asked between.
func TestAnswersHangOnArgumentsAlone(t *testing.T) {
	var told [2][]api.Slot
	for turn := range told {
		c := chance(77)
		for range 300 {
			var l []api.Slot
			for range c.next(5) {
				l = append(l, c.slot())
			}
			reserved, ok := Reserve(l, c.next(6), c.next(3))
			told[turn] = append(append(told[turn], reserved...), api.Slot{Full: ok})
			filled, ok := Fill(l, c.next(3), c.word())
			told[turn] = append(append(told[turn], filled...), api.Slot{Full: ok})
			popped, w, ok := Pop(l)
			told[turn] = append(append(told[turn], popped...), api.Slot{Full: ok, Val: w})
			if turn == 1 {
				Reserve(popped, 9, 1)
				Fill(reserved, 1, 1)
				Pop(filled)
			}
		}
	}
	if !slices.Equal(told[0], told[1]) {
		t.Error("the same arguments have other answers")
	}
}
