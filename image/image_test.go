package image

import (
	"math"
	"slices"
	"testing"

	"forerunner/api"
)

// targeted are the operations that have a target.
var targeted = []int{api.Beq, api.Bne, api.Blt, api.Bge, api.Bltu, api.Bgeu, api.J}

var (
	halt = api.Ins{Op: api.Halt}
	nop  = api.Ins{Op: api.Addi}
)

// The words of some instructions, written out.
const (
	haltWord    = 41 << 26
	jumpOneWord = 40<<26 | 1      // J to the next place
	jumpOutWord = 40<<26 | 0x3fff // J to the place ahead
	noWord      = 0               // none has it
)

// halts is code of so many instructions.
func halts(n int) []api.Ins { return slices.Repeat([]api.Ins{halt}, n) }

// at is code of so many instructions, one of which is this.
func at(n, place int, i api.Ins) []api.Ins {
	code := halts(n)
	code[place] = i
	return code
}

// filled is a list of so many bytes, none of which is 0.
func filled(n int) []byte {
	b := make([]byte, n)
	for i := range b {
		b[i] = byte(i%255 + 1)
	}
	return b
}

// low is a number's four lowest bytes, the lowest first, reckoned apart from package word.
func low(n int) []byte {
	b := make([]byte, 4)
	for i := range b {
		b[i] = byte(n)
		n >>= 8
	}
	return b
}

// written is an image put together by hand, whether it is one or not.
func written(head string, count, size, data int, words []int, rest []byte) []byte {
	b := []byte(head)
	for _, n := range append([]int{count, size, data}, words...) {
		b = append(b, low(n)...)
	}
	return append(b, rest...)
}

// same tells whether two programs are, nil and an empty list being the same.
func same(a, b api.Program) bool {
	return a.Size == b.Size && slices.Equal(a.Code, b.Code) && slices.Equal(a.Data, b.Data)
}

// clone is a program that shares no memory with another.
func clone(p api.Program) api.Program {
	return api.Program{Code: slices.Clone(p.Code), Size: p.Size, Data: slices.Clone(p.Data)}
}

// isTaken holds that a program is Right, and that it is read back as it was written.
func isTaken(t *testing.T, p api.Program) {
	t.Helper()
	if !Right(p) {
		t.Fatalf("not Right: %d instructions, Size %d, %d Data", len(p.Code), p.Size, len(p.Data))
	}
	b := Bytes(p)
	if len(b) != 16+4*len(p.Code)+len(p.Data) {
		t.Fatalf("Bytes of %d instructions and %d Data are %d", len(p.Code), len(p.Data), len(b))
	}
	if got, e := Read(b); e != api.OK || !same(got, p) {
		t.Fatalf("Read of Bytes of %d instructions, Size %d, %d Data: %d", len(p.Code), p.Size, len(p.Data), e)
	}
}

// isRefused holds that a program is not Right, and that it has no image.
func isRefused(t *testing.T, p api.Program) {
	t.Helper()
	if Right(p) {
		t.Errorf("Right: %d instructions, Size %d, %d Data", len(p.Code), p.Size, len(p.Data))
	}
	if b := Bytes(p); len(b) != 0 {
		t.Errorf("Bytes of what is not Right are %d", len(b))
	}
}

// leads holds what Targets answers, and that Right takes or refuses the program by it.
func leads(t *testing.T, code []api.Ins, want api.Errno) {
	t.Helper()
	if got := Targets(api.Program{Code: code}); got != want {
		t.Errorf("Targets(%v) = %d, want %d", code, got, want)
	}
	if want == api.OK {
		isTaken(t, api.Program{Code: code})
	} else {
		isRefused(t, api.Program{Code: code})
	}
}

// tells holds that Read answers this error, and nothing beside it.
func tells(t *testing.T, b []byte, want api.Errno) {
	t.Helper()
	p, e := Read(b)
	if e != want {
		t.Errorf("Read of %d bytes, %v..: %d, want %d", len(b), b[:min(len(b), 24)], e, want)
	}
	if e != api.OK && (p.Code != nil || p.Size != 0 || p.Data != nil) {
		t.Errorf("Read of %d bytes, %v..: %v beside error %d", len(b), b[:min(len(b), 24)], p, e)
	}
}

// P401: of each branch and of the jump, from each place, the first and the last instruction are targets, one beyond is not.
func TestTargetsOfEachBranchAndJump(t *testing.T) {
	for _, op := range targeted {
		for _, n := range []int{1, 2, 3, 9} {
			for place := range n {
				for to := -3; to < n+3; to++ {
					want := api.ErrTarget
					if to >= 0 && to < n {
						want = api.OK
					}
					leads(t, at(n, place, api.Ins{Op: op, Imm: to - place}), want)
				}
			}
		}
	}
}

// P401: registers have no say in where a branch leads.
func TestTargetsDoNotHangOnRegisters(t *testing.T) {
	for _, op := range targeted[:6] {
		for reg := range 16 {
			leads(t, at(3, 1, api.Ins{Op: op, A: reg, B: 15 - reg, Imm: 1}), api.OK)
			leads(t, at(3, 1, api.Ins{Op: op, A: reg, B: 15 - reg, Imm: 2}), api.ErrTarget)
			leads(t, at(3, 1, api.Ins{Op: op, A: reg, B: 15 - reg, Imm: -1}), api.OK)
			leads(t, at(3, 1, api.Ins{Op: op, A: reg, B: 15 - reg, Imm: -2}), api.ErrTarget)
		}
	}
}

// P401: numbers far off lead nowhere, also where place and number together are more than an int holds.
func TestTargetsFarOff(t *testing.T) {
	far := []int{
		math.MinInt, math.MinInt + 1, math.MinInt + 2, -1 << 32, -1<<32 - 1, -1 << 31, -1 << 16, -16384, -8193, -8192,
		8191, 8192, 16384, 1 << 16, 1 << 31, 1 << 32, 1<<32 - 1, math.MaxInt - 2, math.MaxInt - 1, math.MaxInt,
	}
	for _, op := range targeted {
		for _, imm := range far {
			for place := range 3 {
				leads(t, at(3, place, api.Ins{Op: op, Imm: imm}), api.ErrTarget)
			}
		}
	}
}

// P401: one that leads nowhere is enough, wherever it stands, and those that lead somewhere don't hide it.
func TestTargetsFindOneAmongMany(t *testing.T) {
	n := 12
	code := make([]api.Ins, n)
	for place := range code {
		code[place] = api.Ins{Op: targeted[place%len(targeted)], Imm: n - 1 - 2*place}
	}
	leads(t, code, api.OK)
	for place := range code {
		for _, imm := range []int{n - place, -place - 1} {
			bad := slices.Clone(code)
			bad[place].Imm = imm
			leads(t, bad, api.ErrTarget)
		}
	}
}

// P401: what is neither branch nor jump has no target, and no instruction has none.
func TestTargetsOfOtherOperations(t *testing.T) {
	others := []int{math.MinInt, -api.J, -1, 0, 42, 64 + api.J, 1<<32 + api.Beq, math.MaxInt}
	for op := api.Add; op < api.Beq; op++ {
		others = append(others, op)
	}
	for _, op := range append(others, api.Halt) {
		for _, imm := range []int{math.MinInt, -8192, -2, -1, 1, 2, 8191, math.MaxInt} {
			if got := Targets(api.Program{Code: []api.Ins{{Op: op, Imm: imm}}}); got != api.OK {
				t.Errorf("Targets of operation %d with %d = %d", op, imm, got)
			}
		}
	}
	for _, p := range []api.Program{{}, {Code: []api.Ins{}}, {Size: -1, Data: []byte{1}}} {
		if got := Targets(p); got != api.OK {
			t.Errorf("Targets(%v) = %d", p, got)
		}
	}
}

// P401: Targets looks at the targets alone, not at what else Right asks.
func TestTargetsLookAtNothingElse(t *testing.T) {
	jump := api.Ins{Op: api.J, D: 99, A: -1, B: 16, Imm: 1}
	for _, p := range []api.Program{
		{Code: []api.Ins{{Op: 77}, jump, {Op: api.Slli, Imm: 32}}, Size: -5, Data: filled(9)},
		{Code: append(at(api.MaxCode+8, 0, api.Ins{Op: api.J, Imm: api.MaxCode + 7}), nop)},
	} {
		if got := Targets(p); got != api.OK {
			t.Errorf("Targets of %d instructions = %d", len(p.Code), got)
		}
		isRefused(t, p)
	}
	p := api.Program{Code: []api.Ins{{Op: 77}, jump}}
	if got := Targets(p); got != api.ErrTarget {
		t.Errorf("Targets(%v) = %d", p, got)
	}
}

// P401: no instruction and one more than MaxCode are refused, one and MaxCode are taken.
func TestHowManyInstructions(t *testing.T) {
	for _, n := range []int{1, 2, 255, 256, api.MaxCode - 1, api.MaxCode} {
		isTaken(t, api.Program{Code: halts(n)})
		isTaken(t, api.Program{Code: halts(n), Size: 3, Data: filled(2)})
	}
	for _, n := range []int{0, api.MaxCode + 1, api.MaxCode + 2, 2 * api.MaxCode, 1 << 16} {
		isRefused(t, api.Program{Code: halts(n)})
		isRefused(t, api.Program{Code: halts(n), Size: 3, Data: filled(2)})
	}
	isRefused(t, api.Program{})
}

// P401: the longest ways that an instruction's number reaches, in code of MaxCode instructions.
func TestTargetsOfTheLongestCode(t *testing.T) {
	last := api.MaxCode - 1
	leads(t, at(api.MaxCode, 0, api.Ins{Op: api.J, Imm: last}), api.OK)
	leads(t, at(api.MaxCode, 0, api.Ins{Op: api.Bne, Imm: last + 1}), api.ErrTarget)
	leads(t, at(api.MaxCode, last, api.Ins{Op: api.J, Imm: -last}), api.OK)
	leads(t, at(api.MaxCode, last, api.Ins{Op: api.Bge, Imm: -last - 1}), api.ErrTarget)
	leads(t, at(api.MaxCode, last, api.Ins{Op: api.Blt, Imm: 1}), api.ErrTarget)
	leads(t, at(api.MaxCode, 0, api.Ins{Op: api.Beq, Imm: -1}), api.ErrTarget)
}

// P401: Size from 0 to MaxMem.
func TestSizes(t *testing.T) {
	for _, size := range []int{0, 1, 2, 3, 255, 256, 65535, api.MaxMem} {
		isTaken(t, api.Program{Code: halts(1), Size: size})
	}
	for _, size := range []int{math.MinInt, -1 << 32, -65536, -2, -1, api.MaxMem + 1, 2 * api.MaxMem, 1 << 31, 1 << 32, 1<<32 + 4, math.MaxInt} {
		isRefused(t, api.Program{Code: halts(1), Size: size})
	}
}

// P401: as much Data as Size is taken, one byte more is not.
func TestDataUpToSize(t *testing.T) {
	for _, size := range []int{0, 1, 2, 7, 256, 4097, api.MaxMem} {
		for _, n := range []int{0, 1, size / 2, size - 1, size} {
			if n >= 0 && n <= size {
				isTaken(t, api.Program{Code: halts(2), Size: size, Data: filled(n)})
			}
		}
		isRefused(t, api.Program{Code: halts(2), Size: size, Data: filled(size + 1)})
		isRefused(t, api.Program{Code: halts(2), Size: size, Data: filled(2*size + 4)})
	}
	isRefused(t, api.Program{Code: halts(1), Size: -1, Data: []byte{}})
	isRefused(t, api.Program{Code: halts(1), Size: api.MaxMem + 1, Data: filled(api.MaxMem + 1)})
}

// P401: the most of all.
func TestTheGreatestProgram(t *testing.T) {
	isTaken(t, api.Program{Code: halts(api.MaxCode), Size: api.MaxMem, Data: filled(api.MaxMem)})
}

// P401: an instruction that isa.Right does not take is refused, wherever it stands.
func TestWrongInstructionsAreRefused(t *testing.T) {
	for _, bad := range []api.Ins{
		{}, {Op: -1}, {Op: 42}, {Op: 64 + api.Add}, {Op: math.MaxInt},
		{Op: api.Add, D: 16}, {Op: api.Add, A: -1}, {Op: api.Add, B: 16}, {Op: api.Add, Imm: 1},
		{Op: api.Addi, Imm: 8192}, {Op: api.Addi, Imm: -8193}, {Op: api.Addi, B: 1},
		{Op: api.Slli, Imm: 32}, {Op: api.Srli, Imm: -1}, {Op: api.Srai, Imm: 32},
		{Op: api.Lui, A: 1}, {Op: api.Lw, B: 1}, {Op: api.Sw, D: 1},
		{Op: api.Beq, D: 1}, {Op: api.J, A: 1}, {Op: api.Halt, Imm: 1},
	} {
		for place := range 4 {
			isRefused(t, api.Program{Code: at(4, place, bad)})
		}
	}
}

// P401: images written out byte by byte.
func TestBytesByHand(t *testing.T) {
	cases := []struct {
		p    api.Program
		want []byte
	}{
		{
			api.Program{Code: []api.Ins{halt}},
			[]byte{83, 82, 73, 1, 1, 0, 0, 0, 0, 0, 0, 0, 0, 0, 0, 0, 0, 0, 0, 0xa4},
		},
		{
			api.Program{Code: []api.Ins{halt}, Size: 5, Data: []byte{7, 8}},
			[]byte{83, 82, 73, 1, 1, 0, 0, 0, 5, 0, 0, 0, 2, 0, 0, 0, 0, 0, 0, 0xa4, 7, 8},
		},
		{
			api.Program{
				Code: []api.Ins{{Op: api.Lui, D: 8, Imm: -8192}, {Op: api.Add, D: 1, A: 2, B: 3}, {Op: api.J, Imm: -2}},
				Size: 0x0102, Data: []byte{0, 255, 0},
			},
			[]byte{
				83, 82, 73, 1, 3, 0, 0, 0, 2, 1, 0, 0, 3, 0, 0, 0,
				0x00, 0x20, 0x00, 0x66, 0x00, 0xc0, 0x48, 0x04, 0xfe, 0x3f, 0x00, 0xa0, 0, 255, 0,
			},
		},
		{
			api.Program{Code: []api.Ins{{Op: api.Sb, A: 1, B: 2, Imm: -2}}, Size: 65536},
			[]byte{83, 82, 73, 1, 1, 0, 0, 0, 0, 0, 1, 0, 0, 0, 0, 0, 0xfe, 0xbf, 0x04, 0x84},
		},
	}
	for _, c := range cases {
		if got := Bytes(c.p); !slices.Equal(got, c.want) {
			t.Errorf("Bytes(%v) = %v, want %v", c.p, got, c.want)
		}
		if got, e := Read(c.want); e != api.OK || !same(got, c.p) {
			t.Errorf("Read(%v) = %v, %d, want %v", c.want, got, e, c.p)
		}
	}
}

// P401: the numbers of images with many instructions and bytes, more than one byte of a word holds.
func TestNumbersOfGreatImages(t *testing.T) {
	for _, p := range []api.Program{
		{Code: halts(api.MaxCode), Size: api.MaxMem, Data: filled(api.MaxMem)},
		{Code: halts(300), Size: 0xfedc, Data: filled(0x1234)},
		{Code: halts(256), Size: 256, Data: filled(256)},
	} {
		words := slices.Repeat([]int{haltWord}, len(p.Code))
		want := written("SRI\x01", len(p.Code), p.Size, len(p.Data), words, p.Data)
		if got := Bytes(p); !slices.Equal(got, want) {
			t.Errorf("Bytes of %d instructions, Size %d, %d Data are others", len(p.Code), p.Size, len(p.Data))
		}
	}
}

// P401: nothing, and each piece of an image that lacks bytes at its end, or has some more, are none.
func TestReadRefusesOtherLengths(t *testing.T) {
	for _, p := range []api.Program{
		{Code: halts(1)},
		{Code: []api.Ins{nop, {Op: api.J, Imm: -1}, halt}, Size: 70, Data: filled(9)},
		{Code: halts(3), Size: 8, Data: make([]byte, 8)},
	} {
		b := Bytes(p)
		for n := range b {
			tells(t, b[:n], api.ErrBytes)
			tells(t, b[:n:n], api.ErrBytes)
		}
		tells(t, b, api.OK)
		for n := 1; n < 20; n++ {
			tells(t, slices.Concat(b, filled(n)), api.ErrBytes)
			tells(t, slices.Concat(b, make([]byte, n)), api.ErrBytes)
		}
		tells(t, slices.Concat(b, b), api.ErrBytes)
	}
	tells(t, nil, api.ErrBytes)
	tells(t, []byte{}, api.ErrBytes)
}

// P401: each byte of the beginning counts.
func TestReadRefusesOtherBeginnings(t *testing.T) {
	right := written("SRI\x01", 1, 4, 2, []int{haltWord}, []byte{5, 6})
	tells(t, right, api.OK)
	for place := range 4 {
		for other := range 256 {
			b := slices.Clone(right)
			if b[place] == byte(other) {
				continue
			}
			b[place] = byte(other)
			tells(t, b, api.ErrBytes)
		}
	}
	for _, head := range []string{"", "SRI", "SRI\x01\x01", "\x01SRI", "IRS\x01", "SRI1", "\xff\xfeSRI\x01"} {
		tells(t, written(head, 1, 0, 0, []int{haltWord}, nil), api.ErrBytes)
	}
	tells(t, make([]byte, 20), api.ErrBytes)
}

// P401: numbers that Right does not have, with as many bytes behind them as they tell.
func TestReadRefusesWrongNumbers(t *testing.T) {
	many := func(n int) []int { return slices.Repeat([]int{haltWord}, n) }
	for _, b := range [][]byte{
		written("SRI\x01", 0, 0, 0, nil, nil),
		written("SRI\x01", 0, 9, 4, nil, filled(4)),
		written("SRI\x01", api.MaxCode+1, 0, 0, many(api.MaxCode+1), nil),
		written("SRI\x01", 4000, 5, 5, many(4000), filled(5)),
		written("SRI\x01", 1, api.MaxMem+1, 0, many(1), nil),
		written("SRI\x01", 1, 1<<31-1, 0, many(1), nil),
		written("SRI\x01", 1, 1<<31, 0, many(1), nil),
		written("SRI\x01", 1, -1, 0, many(1), nil),
		written("SRI\x01", 1, 0, 1, many(1), filled(1)),
		written("SRI\x01", 1, 3, 4, many(1), filled(4)),
		written("SRI\x01", 1, api.MaxMem, api.MaxMem+1, many(1), filled(api.MaxMem+1)),
		written("SRI\x01", 1, api.MaxMem+1, api.MaxMem+1, many(1), filled(api.MaxMem+1)),
	} {
		tells(t, b, api.ErrBytes)
	}
}

// P401: numbers with which the length could be right only if it wrapped round, or were reckoned with a sign.
func TestReadRefusesNumbersThatWouldWrap(t *testing.T) {
	for _, count := range []int{-1, -2, 1 << 30, 1<<30 + 1, 1 << 31, 3 << 30, -1 << 30, 1<<30 - 4} {
		for _, data := range []int{0, 4, -4, -8, 16, -1, 1 << 31, -1 << 31, 8, 1<<31 - 1} {
			for length := range 8 {
				tells(t, written("SRI\x01", count, api.MaxMem, data, slices.Repeat([]int{haltWord}, length), nil), api.ErrBytes)
			}
		}
	}
	// Fewer bytes than none, and an instruction more: together the length of the bytes that are there.
	tells(t, written("SRI\x01", 2, 8, -4, []int{haltWord}, nil), api.ErrBytes)
	tells(t, written("SRI\x01", 3, 8, -4, []int{haltWord, haltWord}, nil), api.ErrBytes)
	tells(t, written("SRI\x01", 1, 8, -4, nil, nil), api.ErrBytes)
	tells(t, written("SRI\x01", -1, 8, 8, nil, []byte{0, 0, 0, 0xa4}), api.ErrBytes)
	for less := 1; less <= 20; less++ {
		for _, size := range []int{0, 8, -1} {
			b := written("SRI\x01", 1, size, -less, []int{haltWord}, nil)
			tells(t, b[:len(b)-less], api.ErrBytes)
		}
	}
}

// P401: the number of instructions and that of Data are told apart, though the length be the same.
func TestReadTakesCodeAndDataApart(t *testing.T) {
	halting := append(low(haltWord), low(haltWord)...)
	one, two := written("SRI\x01", 1, 4, 4, nil, halting), written("SRI\x01", 2, 4, 0, nil, halting)
	if p, e := Read(one); e != api.OK || !same(p, api.Program{Code: halts(1), Size: 4, Data: low(haltWord)}) {
		t.Errorf("Read of one instruction and four Data: %v, %d", p, e)
	}
	if p, e := Read(two); e != api.OK || !same(p, api.Program{Code: halts(2), Size: 4}) {
		t.Errorf("Read of two instructions: %v, %d", p, e)
	}
}

// P401: words that are no instruction, wherever they stand.
func TestReadRefusesWordsThatAreNoInstruction(t *testing.T) {
	for _, w := range []int{noWord, 1, 1<<26 - 1, 42 << 26, -1, 41<<26 | 1, 41<<26 | 1<<22, 40<<26 | 1<<14, 22<<26 | 32, 17<<26 | 1<<14, 1<<26 | 1} {
		for place := range 4 {
			words := slices.Repeat([]int{haltWord}, 4)
			words[place] = w
			tells(t, written("SRI\x01", 4, 3, 2, words, filled(2)), api.ErrCode)
		}
	}
}

// P401: Data are read as they are, though they look like words that are none, or that lead nowhere.
func TestReadLetsDataBe(t *testing.T) {
	for _, w := range []int{noWord, jumpOneWord, jumpOutWord, -1} {
		tells(t, written("SRI\x01", 1, 4, 4, []int{haltWord}, low(w)), api.OK)
	}
}

// P401: targets that are not in the code, the first and the last instruction's, and one that Data follow.
func TestReadRefusesWrongTargets(t *testing.T) {
	tells(t, written("SRI\x01", 1, 0, 0, []int{jumpOneWord}, nil), api.ErrTarget)
	tells(t, written("SRI\x01", 1, 0, 0, []int{jumpOutWord}, nil), api.ErrTarget)
	tells(t, written("SRI\x01", 2, 0, 0, []int{jumpOneWord, haltWord}, nil), api.OK)
	tells(t, written("SRI\x01", 2, 0, 0, []int{jumpOutWord, haltWord}, nil), api.ErrTarget)
	tells(t, written("SRI\x01", 2, 0, 0, []int{haltWord, jumpOneWord}, nil), api.ErrTarget)
	tells(t, written("SRI\x01", 2, 0, 0, []int{haltWord, jumpOutWord}, nil), api.OK)
	tells(t, written("SRI\x01", 2, 4, 4, []int{haltWord, jumpOneWord}, low(haltWord)), api.ErrTarget)
	for _, op := range targeted {
		tells(t, written("SRI\x01", 2, 0, 0, []int{op<<26 | 2, haltWord}, nil), api.ErrTarget)
		tells(t, written("SRI\x01", 2, 0, 0, []int{haltWord, op<<26 | 0x3ffe}, nil), api.ErrTarget)
		tells(t, written("SRI\x01", 2, 0, 0, []int{op<<26 | 8191, haltWord}, nil), api.ErrTarget)
	}
}

// P401: of several errors the one that is named first is told: ErrBytes, then ErrCode, then ErrTarget.
func TestReadTellsTheFirstError(t *testing.T) {
	for _, words := range [][]int{{noWord, haltWord}, {haltWord, noWord}, {jumpOutWord, haltWord}, {jumpOutWord, noWord}, {noWord, jumpOneWord}} {
		tells(t, written("SRI\x02", 2, 4, 1, words, []byte{1}), api.ErrBytes)
		tells(t, written("SRI\x01", 2, 4, 1, words, nil), api.ErrBytes)
		tells(t, written("SRI\x01", 2, 4, 1, words, []byte{1, 2}), api.ErrBytes)
		tells(t, written("SRI\x01", 2, 0, 1, words, []byte{1}), api.ErrBytes)
		tells(t, written("SRI\x01", 2, api.MaxMem+1, 1, words, []byte{1}), api.ErrBytes)
		tells(t, written("SRI\x01", 3, 4, 1, words, []byte{1}), api.ErrBytes)
	}
	// A word that is none is told ahead of a target, also where it stands behind.
	for _, words := range [][]int{{jumpOutWord, noWord}, {noWord, jumpOneWord}, {jumpOutWord, 41<<26 | 1}, {jumpOutWord, -1}} {
		tells(t, written("SRI\x01", 2, 4, 1, words, []byte{1}), api.ErrCode)
	}
	tells(t, written("SRI\x01", 3, 4, 1, []int{jumpOneWord, haltWord, jumpOneWord}, []byte{1}), api.ErrTarget)
}

// chance makes numbers, the same ones each time.
type chance uint32

// next is the next number, from 0 to below most.
func (c *chance) next(most int) int {
	*c = *c*1664525 + 1013904223
	return int(*c>>9) % most
}

// bytes are the next so many.
func (c *chance) bytes(n int) []byte {
	b := make([]byte, n)
	for i := range b {
		b[i] = byte(c.next(256))
	}
	return b
}

// someIns is an instruction that may be at a place of so many.
func someIns(c *chance, place, n int) api.Ins {
	reg := func() int { return c.next(16) }
	imm := c.next(16384) - 8192
	switch op := 1 + c.next(41); {
	case op <= api.Remu:
		return api.Ins{Op: op, D: reg(), A: reg(), B: reg()}
	case op == api.Slli || op == api.Srli || op == api.Srai:
		return api.Ins{Op: op, D: reg(), A: reg(), Imm: c.next(32)}
	case op <= api.Srai || op >= api.Lw && op <= api.Lbu:
		return api.Ins{Op: op, D: reg(), A: reg(), Imm: imm}
	case op == api.Lui:
		return api.Ins{Op: op, D: reg(), Imm: imm}
	case op <= api.Sb:
		return api.Ins{Op: op, A: reg(), B: reg(), Imm: imm}
	case op <= api.Bgeu:
		return api.Ins{Op: op, A: reg(), B: reg(), Imm: c.next(n) - place}
	case op == api.J:
		return api.Ins{Op: op, Imm: c.next(n) - place}
	}
	return halt
}

// someProgram is a program that may be.
func someProgram(c *chance) api.Program {
	p := api.Program{Code: make([]api.Ins, 1+c.next(40)), Size: c.next(600)}
	for place := range p.Code {
		p.Code[place] = someIns(c, place, len(p.Code))
	}
	p.Data = c.bytes(c.next(p.Size + 1))
	return p
}

// P401: programs of all operations are read back as they were written.
func TestProgramsComeBack(t *testing.T) {
	c := chance(4)
	for range 2000 {
		isTaken(t, someProgram(&c))
	}
}

// P401: images turned in a bit or two are refused, or read as a program that has just this image.
func TestTurnedImages(t *testing.T) {
	c := chance(41)
	for range 4000 {
		b := Bytes(someProgram(&c))
		for range 1 + c.next(2) {
			b[c.next(len(b))] ^= 1 << c.next(8)
		}
		p, e := Read(b)
		if e == api.OK && !slices.Equal(Bytes(p), b) {
			t.Fatalf("Read(%v) = %v, whose image is another", b, p)
		}
		if e != api.OK && !same(p, api.Program{}) {
			t.Fatalf("Read(%v) = %v beside error %d", b, p, e)
		}
	}
}

// roomy are programs in longer lists: what is behind their ends is no part of them.
func roomy() (api.Program, []api.Ins, []byte) {
	code := []api.Ins{{Op: api.J, Imm: 1}, halt, {Op: api.J, Imm: 99}, {Op: 77}, nop}
	data := filled(12)
	return api.Program{Code: code[:2], Size: 6, Data: data[:5]}, code, data
}

// P402: neither the lists nor their spare room are changed, and what is in that room has no say.
func TestWhatIsHandedInStays(t *testing.T) {
	p, code, data := roomy()
	codeWas, dataWas := slices.Clone(code), slices.Clone(data)
	isTaken(t, p)
	image := slices.Concat(Bytes(p), filled(9))
	imageWas := slices.Clone(image)
	for n := range len(image) + 1 {
		Read(image[:n])
	}
	if !slices.Equal(code, codeWas) || !slices.Equal(data, dataWas) {
		t.Errorf("the program's lists: %v, %v", code, data)
	}
	if !slices.Equal(image, imageWas) {
		t.Errorf("the image: %v, was %v", image, imageWas)
	}
	for _, bad := range []api.Program{{Code: code[:3], Size: 6, Data: data[:5]}, {Code: code[:4]}, {Code: code[:2], Size: 4, Data: data[:5]}} {
		isRefused(t, bad)
		Targets(bad)
	}
	if !slices.Equal(code, codeWas) || !slices.Equal(data, dataWas) {
		t.Errorf("the lists of what is not Right: %v, %v", code, data)
	}
}

// P402: an image answered is not the program's memory, nor another image's.
func TestBytesAreNew(t *testing.T) {
	p, _, _ := roomy()
	want := clone(p)
	first, second := Bytes(p), Bytes(p)
	kept := slices.Clone(second)
	longer := append(first, 1, 2, 3)
	for i := range longer {
		longer[i] = 0xee
	}
	clear(first)
	if !same(p, want) || !slices.Equal(second, kept) {
		t.Errorf("an answer written to changes the program or another answer: %v, %v", p, second)
	}
	clear(p.Code)
	clear(p.Data)
	if !slices.Equal(second, kept) {
		t.Errorf("the program written to changes an answer: %v, was %v", second, kept)
	}
}

// P402: a program answered is not the image's memory, nor another program's.
func TestProgramsAreNew(t *testing.T) {
	whole := slices.Concat(written("SRI\x01", 2, 9, 5, []int{jumpOneWord, haltWord}, filled(5)), filled(30))
	b := whole[:len(whole)-30]
	was := slices.Clone(whole)
	first, e := Read(b)
	second, f := Read(b)
	if e != api.OK || f != api.OK {
		t.Fatalf("Read: %d, %d", e, f)
	}
	want := clone(second)
	clear(append(first.Code, nop, nop, nop))
	clear(append(first.Data, 1, 2, 3))
	clear(first.Code)
	clear(first.Data)
	if !slices.Equal(whole, was) || !same(second, want) {
		t.Errorf("an answer written to changes the image or another answer: %v, %v", whole, second)
	}
	clear(whole)
	if !same(second, want) {
		t.Errorf("the image written to changes an answer: %v, was %v", second, want)
	}
}

// P402: the same arguments have the same answers, whatever was asked between.
func TestAnswersHangOnArgumentsAlone(t *testing.T) {
	c := chance(402)
	p := someProgram(&c)
	b := Bytes(p)
	bad := api.Program{Code: []api.Ins{{Op: api.J, Imm: 1}}}
	for n := range 300 {
		other := someProgram(&c)
		image := Bytes(other)
		Read(image)
		Read(image[:n%len(image)])
		other.Code[n%len(other.Code)] = api.Ins{Op: n % 50, Imm: n}
		Right(other)
		Targets(other)
		Bytes(other)
		if got, e := Read(b); e != api.OK || !same(got, p) || !slices.Equal(Bytes(p), b) || !Right(p) || Targets(p) != api.OK {
			t.Fatalf("after %d other calls an answer is another", n)
		}
		isRefused(t, bad)
		if Targets(bad) != api.ErrTarget {
			t.Fatalf("after %d other calls Targets is OK", n)
		}
		tells(t, b[:len(b)-1], api.ErrBytes)
	}
}
