package lex

import (
	"math/big"
	"regexp"
	"slices"
	"strconv"
	"strings"
	"testing"
	"unicode"
	"unicode/utf8"
	"unsafe"

	"forerunner/api"
)

func name(s string, at int) api.Token { return api.Token{Kind: api.TName, Text: s, At: at} }

func num(n int, s string, at int) api.Token {
	return api.Token{Kind: api.TNum, Num: n, Text: s, At: at}
}

func sign(s string, at int) api.Token { return api.Token{Kind: api.TSign, Text: s, At: at} }

func line(at int) api.Token { return api.Token{Kind: api.TLine, Text: "\n", At: at} }

// long is as much of a text as a report shows.
func long(s string) string { return strconv.Quote(s[:min(len(s), 80)]) }

// splits holds that a text has these tokens.
func splits(t *testing.T, s string, want ...api.Token) {
	t.Helper()
	got, at, e := Split(s)
	if !slices.Equal(got, want) || at != -1 || e != api.OK {
		t.Errorf("Split(%s) = %v, %d, %d, want %v", long(s), got[:min(len(got), 20)], at, e, want[:min(len(want), 20)])
	}
}

// fails holds that a text is none, by a fault at this place.
func fails(t *testing.T, s string, want int, fault api.Errno) {
	t.Helper()
	got, at, e := Split(s)
	if len(got) != 0 || at != want || e != fault {
		t.Errorf("Split(%s) = %d tokens, %d, %d, want none, %d, %d", long(s), len(got), at, e, want, fault)
	}
}

// P701: what has no token.
func TestNothing(t *testing.T) {
	for _, s := range []string{
		"", " ", "\t", "\r", "\n", " \t\r \r\t", "\n\n\n", "\r\n\r\n", " \n \n ",
		"#", "##", "# a 1 , + -", "#\n", "\n#\n#\n", " # + \r\t - \n\n # 99999999999",
	} {
		splits(t, s)
	}
}

// P701: names.
func TestNames(t *testing.T) {
	for _, s := range []string{
		"a", "z", "A", "Z", "_", "__", "_0", "_9", "a0b1", "addi", "Size", "r15", "x_1_y", "a0x1f",
		"é", "日本", "aé9_", "ß", "ǅ", "ʰ", "ª", "\U00010400", "a\U0002a6d6b", strings.Repeat("b", 5000),
	} {
		splits(t, s, name(s, 0))
		splits(t, "\t"+s+" "+s, name(s, 1), name(s, len(s)+2))
		splits(t, "#"+s+"\n"+s, name(s, len(s)+2))
	}
}

// P701: each rune that there is, alone, behind a name, in a remark.
func TestRunes(t *testing.T) {
	for r := rune(0); r <= unicode.MaxRune; r++ {
		if !utf8.ValidRune(r) {
			continue
		}
		s := string(r)
		splits(t, "#"+s)
		switch {
		case strings.Contains(" \t\r#", s):
			splits(t, s)
			splits(t, "a"+s, name("a", 0))
		case s == "\n":
			splits(t, s)
			splits(t, "a\n", name("a", 0), line(1))
		case '0' <= r && r <= '9':
			splits(t, s, num(int(r-'0'), s, 0))
			splits(t, "a"+s, name("a"+s, 0))
		case strings.Contains(",:()", s):
			splits(t, s, sign(s, 0))
			splits(t, "a"+s, name("a", 0), sign(s, 1))
		case s == "_" || unicode.IsLetter(r):
			splits(t, s, name(s, 0))
			splits(t, "a"+s, name("a"+s, 0))
		default:
			fails(t, s, 0, api.ErrSyntax)
			fails(t, "a"+s, 1, api.ErrSyntax)
		}
		if t.Failed() {
			t.Fatalf("the rune is %U", r)
		}
	}
}

// P701: numbers of base 10.
func TestNumbers(t *testing.T) {
	for _, c := range []struct {
		s    string
		want int
	}{
		{"0", 0}, {"1", 1}, {"9", 9}, {"10", 10}, {"1234567890", 1234567890}, {"007", 7}, {"00", 0}, {"09", 9},
		{"-0", 0}, {"-1", -1}, {"-9", -9}, {"-10", -10}, {"-007", -7}, {"-00", 0}, {"-1234567890", -1234567890},
		{"2147483647", 1<<31 - 1}, {"2147483648", 1 << 31}, {"-2147483648", -1 << 31}, {"-2147483649", -1<<31 - 1},
		{"4294967295", 1<<32 - 1}, {"4294967296", 1 << 32}, {"-4294967295", -1<<32 + 1}, {"-4294967296", -1 << 32},
		{strings.Repeat("0", 19000) + "4294967296", 1 << 32}, {"-" + strings.Repeat("0", 19000) + "4294967296", -1 << 32},
	} {
		splits(t, c.s, num(c.want, c.s, 0))
		splits(t, "a "+c.s+"\r", name("a", 0), num(c.want, c.s, 2))
	}
}

// P701: numbers of base 16.
func TestNumbersOfBase16(t *testing.T) {
	for _, c := range []struct {
		s    string
		want int
	}{
		{"0x0", 0}, {"0x9", 9}, {"0xa", 10}, {"0xb", 11}, {"0xc", 12}, {"0xd", 13}, {"0xe", 14}, {"0xf", 15},
		{"0xA", 10}, {"0xB", 11}, {"0xC", 12}, {"0xD", 13}, {"0xE", 14}, {"0xF", 15}, {"0x10", 16}, {"0xaB", 171}, {"0x0000", 0},
		{"0xDeadBeef", 0xdeadbeef}, {"0x80000000", 1 << 31}, {"0xffffffff", 1<<32 - 1}, {"0x100000000", 1 << 32},
		{"0x" + strings.Repeat("0", 19000) + "100000000", 1 << 32},
	} {
		splits(t, c.s, num(c.want, c.s, 0))
		splits(t, "a "+c.s+"\r", name("a", 0), num(c.want, c.s, 2))
	}
}

// P701: a number ends where its digits do.
func TestWhatIsBehindANumber(t *testing.T) {
	splits(t, "12ab", num(12, "12", 0), name("ab", 2))
	splits(t, "1_2", num(1, "1", 0), name("_2", 1))
	splits(t, "1é", num(1, "1", 0), name("é", 1))
	splits(t, "-3x4", num(-3, "-3", 0), name("x4", 2))
	splits(t, "1-2-3", num(1, "1", 0), num(-2, "-2", 1), num(-3, "-3", 3))
	splits(t, "1,2", num(1, "1", 0), sign(",", 1), num(2, "2", 2))
	splits(t, "1#2\n3", num(1, "1", 0), line(3), num(3, "3", 4))
	splits(t, "0xfg", num(15, "0xf", 0), name("g", 3))
	splits(t, "0xFG", num(15, "0xF", 0), name("G", 3))
	splits(t, "0x1x1", num(1, "0x1", 0), name("x1", 3))
	splits(t, "0x1-1", num(1, "0x1", 0), num(-1, "-1", 3))
	splits(t, "0x1:", num(1, "0x1", 0), sign(":", 3))
	splits(t, "1:", num(1, "1", 0), sign(":", 1))
	splits(t, "0x1_", num(1, "0x1", 0), name("_", 3))
	splits(t, "1e5", num(1, "1", 0), name("e5", 1))
	splits(t, "4294967296a", num(1<<32, "4294967296", 0), name("a", 10))
	fails(t, "5-", 1, api.ErrSyntax)
	fails(t, "1.5", 1, api.ErrSyntax)
	fails(t, "1\u0661", 1, api.ErrSyntax)
	fails(t, "0x1\u0661", 3, api.ErrSyntax)
}

// P701: 0x alone is 0 and a name, as is what has another base or a sign ahead.
func TestNoBase16(t *testing.T) {
	splits(t, "0x", num(0, "0", 0), name("x", 1))
	splits(t, "0x ", num(0, "0", 0), name("x", 1))
	splits(t, "0x 1", num(0, "0", 0), name("x", 1), num(1, "1", 3))
	splits(t, "0x,", num(0, "0", 0), name("x", 1), sign(",", 2))
	splits(t, "0xg", num(0, "0", 0), name("xg", 1))
	splits(t, "0xG1", num(0, "0", 0), name("xG1", 1))
	splits(t, "0x_1", num(0, "0", 0), name("x_1", 1))
	splits(t, "0xé", num(0, "0", 0), name("xé", 1))
	splits(t, "0x-1", num(0, "0", 0), name("x", 1), num(-1, "-1", 2))
	splits(t, "0X1", num(0, "0", 0), name("X1", 1))
	splits(t, "00x1", num(0, "00", 0), name("x1", 2))
	splits(t, "10x1", num(10, "10", 0), name("x1", 2))
	splits(t, "-0x1", num(0, "-0", 0), name("x1", 2))
	splits(t, "0b1", num(0, "0", 0), name("b1", 1))
	splits(t, "0o7", num(0, "0", 0), name("o7", 1))
	fails(t, "0x.", 2, api.ErrSyntax)
}

// P701: a number that is not within is told where it begins.
func TestNumbersNotWithin(t *testing.T) {
	for _, s := range []string{
		"4294967297", "-4294967297", "0x100000001", "4294967300", "9999999999", "42949672960", "-42949672960", "0x1000000000",
		"9223372036854775807", "9223372036854775808", "-9223372036854775808", "-9223372036854775809",
		"18446744073709551615", "18446744073709551616", "18446744073709551617", "-18446744073709551616", "36893488147419103232",
		"0x7fffffffffffffff", "0x8000000000000000", "0xffffffffffffffff", "0x10000000000000000", "0x10000000000000001", "0x10000000000000000000000000000001",
		"0004294967297", "-0004294967297", "0x000100000001", "1" + strings.Repeat("0", 19000), "-" + strings.Repeat("9", 19000), "0x1" + strings.Repeat("0", 19000),
	} {
		fails(t, s, 0, api.ErrRange)
		fails(t, "a\n #é\n,"+s, 8, api.ErrRange)
		fails(t, s+"a", 0, api.ErrRange)
		fails(t, s+"\n+", 0, api.ErrRange)
		fails(t, "+ "+s, 0, api.ErrSyntax)
		splits(t, "#"+s)
	}
}

// P701: numbers around each power of 2, reckoned apart, and whether they are within.
func TestNumbersAroundPowers(t *testing.T) {
	bound := new(big.Int).Lsh(big.NewInt(1), 32)
	for power := range uint(140) {
		for off := int64(-2); off <= 2; off++ {
			b := new(big.Int).Lsh(big.NewInt(1), power)
			b.Add(b, big.NewInt(off))
			texts := []string{b.String(), new(big.Int).Neg(b).String()}
			if b.Sign() >= 0 {
				texts = append(texts, "0x"+b.Text(16), "0x"+strings.ToUpper(b.Text(16)))
			}
			for _, s := range texts {
				n, _ := new(big.Int).SetString(s, 0)
				if n.CmpAbs(bound) > 0 {
					fails(t, s, 0, api.ErrRange)
				} else {
					splits(t, s, num(int(n.Int64()), s, 0))
				}
			}
		}
	}
}

// P701: a - without a digit behind.
func TestMinusAlone(t *testing.T) {
	for _, s := range []string{"-", "- 5", "-a", "-_", "--", "--5", "-,", "-\n", "-\n5", "-#", "-\t", "-é", "-x1", "-\u0661", "-+", "-\xff"} {
		fails(t, s, 0, api.ErrSyntax)
		fails(t, " a"+s, 2, api.ErrSyntax)
		fails(t, "7 "+s+"\n+", 2, api.ErrSyntax)
	}
}

// P701: signs, each a token of its own.
func TestSigns(t *testing.T) {
	splits(t, ",:()", sign(",", 0), sign(":", 1), sign("(", 2), sign(")", 3))
	splits(t, "::", sign(":", 0), sign(":", 1))
	splits(t, " ) é(", sign(")", 1), name("é", 3), sign("(", 5))
	splits(t, "a:b,c(d)", name("a", 0), sign(":", 1), name("b", 2), sign(",", 3), name("c", 4), sign("(", 5), name("d", 6), sign(")", 7))
	splits(t, "lw r1, -4(r2)", name("lw", 0), name("r1", 3), sign(",", 5), num(-4, "-4", 7), sign("(", 9), name("r2", 10), sign(")", 12))
}

// P701: lines' ends: several are one, the first of them; none ahead of the first other token.
func TestLines(t *testing.T) {
	splits(t, "a\n", name("a", 0), line(1))
	splits(t, "a\nb", name("a", 0), line(1), name("b", 2))
	splits(t, "a\n\n\nb\n\n", name("a", 0), line(1), name("b", 4), line(5))
	splits(t, "\n\na\n", name("a", 2), line(3))
	splits(t, "a\r\n\r\nb", name("a", 0), line(2), name("b", 5))
	splits(t, "a \n \t\r\n b", name("a", 0), line(2), name("b", 8))
	splits(t, "a\n# x\n\n#y\nb", name("a", 0), line(1), name("b", 10))
	splits(t, "#\n\n1", num(1, "1", 3))
	splits(t, ",\n:\n-1\n", sign(",", 0), line(1), sign(":", 2), line(3), num(-1, "-1", 4), line(6))
	splits(t, "a"+strings.Repeat("\n", api.MaxText-1), name("a", 0), line(1))
}

// P701: remarks end with the line, and with nothing else.
func TestRemarks(t *testing.T) {
	splits(t, "a#b c\nd", name("a", 0), line(5), name("d", 6))
	splits(t, "a#", name("a", 0))
	splits(t, "a # b", name("a", 0))
	splits(t, "a##b#c\nd#e", name("a", 0), line(6), name("d", 7))
	splits(t, "#a\rb\nc", name("c", 5))
	splits(t, "#a\u2028b\u0085c\f\v\x00d\ne", name("e", 14))
	splits(t, "#+-.!\"$%&'*/;<=>?@[\\]^`{|}~\nf", name("f", 28))
	splits(t, "#\ufffd é\U0001f600\ng", name("g", 12))
	splits(t, "1#4294967297 -\n2", num(1, "1", 0), line(14), num(2, "2", 15))
	fails(t, "#a\n+", 3, api.ErrSyntax)
}

// broken are bytes that are no rune from the first on.
var broken = []string{
	"\x80", "\xbf", "\xc0", "\xc1", "\xc3", "\xc3(", "\xff", "\xfe", "\xf5", "\xe6\x97", "\xe6", "\xf0\x9f\x98", "\xf0\x9f\x98 ",
	"\xc0\x80", "\xe0\x80\x80", "\xc1\xbf", "\xed\xa0\x80", "\xed\xbf\xbf", "\xf4\x90\x80\x80", "\xf0\x80\x80\x80",
}

// P701: bytes that are none, wherever they are.
func TestBrokenBytes(t *testing.T) {
	for _, s := range broken {
		fails(t, s, 0, api.ErrSyntax)
		fails(t, "a"+s, 1, api.ErrSyntax)
		fails(t, "aé"+s+"b", 3, api.ErrSyntax)
		fails(t, "12"+s, 2, api.ErrSyntax)
		fails(t, "0x1"+s, 3, api.ErrSyntax)
		fails(t, "0x"+s, 2, api.ErrSyntax)
		fails(t, "a,"+s, 2, api.ErrSyntax)
		fails(t, "a\n "+s, 3, api.ErrSyntax)
		fails(t, "#"+s, 1, api.ErrSyntax)
		fails(t, "# + é\ufffd"+s+"\n1", 9, api.ErrSyntax)
		fails(t, "a\n#\n# b"+s, 7, api.ErrSyntax)
	}
	fails(t, "\ufffd", 0, api.ErrSyntax)
	fails(t, "a\ufffd", 1, api.ErrSyntax)
}

// P701: of several faults, the first in the text.
func TestFirstFault(t *testing.T) {
	fails(t, "+ 99999999999", 0, api.ErrSyntax)
	fails(t, "99999999999 +", 0, api.ErrRange)
	fails(t, "99999999999 \xff", 0, api.ErrRange)
	fails(t, "99999999999\xff", 0, api.ErrRange)
	fails(t, "# \xff\n99999999999", 2, api.ErrSyntax)
	fails(t, "+\xff", 0, api.ErrSyntax)
	fails(t, "# \xff\n+", 2, api.ErrSyntax)
	fails(t, "a\n+\n#\xff", 2, api.ErrSyntax)
	fails(t, "a . - \xff", 2, api.ErrSyntax)
	fails(t, "1 - .", 2, api.ErrSyntax)
	fails(t, "1 -4294967297 4294967297", 2, api.ErrRange)
}

// P701: the longest text, and those that are longer, whatever is in them.
func TestLong(t *testing.T) {
	const most = 20000
	splits(t, strings.Repeat(" ", most))
	splits(t, strings.Repeat(" ", most-1)+"a", name("a", most-1))
	splits(t, strings.Repeat("a", most), name(strings.Repeat("a", most), 0))
	splits(t, strings.Repeat("é", most/2), name(strings.Repeat("é", most/2), 0))
	splits(t, "#"+strings.Repeat("+", most-1))
	splits(t, strings.Repeat("0", most), num(0, strings.Repeat("0", most), 0))
	fails(t, strings.Repeat(" ", most-1)+"+", most-1, api.ErrSyntax)
	fails(t, strings.Repeat("9", most), 0, api.ErrRange)
	many := make([]api.Token, most)
	for i := range many {
		many[i] = sign(",", i)
	}
	splits(t, strings.Repeat(",", most), many...)
	for _, s := range []string{" ", "\n", "#", "a", "0", "9", ",", "+", "-", "\xff"} {
		fails(t, strings.Repeat(s, most+1), 0, api.ErrLong)
		fails(t, strings.Repeat(s, 3*most), 0, api.ErrLong)
	}
	// It is the bytes that are counted.
	fails(t, strings.Repeat("é", most/2)+"a", 0, api.ErrLong)
	fails(t, strings.Repeat("é", most/2+1), 0, api.ErrLong)
	fails(t, strings.Repeat(" ", most)+"\n", 0, api.ErrLong)
}

// shapes are what a text may go on with; TestAllShort holds Split against them.
var shapes = []struct {
	kind int
	of   *regexp.Regexp
}{
	{0, regexp.MustCompile(`^(?:[ \t\r]+|#[^\n]*)`)},
	{api.TLine, regexp.MustCompile(`^\n`)},
	{api.TNum, regexp.MustCompile(`^(?:0x[0-9a-fA-F]+|-?[0-9]+)`)},
	{api.TName, regexp.MustCompile(`^[\p{L}_][\p{L}_0-9]*`)},
	{api.TSign, regexp.MustCompile(`^[,:()]`)},
}

// next is the kind of what a text goes on with, and how many bytes it has (0: a fault).
func next(s string) (int, int) {
	for _, x := range shapes {
		if n := len(x.of.FindString(s)); n > 0 {
			return x.kind, n
		}
	}
	return 0, 0
}

// valued is what the text of a number stands for, reckoned apart.
func valued(s string) int {
	digits, base := s, 10
	if strings.HasPrefix(s, "0x") {
		digits, base = s[2:], 16
	}
	n, _ := strconv.ParseInt(digits, base, 64)
	return int(n)
}

// expected is what Split answers of a text without bytes that are none and without great numbers, found by shapes.
func expected(s string) ([]api.Token, int, api.Errno) {
	var out []api.Token
	for at := 0; at < len(s); {
		kind, n := next(s[at:])
		if n == 0 {
			return nil, at, api.ErrSyntax
		}
		token := api.Token{Kind: kind, At: at, Text: s[at : at+n]}
		if kind == api.TNum {
			token.Num = valued(token.Text)
		}
		at += n
		repeated := kind == api.TLine && (len(out) == 0 || out[len(out)-1].Kind == api.TLine)
		if kind != 0 && !repeated {
			out = append(out, token)
		}
	}
	return out, -1, api.OK
}

// P701: each short text of some runes that matter.
func TestAllShort(t *testing.T) {
	const runes = "ag_x09F-#\n \r+:éٱ٣"
	var try func(s string, left int)
	try = func(s string, left int) {
		want, place, fault := expected(s)
		got, at, e := Split(s)
		if !slices.Equal(got, want) || at != place || e != fault {
			t.Fatalf("Split(%q) = %v, %d, %d, want %v, %d, %d", s, got, at, e, want, place, fault)
		}
		if left == 0 {
			return
		}
		for _, r := range runes {
			try(s+string(r), left-1)
		}
	}
	try("", 4)
}

// some are texts of all kinds.
var some = []string{
	"", "a", "lw r1, -4(r2) # x\n\nb: halt\n", "0x1F 12ab", "+", "a\xff", "99999999999",
	strings.Repeat("a", api.MaxText+1), strings.Repeat(", ", 300), "# x\n", "a é 日",
}

// P702: the same text has the same answer, whatever was asked between.
func TestSameAnswers(t *testing.T) {
	type answer struct {
		tokens []api.Token
		at     int
		e      api.Errno
	}
	var first []answer
	for _, s := range some {
		got, at, e := Split(s)
		first = append(first, answer{slices.Clone(got), at, e})
	}
	for range 3 {
		for i := len(some) - 1; i >= 0; i-- {
			got, at, e := Split(some[i])
			if w := first[i]; !slices.Equal(got, w.tokens) || at != w.at || e != w.e {
				t.Errorf("Split(%s) = %v, %d, %d, and %v, %d, %d before", long(some[i]), got, at, e, w.tokens, w.at, w.e)
			}
		}
	}
}

// P702: an answered list written to, or made longer, changes no other one.
func TestListsOfTheirOwn(t *testing.T) {
	for _, s := range some {
		one, _, _ := Split(s)
		two, _, _ := Split(s)
		want := slices.Clone(two)
		for i := range one {
			one[i] = name("changed", -5)
		}
		_ = append(one, name("behind", -6))
		three, _, _ := Split(s)
		if !slices.Equal(two, want) || !slices.Equal(three, want) {
			t.Errorf("Split(%s) is changed by what is done to another answer: %v, %v, want %v", long(s), two, three, want)
		}
	}
}

// P702: the text that is handed in stays as it is, and no token keeps a piece of it.
func TestTextIsNotKept(t *testing.T) {
	for _, s := range some {
		memory := []byte(s)
		// A text whose bytes may be changed behind it.
		text := unsafe.String(unsafe.SliceData(memory), len(memory))
		got, _, _ := Split(text)
		if string(memory) != s {
			t.Fatalf("Split changes the text %s", long(s))
		}
		for i := range memory {
			memory[i] = '?'
		}
		want, _, _ := Split(s)
		if !slices.Equal(got, want) {
			t.Errorf("Split(%s) keeps the text: %v, want %v", long(s), got, want)
		}
	}
}
