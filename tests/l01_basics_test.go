package tests

import (
	"math"
	"math/big"
	"regexp"
	"slices"
	"strconv"
	"strings"
	"testing"

	"loop.example/g00953/impl"
)

func TestP2CodeNames(t *testing.T) {
	codes := []int64{impl.OK, impl.ErrInvalid, impl.ErrRange, impl.ErrNotFound, impl.ErrExists, impl.ErrFull, impl.ErrState, impl.ErrOrder, impl.ErrSyntax, impl.ErrFormat, impl.ErrChecksum, impl.ErrTruncated}
	names := strings.Fields("ok invalid range not-found exists full state order syntax format checksum truncated")
	for i, code := range codes {
		check(t, "code "+names[i], code, int64(i))
		check(t, "CodeName", impl.CodeName(code), names[i])
	}
	for _, code := range []int64{-1, 12, math.MinInt64, math.MaxInt64} {
		check(t, "CodeName "+impl.Decimal(code), impl.CodeName(code), "")
	}
}

func TestP2NamesHaveSmallLettersAndDigits(t *testing.T) {
	canonical := regexp.MustCompile(`^[a-z][a-z0-9]{0,9}$`)
	for c := range 256 {
		first := string([]byte{byte(c)})
		for _, s := range []string{first, first + "a", "a" + first, "a" + first + "9"} {
			check(t, strconv.Quote(s), impl.IsName(s), canonical.MatchString(s))
		}
	}
	for _, s := range []string{"", "a", "z9", "abcdefghij", "a123456789"} {
		check(t, strconv.Quote(s), impl.IsName(s), s != "")
	}
	for _, s := range []string{"abcdefghijk", "a\n", " a", "a ", "7a", "\u00e9", "a\u00e9", "a\x00", "a-b", "a_b", "\uff41", strings.Repeat("a", 1000)} {
		check(t, strconv.Quote(s), impl.IsName(s), false)
	}
}

func TestP2DecimalsAreReadBack(t *testing.T) {
	numbers := []int64{0, 1, -1, 9, 10, -10, 120, -120, math.MaxInt64, math.MinInt64}
	power := int64(1)
	for range 19 {
		numbers = append(numbers, power-1, power, power+1, -power-1, -power, 1-power)
		power *= 10
	}
	for _, n := range numbers {
		s := big.NewInt(n).String()
		check(t, "Decimal", impl.Decimal(n), s)
		got, ok := impl.ReadDecimal(s)
		if len(strings.TrimPrefix(s, "-")) > 18 {
			check(t, "ReadDecimal "+s+" reads too many digits", ok, false)
			check(t, "the number of "+s, got, 0)
		} else {
			check(t, "ReadDecimal "+s+" reads", ok, true)
			check(t, "the number of "+s, got, n)
		}
	}
}

func TestP2OnlyDecimalFormsAreRead(t *testing.T) {
	canonical := regexp.MustCompile(`^(0|-?[1-9][0-9]{0,17})$`)
	texts := textsOver("-+019 _.", 4)
	texts = append(texts, "0x1", "1e3", "1a", "--1", "1\n", "\t1", "1\x00", "\uff11", "\u0661", "\u22121",
		"000000000000000000", "0000000000000000001", "-0000000000000000001", "1234567890123456789", "-1234567890123456789",
		"123456789012345678", "-123456789012345678", "9223372036854775808", "18446744073709551617", strings.Repeat("9", 500), strings.Repeat("0", 500)+"1")
	for _, s := range texts {
		n, ok := impl.ReadDecimal(s)
		check(t, "ReadDecimal "+strconv.Quote(s), ok, canonical.MatchString(s))
		if ok {
			check(t, "Decimal of "+s, impl.Decimal(n), s)
		} else {
			check(t, "the number of "+strconv.Quote(s), n, 0)
		}
	}
}

func TestP2WordsAreDividedAtBlanksOnly(t *testing.T) {
	cases := []struct {
		line  string
		words []string
	}{
		{"", nil},
		{" ", nil},
		{"     ", nil},
		{"a", []string{"a"}},
		{" a  bc ", []string{"a", "bc"}},
		{"set buoy 4", []string{"set", "buoy", "4"}},
		{"a\tb\nc\rd\ve", []string{"a\tb\nc\rd\ve"}},
		{"\t \n", []string{"\t", "\n"}},
		{"a\u00a0b\u2003c d", []string{"a\u00a0b\u2003c", "d"}},
		{"\xff \x00\x80", []string{"\xff", "\x00\x80"}},
		{"a,b -", []string{"a,b", "-"}},
	}
	for _, c := range cases {
		if got := impl.SplitWords(c.line); !slices.Equal(got, c.words) {
			t.Errorf("SplitWords %q: got %q, want %q", c.line, got, c.words)
		}
	}
	for _, line := range textsOver(" \ta", 5) {
		joined := strings.Join(impl.SplitWords(line), " ")
		want := strings.Trim(regexp.MustCompile(` +`).ReplaceAllString(line, " "), " ")
		check(t, "SplitWords "+strconv.Quote(line), joined, want)
	}
}

func TestP2ListsAreReadBack(t *testing.T) {
	full := make([]int64, impl.MaxList)
	for i := range full {
		full[i] = int64(i-20) * (impl.MaxValue / 64)
	}
	cases := []struct {
		list []int64
		text string
	}{
		{nil, "-"},
		{[]int64{}, "-"},
		{[]int64{0}, "0"},
		{[]int64{-7}, "-7"},
		{[]int64{3, 0, -1}, "3,0,-1"},
		{[]int64{5, 5, 5}, "5,5,5"},
		{[]int64{impl.MaxValue, -impl.MaxValue}, "1000000000000,-1000000000000"},
		{full, impl.ListText(full)},
	}
	for _, c := range cases {
		check(t, "ListText", impl.ListText(c.list), c.text)
		got, ok := impl.ReadList(c.text)
		check(t, "ReadList "+c.text, ok, true)
		if !slices.Equal(got, c.list) {
			t.Errorf("ReadList %s: got %v", c.text, got)
		}
	}
	check(t, "commas of the longest list", strings.Count(impl.ListText(full), ","), impl.MaxList-1)
}

func TestP2ListsBeyondTheLimitsHaveNoText(t *testing.T) {
	zeros := make([]int64, impl.MaxList+1)
	lists := [][]int64{zeros, make([]int64, 1000), {impl.MaxValue + 1}, {-impl.MaxValue - 1}, {1, 2, impl.MaxValue + 1}, {math.MinInt64, 0}, {0, math.MaxInt64}}
	for _, list := range lists {
		check(t, "ListText beyond the limits", impl.ListText(list), "")
	}
	texts := []string{"", "1000000000001", "-1000000000001", "0,1000000000001,0", "999999999999999999", "9223372036854775808",
		impl.ListText(zeros[1:]) + ",0", strings.Repeat("0,", 1000) + "0", "-,-", "-,1", "1,-", "--", "- ", " -", "1;2", "[1,2]"}
	for _, s := range texts {
		list, ok := impl.ReadList(s)
		check(t, "ReadList "+strconv.Quote(s), ok, false)
		check(t, "length of the list of "+strconv.Quote(s), len(list), 0)
	}
}

func TestP2OnlyListTextsAreRead(t *testing.T) {
	canonical := regexp.MustCompile(`^(-|(0|-?[1-9][0-9]*)(,(0|-?[1-9][0-9]*))*)$`)
	for _, s := range textsOver("-+01, ", 5) {
		list, ok := impl.ReadList(s)
		check(t, "ReadList "+strconv.Quote(s), ok, canonical.MatchString(s))
		if ok {
			check(t, "ListText of the list of "+strconv.Quote(s), impl.ListText(list), s)
		} else {
			check(t, "length of the list of "+strconv.Quote(s), len(list), 0)
		}
	}
}

func TestP2CheckValues(t *testing.T) {
	cases := []struct {
		text  string
		start int64
		want  int64
	}{
		{"123456789", impl.CrcStart, 0x29b1},
		{"123456789", 0, 0x31c3},
		{"123456789", 0x1d0f, 0xe5cc},
		{"", 0, 0},
		{"", 1, 1},
		{"", 65535, 65535},
		{"\x01", 0, 4129},
		{"\x00", 0, 0},
		{"\x00", 128, 32768},
		{"\x00", 255, 65280},
		{"\x00", 256, 4129},
		{"123456789", -1, 0},
		{"123456789", 65536, 0},
		{"", -1, 0},
		{"", 65536, 0},
		{"a", math.MinInt64, 0},
		{"a", math.MaxInt64, 0},
	}
	for _, c := range cases {
		check(t, "Crc16 "+strconv.Quote(c.text)+" "+impl.Decimal(c.start), impl.Crc16(c.text, c.start), c.want)
	}
}

func TestP2CheckValuesContinueAndDiffer(t *testing.T) {
	text := "F W \xff\x00\x80 - lights and buoys \u00e9"
	whole := impl.Crc16(text, impl.CrcStart)
	for i := range len(text) + 1 {
		check(t, "Crc16 in two parts", impl.Crc16(text[i:], impl.Crc16(text[:i], impl.CrcStart)), whole)
	}
	for i := range len(text) {
		for bit := range 8 {
			changed := []byte(text)
			changed[i] ^= 1 << bit
			if impl.Crc16(string(changed), impl.CrcStart) == whole {
				t.Errorf("bit %d of byte %d does not change the check value", bit, i)
			}
		}
	}
	for start := range int64(impl.CrcStart + 1) {
		if crc := impl.Crc16("\xff", start); crc < 0 || crc > 65535 {
			t.Fatalf("Crc16 from %d is %d", start, crc)
		}
	}
}

func TestP2RootsAreRoundedDown(t *testing.T) {
	const greatest = 3037000499
	roots := []int64{1, 2, 3, 4, 10, 255, 256, 65535, 65536, 94906265, 94906266, 94906267, 1 << 31, greatest - 1, greatest}
	for r := int64(1); r < greatest; r += r/7 + 1 {
		roots = append(roots, r)
	}
	for _, r := range roots {
		check(t, "root below a square", impl.RootOf(r*r-1), r-1)
		check(t, "root of a square", impl.RootOf(r*r), r)
		if r < greatest {
			check(t, "root above a square", impl.RootOf(r*r+2*r), r)
		}
	}
	for n := range int64(5000) {
		check(t, "RootOf "+impl.Decimal(n), impl.RootOf(n), new(big.Int).Sqrt(big.NewInt(n)).Int64())
	}
	check(t, "RootOf the greatest number", impl.RootOf(math.MaxInt64), greatest)
	for _, n := range []int64{-1, -4, -impl.MaxValue, math.MinInt64} {
		check(t, "RootOf "+impl.Decimal(n), impl.RootOf(n), 0)
	}
}

// roundedQuotient follows the words of the document with exact fractions.
func roundedQuotient(a, b int64) int64 {
	quotient := big.NewRat(a, b)
	half := big.NewRat(1, 2)
	if quotient.Sign() < 0 {
		half.Neg(half)
	}
	quotient.Add(quotient, half)
	return new(big.Int).Quo(quotient.Num(), quotient.Denom()).Int64()
}

func TestP2QuotientsAreNearest(t *testing.T) {
	for a := int64(-40); a <= 40; a++ {
		for b := int64(-13); b <= 13; b++ {
			want := int64(0)
			if b != 0 {
				want = roundedQuotient(a, b)
			}
			check(t, "DivRound "+impl.Decimal(a)+" "+impl.Decimal(b), impl.DivRound(a, b), want)
		}
	}
	near := []int64{1, 2, 3, 7, 499999999999, 500000000000, 500000000001, impl.MaxValue - 1, impl.MaxValue}
	for _, a := range near {
		for _, b := range near {
			for _, sign := range []int64{-1, 1} {
				check(t, "DivRound "+impl.Decimal(sign*a)+" "+impl.Decimal(b), impl.DivRound(sign*a, b), roundedQuotient(sign*a, b))
				check(t, "DivRound "+impl.Decimal(a)+" "+impl.Decimal(sign*b), impl.DivRound(a, sign*b), roundedQuotient(a, sign*b))
			}
		}
	}
	check(t, "the document's example", impl.DivRound(-5, 2), -3)
}

func TestP2QuotientsBeyondTheLimitsAre0(t *testing.T) {
	for _, n := range []int64{impl.MaxValue + 1, -impl.MaxValue - 1, math.MaxInt64, math.MinInt64} {
		check(t, "DivRound "+impl.Decimal(n)+" by 1", impl.DivRound(n, 1), 0)
		check(t, "DivRound "+impl.Decimal(n)+" by -1", impl.DivRound(n, -1), 0)
		check(t, "DivRound of MaxValue by "+impl.Decimal(n), impl.DivRound(impl.MaxValue, n), 0)
		check(t, "DivRound "+impl.Decimal(n)+" by itself", impl.DivRound(n, n), 0)
		check(t, "DivRound "+impl.Decimal(n)+" by 0", impl.DivRound(n, 0), 0)
	}
	check(t, "DivRound 7 by 0", impl.DivRound(7, 0), 0)
}

func TestP2BlendFollowsTheLine(t *testing.T) {
	for x0 := int64(-2); x0 <= 2; x0++ {
		for x1 := int64(-3); x1 <= 4; x1++ {
			for x := int64(-6); x <= 6; x++ {
				for _, y := range [][2]int64{{10, 20}, {0, -7}, {5, 5}, {-3, 4}} {
					want := y[1]
					if x <= x0 || x1 <= x0 {
						want = y[0]
					} else if x < x1 {
						want = y[0] + roundedQuotient((y[1]-y[0])*(x-x0), x1-x0)
					}
					check(t, "Blend", impl.Blend(x0, y[0], x1, y[1], x), want)
				}
			}
		}
	}
	check(t, "the document's example", impl.Blend(0, 10, 4, 20, 1), 13)
}

func TestP2BlendAtItsLimits(t *testing.T) {
	const most = 1000000
	check(t, "products beyond MaxValue", impl.Blend(-most, -most, most, most, most-1), most-1)
	check(t, "falling products beyond MaxValue", impl.Blend(-most, most, most, -most, most-1), 1-most)
	for _, x := range []int64{math.MinInt64, -most - 1, -most} {
		check(t, "before the line", impl.Blend(-most, 3, most, 4, x), 3)
		check(t, "before a point", impl.Blend(9, 3, 9, 4, x), 3)
	}
	for _, x := range []int64{most, most + 1, math.MaxInt64} {
		check(t, "behind the line", impl.Blend(-most, 3, most, 4, x), 4)
		check(t, "behind a point", impl.Blend(9, 3, 9, 4, x), 3)
		check(t, "behind a line that goes back", impl.Blend(9, 3, 8, 4, x), 3)
	}
	for _, n := range []int64{most + 1, -most - 1, math.MaxInt64, math.MinInt64} {
		check(t, "x0 beyond", impl.Blend(n, 7, 8, 9, 5), 0)
		check(t, "y0 beyond", impl.Blend(0, n, 8, 9, 5), 0)
		check(t, "x1 beyond", impl.Blend(0, 7, n, 9, 5), 0)
		check(t, "y1 beyond", impl.Blend(0, 7, 8, n, 5), 0)
	}
}
