package tests

import (
	"fmt"
	"slices"
	"strings"
	"testing"

	"loop.example/g00953/impl"
)

// textArguments are texts of all sorts, most of which no function reads.
func textArguments() []string {
	return []string{"", " ", "-", "-0", ",", "0", "01", "1,2", "a", "A", "\x00", "\xff\xfe", "\u00e9 \u00a0", "\n",
		"1000000000000,-1000000000000", strings.Repeat("0,", 63) + "0", strings.Repeat("9", 100000), strings.Repeat(",", 100000), strings.Repeat(" a", 100000)}
}

// checkEqualReadings reads texts of all sorts, and some others, twice.
func checkEqualReadings(t *testing.T, answer func(s string) string, others ...string) {
	t.Helper()
	for _, s := range append(textArguments(), others...) {
		check(t, fmt.Sprintf("the second results for %.20q", s), answer(strings.Clone(s)), answer(s))
	}
}

// listArguments are lists with unused capacity, at and beyond the limits.
func listArguments() [][]int64 {
	filled := slices.Repeat([]int64{7, -7}, 50)
	return [][]int64{nil, {}, filled[:0], filled[:3], filled[:impl.MaxList], filled[:impl.MaxList+1], extremeNumbers()[:5]}
}

// numberAnswers prints the results for some numbers of the functions of chapter 1 that take numbers only.
func numberAnswers(a, b, c int64) string {
	return fmt.Sprint(impl.CodeName(a), impl.Decimal(a), impl.RootOf(a), impl.DivRound(a, b),
		impl.Blend(a, b, c, a, b), impl.Blend(a, 1, b, 2, c), impl.Blend(1, a, 2, b, c))
}

// textAnswers prints the results for a text of the functions of chapter 1 that take one.
func textAnswers(s string, start int64) string {
	n, isNumber := impl.ReadDecimal(s)
	list, isList := impl.ReadList(s)
	return fmt.Sprint(impl.IsName(s), n, isNumber, impl.SplitWords(s), list, isList, impl.Crc16(s, start))
}

func TestP1NumbersHaveEqualResults(t *testing.T) {
	checkEqualResults(t, extremeNumbers(), numberAnswers)
}

func TestP1TextsHaveEqualResults(t *testing.T) {
	for _, start := range extremeNumbers() {
		for i, s := range textArguments() {
			if i > 15 && start != impl.CrcStart {
				continue
			}
			check(t, "the second results", textAnswers(s, start), textAnswers(strings.Clone(s), start))
		}
	}
}

func TestP1CallsDoNotDisturbEachOther(t *testing.T) {
	checkUndisturbed(t, func(n int64) string { return textAnswers("3,0,-1", n) + numberAnswers(-n, 2, 7) })
}

func TestP1ListsAreNotModified(t *testing.T) {
	for _, list := range listArguments() {
		whole := list[:cap(list)]
		before := slices.Clone(whole)
		first := impl.ListText(list)
		check(t, "the second text", impl.ListText(list), first)
		check(t, "the text of equal numbers", impl.ListText(slices.Clip(slices.Clone(list))), first)
		if !slices.Equal(whole, before) {
			t.Errorf("ListText modified its list of %d numbers", len(list))
		}
	}
}

func TestP1ResultsShareNoMemory(t *testing.T) {
	list, _ := impl.ReadList("3,0,-1")
	clear(list[:cap(list)])
	words := impl.SplitWords("a  bc")
	clear(words[:cap(words)])
	check(t, "ReadList after a change of its result", fmt.Sprint(impl.ReadList("3,0,-1")), "[3 0 -1] true")
	check(t, "SplitWords after a change of its result", fmt.Sprint(impl.SplitWords("a  bc")), "[a bc]")
	one, _ := impl.ReadList("-")
	two, _ := impl.ReadList("-")
	_ = append(one, 1)
	check(t, "the length of another empty list", len(append(two, 2)), 1)
}

func TestP1InvalidArgumentsHaveZeroValues(t *testing.T) {
	number, isNumber := impl.ReadDecimal("01")
	list, isList := impl.ReadList("1,2,x")
	check(t, "ReadDecimal", fmt.Sprint(number, isNumber), "0 false")
	check(t, "ReadList", fmt.Sprint(list == nil, isList), "true false")
	check(t, "CodeName", impl.CodeName(12), "")
	check(t, "ListText", impl.ListText(make([]int64, impl.MaxList+1)), "")
	check(t, "Crc16", impl.Crc16("a", impl.CrcStart+1), 0)
	check(t, "RootOf", impl.RootOf(-1), 0)
	check(t, "DivRound", impl.DivRound(1, 0), 0)
	check(t, "Blend", impl.Blend(0, 1, 2, 1000001, 1), 0)
}
