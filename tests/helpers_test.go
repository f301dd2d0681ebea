package tests

import (
	"fmt"
	"math"
	"slices"
	"strings"
	"sync"
	"testing"

	"loop.example/g00953/impl"
)

// check compares one result with what the document requires.
func check[T comparable](t *testing.T, what string, got, want T) {
	t.Helper()
	if got != want {
		t.Errorf("%s: got %v, want %v", what, got, want)
	}
}

// extremeNumbers are numbers at the limits of the document and of an int64.
func extremeNumbers() []int64 {
	list := []int64{math.MinInt64, math.MaxInt64}
	for _, limit := range []int64{0, impl.MaxList, impl.CrcStart, 1000000, impl.MaxValue, 999999999999999999} {
		for d := int64(-1); d <= 1; d++ {
			list = append(list, limit+d, -limit+d)
		}
	}
	return list
}

// textsOver returns all texts of up to n bytes of an alphabet.
func textsOver(alphabet string, n int) []string {
	texts := []string{""}
	longest := texts
	for range n {
		var longer []string
		for _, s := range longest {
			for i := range len(alphabet) {
				longer = append(longer, s+alphabet[i:i+1])
			}
		}
		texts = append(texts, longer...)
		longest = longer
	}
	return texts
}

// eachChangedText visits the texts that differ from a text by one byte, and its beginnings and ends.
func eachChangedText(text string, visit func(s string)) {
	for i := range len(text) + 1 {
		for c := range 256 {
			part := string([]byte{byte(c)})
			visit(text[:i] + part + text[i:])
			if i < len(text) {
				visit(text[:i] + part + text[i+1:])
			}
		}
		visit(text[:i] + text[min(i+1, len(text)):])
		visit(text[:i])
		visit(text[i:])
	}
}

// checkChangedTexts asks for the texts that differ a little from some others: those
// of valid values must be read and written as they were, the rest has no value.
// At least some of them must be read, lest nothing is asked for.
func checkChangedTexts(t *testing.T, texts []string, least int, isText func(s string) bool, readAndWrite func(s string) (string, bool), checkNone func(t *testing.T, s string)) {
	t.Helper()
	reads := 0
	checkText := func(s string) {
		if !isText(s) {
			checkNone(t, s)
			return
		}
		reads++
		written, ok := readAndWrite(s)
		check(t, fmt.Sprintf("%q is read", s), ok, true)
		check(t, "what is written of "+s, written, s)
	}
	for _, text := range texts {
		checkText(text)
		eachChangedText(text, checkText)
	}
	if reads < least {
		t.Errorf("only %d of the changed texts are read", reads)
	}
}

// checkWrongWords asks for a text in which one word is another one, stands twice, or
// follows an empty one: none of these texts has a value.
func checkWrongWords(t *testing.T, good []string, others [][]string, checkNone func(t *testing.T, s string)) {
	t.Helper()
	for i, list := range others {
		for _, other := range list {
			words := slices.Clone(good)
			words[i] = other
			checkNone(t, strings.Join(words, " "))
		}
		checkNone(t, strings.Join(slices.Insert(slices.Clone(good), i, ""), " "))
		checkNone(t, strings.Join(slices.Insert(slices.Clone(good), i, good[i]), " "))
	}
}

// checkMissingWords asks for a text without one of its words, and for this word alone:
// none of these texts has a value.
func checkMissingWords(t *testing.T, good []string, checkNone func(t *testing.T, s string)) {
	t.Helper()
	for i, word := range good {
		checkNone(t, strings.Join(slices.Delete(slices.Clone(good), i, i+1), " "))
		checkNone(t, word)
	}
}

// checkEqualResults asks for the results for all pairs of some numbers, in two
// of three places, twice: the second time in the opposite order.
func checkEqualResults(t *testing.T, numbers []int64, answers func(a, b, c int64) string) {
	t.Helper()
	before := map[[2]int64][3]string{}
	threeAnswers := func(a, b int64) [3]string {
		return [3]string{answers(a, b, 5), answers(a, 5, b), answers(5, a, b)}
	}
	for _, a := range numbers {
		for _, b := range numbers {
			before[[2]int64{a, b}] = threeAnswers(a, b)
		}
	}
	backwards := slices.Clone(numbers)
	slices.Reverse(backwards)
	for _, a := range backwards {
		for _, b := range backwards {
			check(t, fmt.Sprint("the second results for ", a, b), threeAnswers(a, b), before[[2]int64{a, b}])
		}
	}
}

// checkUndisturbed asks for the same results in goroutines that call the same functions for other numbers.
func checkUndisturbed(t *testing.T, answers func(n int64) string) {
	t.Helper()
	want := answers(5)
	got := make([]string, 16)
	var all sync.WaitGroup
	for i := range got {
		all.Go(func() {
			answers(int64(i))
			got[i] = answers(5)
		})
	}
	all.Wait()
	for _, s := range got {
		check(t, "the results of a goroutine", s, want)
	}
}

// result is a list that a function has returned.
type result struct {
	print func() string
	clear func()
}

func resultOf[T any](list []T) result {
	return result{
		print: func() string { return fmt.Sprint(list) },
		clear: func() { clear(list[:cap(list)]) },
	}
}

// checkApart clears one result after the other, with its unused capacity: neither
// the later ones nor the answers to the same questions may change.
func checkApart(t *testing.T, answers func() string, results ...result) {
	t.Helper()
	want := answers()
	for i, r := range results {
		printLater := func() string {
			all := ""
			for _, later := range results[i+1:] {
				all += later.print() + "\n"
			}
			return all
		}
		before := printLater()
		r.clear()
		check(t, fmt.Sprint("the later results after a change of result ", i), printLater(), before)
		check(t, fmt.Sprint("the answers after a change of result ", i), answers(), want)
	}
}
