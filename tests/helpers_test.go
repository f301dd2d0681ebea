package tests

import (
	"math"
	"testing"

	"loop.example/g00953/impl"
)

// check compares one result with what the document requires.
func check[T comparable](t *testing.T, what string, got, want T) {
	t.Helper()
	if got != want {
		t.Errorf("%s: got %v, want %v", what, got, want)
	}
}

// extremeNumbers are numbers at the limits of the document and of an int64.
func extremeNumbers() []int64 {
	list := []int64{math.MinInt64, math.MaxInt64}
	for _, limit := range []int64{0, impl.MaxList, impl.CrcStart, 1000000, impl.MaxValue, 999999999999999999} {
		for d := int64(-1); d <= 1; d++ {
			list = append(list, limit+d, -limit+d)
		}
	}
	return list
}

// textsOver returns all texts of up to n bytes of an alphabet.
func textsOver(alphabet string, n int) []string {
	texts := []string{""}
	longest := texts
	for range n {
		var longer []string
		for _, s := range longest {
			for i := range len(alphabet) {
				longer = append(longer, s+alphabet[i:i+1])
			}
		}
		texts = append(texts, longer...)
		longest = longer
	}
	return texts
}
