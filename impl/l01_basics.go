package impl

import (
	"cmp"
	"math/bits"
	"sort"
	"strconv"
	"strings"
)

// Constants of chapter 1.
const (
	OK           = 0
	ErrInvalid   = 1
	ErrRange     = 2
	ErrNotFound  = 3
	ErrExists    = 4
	ErrFull      = 5
	ErrState     = 6
	ErrOrder     = 7
	ErrSyntax    = 8
	ErrFormat    = 9
	ErrChecksum  = 10
	ErrTruncated = 11
	MaxName      = 10
	MaxList      = 64
	MaxBudget    = 20000
	MaxValue     = 1000000000000
	CrcStart     = 65535
)

const (
	maxDecimal    = 999999999999999999
	maxBlend      = 1000000
	lowest16      = 65535
	crcPolynomial = 4129
	emptyList     = "-"
)

var codeNames = [...]string{
	OK:           "ok",
	ErrInvalid:   "invalid",
	ErrRange:     "range",
	ErrNotFound:  "not-found",
	ErrExists:    "exists",
	ErrFull:      "full",
	ErrState:     "state",
	ErrOrder:     "order",
	ErrSyntax:    "syntax",
	ErrFormat:    "format",
	ErrChecksum:  "checksum",
	ErrTruncated: "truncated",
}

// least returns the least one of some values.
func least[T cmp.Ordered](first T, others ...T) T {
	for _, v := range others {
		if v < first {
			first = v
		}
	}
	return first
}

// greatest returns the greatest one of some values.
func greatest[T cmp.Ordered](first T, others ...T) T {
	for _, v := range others {
		if v > first {
			first = v
		}
	}
	return first
}

// within reports whether no value is below low or above high.
func within[T cmp.Ordered](low, high T, values ...T) bool {
	return least(low, values...) == low && greatest(high, values...) == high
}

// firstNumber returns the first number of some that has a property which all
// later ones have too, and until if none has it.
func firstNumber(from, until int64, has func(int64) bool) int64 {
	return from + int64(sort.Search(int(until-from), func(i int) bool {
		return has(from + int64(i))
	}))
}

// isOrdered reports whether a list has at most so many elements, which are all
// valid, with strictly increasing keys.
func isOrdered[T any, K cmp.Ordered](list []T, most int, isValid func(T) bool, keyOf func(T) K) bool {
	if len(list) > most {
		return false
	}
	for i, element := range list {
		if !isValid(element) || i > 0 && keyOf(element) <= keyOf(list[i-1]) {
			return false
		}
	}
	return true
}

// readBack returns a value and true if s is its text, and the zero value and false
// otherwise. What is not valid has the empty text.
func readBack[T any](value T, textOf func(T) string, s string) (T, bool) {
	if s == "" || textOf(value) != s {
		var none T
		return none, false
	}
	return value, true
}

// CodeName returns the name of an error code.
func CodeName(code int64) string {
	if !within(OK, ErrTruncated, code) {
		return ""
	}
	return codeNames[code]
}

// IsName reports whether s is a name.
func IsName(s string) bool {
	if !within(1, MaxName, len(s)) || !isSmallLetter(s[0]) {
		return false
	}
	for i := range len(s) {
		if !isSmallLetter(s[i]) && !isDigit(s[i]) {
			return false
		}
	}
	return true
}

func isSmallLetter(c byte) bool {
	return within('a', 'z', c)
}

func isDigit(c byte) bool {
	return within('0', '9', c)
}

// Decimal returns a number in decimal.
func Decimal(n int64) string {
	return strconv.FormatInt(n, 10)
}

// ReadDecimal returns the number with a decimal form.
func ReadDecimal(s string) (int64, bool) {
	n, err := strconv.ParseInt(s, 10, 64)
	if err != nil || !within(-maxDecimal, maxDecimal, n) {
		return 0, false
	}
	// ParseInt also reads forms such as +1, -0 and 01, which Decimal never writes.
	if Decimal(n) != s {
		return 0, false
	}
	return n, true
}

// SplitWords divides a line at blanks.
func SplitWords(s string) []string {
	var words []string
	// strings.Fields would also divide at tabs and at other white space.
	for _, part := range strings.Split(s, " ") {
		if part != "" {
			words = append(words, part)
		}
	}
	return words
}

// ListText returns a list of numbers as text.
func ListText(list []int64) string {
	if len(list) > MaxList || !within(-MaxValue, MaxValue, list...) {
		return ""
	}
	if len(list) == 0 {
		return emptyList
	}
	return joinDecimals(list, ",")
}

func joinDecimals(list []int64, separator string) string {
	parts := make([]string, len(list))
	for i, n := range list {
		parts[i] = Decimal(n)
	}
	return strings.Join(parts, separator)
}

// ReadList returns the list with a text.
func ReadList(s string) ([]int64, bool) {
	if s == emptyList {
		return nil, true
	}
	parts := strings.Split(s, ",")
	if len(parts) > MaxList {
		return nil, false
	}
	list := make([]int64, len(parts))
	for i, part := range parts {
		n, ok := ReadDecimal(part)
		if !ok || !within(-MaxValue, MaxValue, n) {
			return nil, false
		}
		list[i] = n
	}
	return list, true
}

// Crc16 returns the check value of bytes.
func Crc16(s string, start int64) int64 {
	if !within(0, lowest16, start) {
		return 0
	}
	crc := start
	for i := range len(s) {
		crc ^= int64(s[i]) * 256
		for range 8 {
			crc *= 2
			if crc > lowest16 {
				crc = crc&lowest16 ^ crcPolynomial
			}
		}
	}
	return crc
}

// RootOf returns the square root, rounded down.
func RootOf(n int64) int64 {
	if n < 0 {
		return 0
	}
	// Unsigned, since the square of a trial of 32 bits does not fit into an int64.
	square := uint64(n)
	root := uint64(0)
	for bit := (bits.Len64(square) - 1) / 2; bit >= 0; bit-- {
		trial := root | 1<<bit
		if trial*trial <= square {
			root = trial
		}
	}
	return int64(root)
}

// DivRound returns the nearest quotient.
func DivRound(a, b int64) int64 {
	if b == 0 || !within(-MaxValue, MaxValue, a, b) {
		return 0
	}
	return nearestQuotient(a, b)
}

// nearestQuotient is DivRound without its limits, for b other than 0; Blend
// needs products that are greater than MaxValue.
func nearestQuotient(a, b int64) int64 {
	if b < 0 {
		a, b = -a, -b
	}
	if a < 0 {
		return -((-a + b/2) / b)
	}
	return (a + b/2) / b
}

// Blend returns a number on a line through two points.
func Blend(x0, y0, x1, y1, x int64) int64 {
	if !within(-maxBlend, maxBlend, x0, y0, x1, y1) {
		return 0
	}
	if x1 <= x0 {
		return y0
	}
	// At the ends the quotient is exact, so moving x to the nearer end yields y0 or y1.
	x = least(greatest(x, x0), x1)
	return y0 + nearestQuotient((y1-y0)*(x-x0), x1-x0)
}
