package tests

import (
	"fmt"
	"math"
	"math/big"
	"reflect"
	"slices"
	"testing"

	"loop.example/g01026/impl"
)

// spare is what keepList puts into the unused capacity of a list.
const spare = -987654321

// extremes are numbers that no function may stumble over.
var extremes = []int64{
	math.MinInt64, math.MinInt64 + 1, -1_000_000_000_000_001, -1 << 32,
	1 << 32, 1_000_000_000_000_001, math.MaxInt64 - 1, math.MaxInt64,
}

// oddTexts are texts that are neither names, numbers nor magnitudes.
var oddTexts = []string{
	"", " ", "  ", "\x00", "\xff", "\xc3\x28", "\xed\xa0\x80", "a\xff", "1\xff", "9.10\xff",
	"\t", "\n", "é", "１", "٣", "9,100", "9.100\n", " 9.100", "9.100 ", "--1", "-", "+", ".", "-.",
	"0x10", "1e3", "1_000", "Inf", "NaN", "1.0e3", "9.١٠٠",
}

// same checks results against what is wanted, both in the form of fmt's %v.
func same(t *testing.T, name, want string, got ...any) {
	t.Helper()
	if s := fmt.Sprintf("%v", got); s != "["+want+"]" {
		t.Errorf("%s: got %s, want [%s]", name, s, want)
	}
}

// numbers returns some numbers and the extremes.
func numbers(list ...int64) []int64 {
	return append(slices.Clone(list), extremes...)
}

// keep calls f with a list that has unused capacity, filled with last, and checks that f changes
// neither the elements nor what lies behind them.
func keep[T comparable](t *testing.T, name string, list []T, last T, f func(list []T)) {
	t.Helper()
	backing := append(slices.Clone(list), last, last, last)
	before := slices.Clone(backing)
	f(backing[:len(list)])
	if !slices.Equal(backing, before) {
		t.Errorf("%s: changed its argument %v to %v", name, before, backing)
	}
}

// keepList is keep for numbers.
func keepList(t *testing.T, name string, list []int64, f func(list []int64)) {
	t.Helper()
	keep(t, name, list, spare, f)
}

// twice calls f two times, and checks that its results are equal; it returns them.
func twice(t *testing.T, name string, f func() []any) []any {
	t.Helper()
	first, second := f(), f()
	if !reflect.DeepEqual(first, second) {
		t.Errorf("%s: first %q, then %q", name, first, second)
	}
	return first
}

// addedWanted puts x behind all elements with lesser names, of a list with at most most elements.
func addedWanted[T any](list []T, x T, most int, name func(T) string) ([]T, int64) {
	more := []T{}
	for _, y := range list {
		if name(y) == name(x) {
			return nil, impl.ErrExists
		}
		if name(y) < name(x) {
			more = append(more, y)
		}
	}
	if len(list) == most {
		return nil, impl.ErrFull
	}
	return append(append(more, x), list[len(more):]...), impl.OK
}

// nearestOf is the greatest integer that is not greater than x plus 1/2.
func nearestOf(x *big.Rat) int64 {
	y := new(big.Rat).Add(x, big.NewRat(1, 2))
	// With a positive divisor, Div of math/big rounds down.
	return new(big.Int).Div(y.Num(), y.Denom()).Int64()
}

func isMag(m int64) bool { return m >= impl.MinMag && m <= impl.MaxMag }

func between(n, low, high int64) bool { return n >= low && n <= high }
