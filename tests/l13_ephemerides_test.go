package tests

import (
	"fmt"
	"math"
	"math/big"
	"math/rand/v2"
	"slices"
	"sort"
	"testing"

	"loop.example/g01026/impl"
)

// edgeCycles are numbers at and beside the limits of cycles, and of shifts of cycles.
var edgeCycles = numbers(-20001, -20000, -10001, -10000, -9999, -1000, -2, -1, 0, 1, 2, 30, 999, 1000, 1001, 9999, 10000, 10001, 20000, 20001)

// edgeResiduals are numbers at and beside the limits of how far times may be from extrema.
var edgeResiduals = numbers(-1000000, -2, -1, 0, 1, 2, 14, 15, 16, 24, 25, 26, 499999, 500000, 999999, 1000000, 1000001)

// minima are minima of a Cycle and a Time each.
func minima(numbers ...int64) []impl.Minimum {
	var list []impl.Minimum
	for two := range slices.Chunk(numbers, 2) {
		list = append(list, impl.Minimum{Cycle: two[0], Time: two[1]})
	}
	return list
}

func exampleMinima() []impl.Minimum { return minima(0, 100, 1, 131, 2, 159) }

// evenMinima has count minima of an ephemeris, from the cycle first on, each step cycles behind the one before it.
func evenMinima(e impl.Ephemeris, first, step, count int64) []impl.Minimum {
	var list []impl.Minimum
	for i := range count {
		cycle := first + i*step
		list = append(list, impl.Minimum{Cycle: cycle, Time: e.Epoch + cycle*e.Period})
	}
	return list
}

// bentMinima has count minima, one half from the cycle first on and the other half up to the cycle
// last, with Times as near to 0 and to MaxTime as they can be.
func bentMinima(first, last, count int64) []impl.Minimum {
	var list []impl.Minimum
	for i := range count {
		if i < count/2 {
			list = append(list, impl.Minimum{Cycle: first + i, Time: i})
		} else {
			list = append(list, impl.Minimum{Cycle: last - count + 1 + i, Time: 10_000_001 - count + i})
		}
	}
	return list
}

// diceMinima has minima around an ephemeris, with cycles that are missing.
func diceMinima(seed uint64) []impl.Minimum {
	r := rand.New(rand.NewPCG(13, seed))
	pick := func(list ...int64) int64 { return list[r.IntN(len(list))] }
	gap, time := pick(1, 1, 2, 3, 20, 21, 600), pick(0, 1, 77, 5000)
	cycle, period, count := pick(-10000, -500, -10, -1, 0, 1, 30, 1500), pick(2, 3, 30, 1000, 9000), pick(2, 3, 4, 10, 49, 50)
	var list []impl.Minimum
	for range count {
		list = append(list, impl.Minimum{Cycle: cycle, Time: time})
		more := 1 + r.Int64N(gap)
		cycle += more
		time += more*period + r.Int64N(period) - period/2
	}
	return list
}

func isCycle(n int64) bool { return between(n, -10_000, 10_000) }

func isMinimum(m impl.Minimum) bool { return isCycle(m.Cycle) && isTime(m.Time) }

// areMinima holds each two minima against each other.
func areMinima(list []impl.Minimum) bool {
	for i, m := range list {
		for _, later := range list[i+1:] {
			if later.Cycle <= m.Cycle || later.Time <= m.Time {
				return false
			}
		}
	}
	return len(list) <= 50 && !slices.ContainsFunc(list, func(m impl.Minimum) bool { return !isMinimum(m) })
}

func goodMinima() [][]impl.Minimum {
	list := [][]impl.Minimum{
		nil, {}, exampleMinima(), minima(0, 0), minima(0, 100), minima(-10000, 0), minima(10000, 10000000), minima(-10000, 10000000), minima(10000, 0), minima(-10000, 0, 10000, 10000000), minima(-10000, 0, -9999, 1),
		minima(9999, 9999999, 10000, 10000000), minima(9999, 0, 10000, 1), minima(0, 0, 1, 10000000), minima(0, 0, 1, 1), minima(0, 0, 1000, 10000000), minima(0, 0, 1001, 10000000), minima(-1, 70, 0, 100, 1, 130), minima(3, 0, 5, 2, 6, 4),
		evenMinima(ephemeris(100, 30), 0, 1, 50), evenMinima(ephemeris(100, 30), -3, 1, 50), evenMinima(ephemeris(100, 30), -3, 7, 49), evenMinima(ephemeris(0, 10000), 0, 20, 50), evenMinima(ephemeris(0, 10000), 0, 21, 48), evenMinima(ephemeris(10000000, 1), -10000, 100, 50),
		bentMinima(-10000, -9000, 50), bentMinima(9000, 10000, 50), bentMinima(-500, 500, 50), bentMinima(-500, 501, 50), bentMinima(9000, 10000, 49), bentMinima(-10000, 10000, 50), bentMinima(-10000, -9951, 50), bentMinima(9951, 10000, 50),
		minima(0, 0, 1, 5, 1000, 9000), minima(0, 0, 999, 5, 1000, 9000), minima(0, 0, 1, 5, 1001, 9000),
	}
	for seed := range uint64(60) {
		if own := diceMinima(seed); areMinima(own) {
			list = append(list, own)
		}
	}
	return list
}

// badMinima are not valid, but for the last ones by just one of their fields.
func badMinima() [][]impl.Minimum {
	list := [][]impl.Minimum{
		evenMinima(ephemeris(100, 30), 0, 1, 51), evenMinima(ephemeris(100, 30), -25, 2, 51)[2:], bentMinima(-500, 500, 51), evenMinima(ephemeris(0, 1), 0, 1, 100), make([]impl.Minimum, 51), make([]impl.Minimum, 2),
		// Equal Cycles, equal Times, and both.
		minima(0, 100, 0, 101), minima(0, 100, 1, 100), minima(0, 100, 0, 100), minima(0, 100, 1, 130, 1, 160), minima(0, 100, 1, 130, 2, 130), minima(-5, 100, -5, 130, -4, 160), minima(0, 0, 0, 10000000), minima(-10000, 0, 10000, 0),
		// Cycles or Times that decrease, and both.
		minima(1, 100, 0, 130), minima(0, 130, 1, 100), minima(1, 130, 0, 100), minima(0, 100, 2, 160, 1, 190), minima(0, 100, 1, 190, 2, 160), minima(-1, 100, -2, 130), minima(0, 100, 2, 160, 1, 130), minima(10000, 0, -10000, 10000000), minima(-10000, 10000000, 10000, 0),
		minima(0, 100, 5, 160, 3, 190, 7, 200), minima(0, 100, 5, 190, 6, 160, 7, 200),
		// Several faults.
		minima(-10001, -1), minima(10001, 10000001), minima(10001, -1, -10001, 10000001), minima(math.MinInt64, math.MinInt64, math.MaxInt64, math.MaxInt64), minima(math.MaxInt64, math.MaxInt64, math.MinInt64, math.MinInt64), minima(0, math.MinInt64, 1, math.MaxInt64), minima(math.MinInt64, 0, math.MaxInt64, 1),
	}
	for _, n := range numbers(-20000, -10002, -10001, 10001, 10002) {
		list = append(list, minima(n, 100))
		if n < 0 {
			list = append(list, minima(n, 100, 0, 200))
		} else {
			list = append(list, minima(0, 100, n, 200))
		}
	}
	for _, n := range numbers(-10000, -2, -1, 10000001, 10000002) {
		list = append(list, minima(3, n))
		if n < 0 {
			list = append(list, minima(3, n, 4, 200))
		} else {
			list = append(list, minima(3, 100, 4, n))
		}
	}
	last := evenMinima(ephemeris(100, 30), 0, 1, 50)
	last[49].Time = last[48].Time
	next := evenMinima(ephemeris(100, 30), 0, 1, 50)
	next[49].Cycle = next[48].Cycle
	return append(list, last, next)
}

func keepMinima(t *testing.T, name string, list []impl.Minimum, f func(list []impl.Minimum)) {
	t.Helper()
	keep(t, name, list, impl.Minimum{Cycle: spare, Time: spare}, f)
}

// checkMinima checks what f returns for a list that it must not change, and that it returns it again.
func checkMinima(t *testing.T, name string, list []impl.Minimum, want string, f func(list []impl.Minimum) []any) {
	t.Helper()
	keepMinima(t, name, list, func(list []impl.Minimum) {
		t.Helper()
		same(t, fmt.Sprint(name, " ", list), want, twice(t, name, func() []any { return f(list) })...)
	})
}

func TestConstantsOfEphemerides(t *testing.T) {
	same(t, "constants", "50 10000", impl.MaxMinima, impl.MaxCycle)
}

func TestValidMinima(t *testing.T) {
	valid := func(list []impl.Minimum) []any { return []any{impl.ValidMinima(list)} }
	for _, list := range goodMinima() {
		checkMinima(t, "ValidMinima", list, "true", valid)
		for i := range list {
			checkMinima(t, "ValidMinima", list[i:], "true", valid)
			checkMinima(t, "ValidMinima", list[:i], "true", valid)
		}
	}
	for _, list := range badMinima() {
		checkMinima(t, "ValidMinima", list, "false", valid)
	}
	for i, cycle := range edgeCycles {
		for k, time := range edgeTimes {
			checkMinima(t, "ValidMinima", minima(cycle, time), fmt.Sprint(isCycle(cycle) && isTime(time)), valid)
			two := minima(cycle, time, edgeCycles[k%len(edgeCycles)], edgeTimes[i*7%len(edgeTimes)])
			checkMinima(t, "ValidMinima", two, fmt.Sprint(areMinima(two)), valid)
		}
	}
	// All lists of up to four small minima.
	for i := range 3 * 3 * 3 * 3 * 3 * 3 * 3 * 3 {
		var four []impl.Minimum
		for n := i; len(four) < 4; n /= 9 {
			four = append(four, impl.Minimum{Cycle: int64(len(four) + n%3 - 2), Time: int64(len(four) + n/3%3)})
		}
		for count := range 5 {
			same(t, fmt.Sprint("ValidMinima ", four[:count]), fmt.Sprint(areMinima(four[:count])), impl.ValidMinima(four[:count]))
		}
	}
}

// fitsOf returns what the functions of minima return: the fit, and the ephemeris with its nearest integers.
func fitsOf(list []impl.Minimum) []any {
	epoch, period, one := impl.FitMinima(list)
	e, two := impl.RoundedFit(list)
	return []any{epoch, period, one, e, two}
}

func TestFits(t *testing.T) {
	for _, x := range []struct {
		list []impl.Minimum
		want string
	}{
		// The example, whole numbers, and lists with too few minima.
		{minima(0, 100, 1, 131, 2, 159), "{201 2} {59 2} 0 {101 30} 0"}, {minima(0, 100, 1, 130, 2, 160), "{100 1} {30 1} 0 {100 30} 0"}, {minima(0, 100, 1, 130), "{100 1} {30 1} 0 {100 30} 0"}, {minima(), "{0 0} {0 0} 3 {0 0} 3"}, {minima(0, 100), "{0 0} {0 0} 3 {0 0} 3"},
		{minima(-10000, 0), "{0 0} {0 0} 3 {0 0} 3"}, {minima(10000, 10000000), "{0 0} {0 0} 3 {0 0} 3"},
		// Cycles that are missing, at the front, in the middle and more than once.
		{minima(0, 100, 2, 160, 3, 190), "{100 1} {30 1} 0 {100 30} 0"}, {minima(0, 100, 1, 130, 3, 190), "{100 1} {30 1} 0 {100 30} 0"}, {minima(0, 100, 5, 250, 6, 280, 9, 371), "{8381 84} {632 21} 0 {100 30} 0"}, {minima(0, 100, 1, 131, 7, 310), "{4321 43} {2575 86} 0 {100 30} 0"}, {minima(0, 100, 10, 401), "{100 1} {301 10} 0 {100 30} 0"},
		{minima(0, 7, 100, 3007, 101, 3038), "{70657 10101} {101027 3367} 0 {7 30} 0"},
		// Cycles below 0, around 0 and far from it.
		{minima(-3, 10, -2, 40, -1, 70), "{100 1} {30 1} 0 {100 30} 0"}, {minima(-1, 70, 0, 100, 1, 130), "{100 1} {30 1} 0 {100 30} 0"}, {minima(-5, 1, -4, 2, 5, 12), "{589 91} {201 182} 0 {6 1} 0"}, {minima(-10000, 0, -9999, 1), "{10000 1} {1 1} 0 {10000 1} 0"}, {minima(9999, 0, 10000, 1), "{-9999 1} {1 1} 0 {0 0} 6"},
		{minima(7, 1000, 8, 1010, 9, 1021), "{2779 3} {21 2} 0 {926 11} 0"}, {minima(-9, 1000, -8, 1010, -7, 1021), "{3283 3} {21 2} 0 {1094 11} 0"}, {minima(-1, 0, 1, 1), "{1 2} {1 2} 0 {1 1} 0"}, {minima(-2, 0, -1, 5, 2, 9), "{139 26} {53 26} 0 {5 2} 0"},
		// An epoch below 0, and a whole one there.
		{minima(10, 100, 11, 200), "{-900 1} {100 1} 0 {0 0} 6"}, {minima(3, 0, 4, 1), "{-3 1} {1 1} 0 {0 0} 6"}, {minima(3, 0, 5, 1), "{-3 2} {1 2} 0 {0 0} 6"}, {minima(3, 0, 5, 2, 6, 4), "{-4 1} {9 7} 0 {0 0} 6"}, {minima(1, 1, 2, 3), "{-1 1} {2 1} 0 {0 0} 6"},
		{minima(1, 1, 2, 3, 3, 4), "{-1 3} {3 2} 0 {0 2} 0"}, {minima(100, 17, 101, 40), "{-2283 1} {23 1} 0 {0 0} 6"},
		// Periods just at a half, and beside it.
		{minima(0, 0, 2, 3), "{0 1} {3 2} 0 {0 2} 0"}, {minima(0, 0, 2, 1), "{0 1} {1 2} 0 {0 1} 0"}, {minima(0, 0, 3, 1), "{0 1} {1 3} 0 {0 0} 6"}, {minima(0, 0, 3, 2), "{0 1} {2 3} 0 {0 1} 0"}, {minima(0, 0, 3, 4), "{0 1} {4 3} 0 {0 1} 0"},
		{minima(0, 0, 3, 5), "{0 1} {5 3} 0 {0 2} 0"}, {minima(0, 100, 2, 161), "{100 1} {61 2} 0 {100 31} 0"}, {minima(0, 100, 4, 162), "{100 1} {31 2} 0 {100 16} 0"}, {minima(0, 100, 4, 161), "{100 1} {61 4} 0 {100 15} 0"}, {minima(0, 100, 4, 163), "{100 1} {63 4} 0 {100 16} 0"},
		// Epochs just at a half above 0, and beside it.
		{minima(1, 2, 3, 5), "{1 2} {3 2} 0 {1 2} 0"}, {minima(1, 3, 3, 6), "{3 2} {3 2} 0 {2 2} 0"}, {minima(1, 100, 3, 161), "{139 2} {61 2} 0 {70 31} 0"}, {minima(1, 2, 4, 6), "{2 3} {4 3} 0 {1 1} 0"}, {minima(1, 2, 4, 7), "{1 3} {5 3} 0 {0 2} 0"},
		{minima(-1, 100, 1, 161), "{261 2} {61 2} 0 {131 31} 0"}, {minima(0, 0, 1, 3, 3, 7), "{2 7} {16 7} 0 {0 2} 0"}, {minima(-1, 1, 2, 5), "{7 3} {4 3} 0 {2 1} 0"},
		// Epochs just at a half below 0, which rounds up to 0, and beside it.
		{minima(1, 0, 3, 1), "{-1 2} {1 2} 0 {0 1} 0"}, {minima(1, 1, 3, 4), "{-1 2} {3 2} 0 {0 2} 0"}, {minima(1, 0, 3, 3), "{-3 2} {3 2} 0 {0 0} 6"}, {minima(1, 0, 4, 1), "{-1 3} {1 3} 0 {0 0} 6"}, {minima(1, 0, 4, 2), "{-2 3} {2 3} 0 {0 0} 6"},
		{minima(2, 0, 4, 1), "{-1 1} {1 2} 0 {0 0} 6"}, {minima(1, 2, 3, 7), "{-1 2} {5 2} 0 {0 3} 0"}, {minima(1, 0, 3, 5), "{-5 2} {5 2} 0 {0 0} 6"}, {minima(1, 0, 2, 1), "{-1 1} {1 1} 0 {0 0} 6"},
		// The least and the greatest Epoch and Period, and one more.
		{minima(0, 0, 1, 1), "{0 1} {1 1} 0 {0 1} 0"}, {minima(1, 1, 2, 2), "{0 1} {1 1} 0 {0 1} 0"}, {minima(1, 0, 2, 1), "{-1 1} {1 1} 0 {0 0} 6"}, {minima(0, 0, 1, 1000000), "{0 1} {1000000 1} 0 {0 1000000} 0"}, {minima(0, 0, 1, 1000001), "{0 1} {1000001 1} 0 {0 0} 6"},
		{minima(0, 0, 2, 2000001), "{0 1} {2000001 2} 0 {0 0} 6"}, {minima(0, 0, 3, 3000001), "{0 1} {3000001 3} 0 {0 1000000} 0"}, {minima(0, 0, 3, 3000002), "{0 1} {3000002 3} 0 {0 0} 6"}, {minima(-1, 9999999, 0, 10000000), "{10000000 1} {1 1} 0 {10000000 1} 0"}, {minima(-2, 9999998, -1, 9999999), "{10000000 1} {1 1} 0 {10000000 1} 0"},
		{minima(-2, 9999999, -1, 10000000), "{10000001 1} {1 1} 0 {0 0} 6"}, {minima(-3, 9999996, -1, 9999999), "{20000001 2} {3 2} 0 {0 0} 6"}, {minima(-4, 9999995, -1, 9999999), "{30000001 3} {4 3} 0 {10000000 1} 0"}, {minima(-4, 9999994, -1, 9999999), "{30000002 3} {5 3} 0 {0 0} 6"}, {minima(0, 9000000, 1, 10000000), "{9000000 1} {1000000 1} 0 {9000000 1000000} 0"},
		{minima(0, 0, 10, 10000000), "{0 1} {1000000 1} 0 {0 1000000} 0"}, {minima(0, 0, 1, 10000000), "{0 1} {10000000 1} 0 {0 0} 6"}, {minima(-1, 8000000, 0, 9000000), "{9000000 1} {1000000 1} 0 {9000000 1000000} 0"}, {minima(-2, 8000000, -1, 9000000), "{10000000 1} {1000000 1} 0 {10000000 1000000} 0"}, {minima(-2, 8000001, -1, 9000001), "{10000001 1} {1000000 1} 0 {0 0} 6"},
		// Cycles that differ by just 1000, and by 1001.
		{minima(0, 0, 1000, 10000000), "{0 1} {10000 1} 0 {0 10000} 0"}, {minima(0, 0, 1001, 10000000), "{0 0} {0 0} 5 {0 0} 5"}, {minima(0, 0, 1000, 999), "{0 1} {999 1000} 0 {0 1} 0"}, {minima(0, 0, 1000, 1000), "{0 1} {1 1} 0 {0 1} 0"}, {minima(0, 0, 1000, 500), "{0 1} {1 2} 0 {0 1} 0"},
		{minima(0, 0, 1000, 501), "{0 1} {501 1000} 0 {0 1} 0"}, {minima(-500, 0, 500, 10000000), "{5000000 1} {10000 1} 0 {5000000 10000} 0"}, {minima(-500, 0, 501, 10000000), "{0 0} {0 0} 5 {0 0} 5"}, {minima(-10000, 0, -9000, 10000000), "{100000000 1} {10000 1} 0 {0 0} 6"}, {minima(9000, 0, 10000, 10000000), "{-90000000 1} {10000 1} 0 {0 0} 6"},
		{minima(-10000, 0, -9000, 1), "{10 1} {1 1000} 0 {0 0} 6"}, {minima(9000, 0, 10000, 1), "{-9 1} {1 1000} 0 {0 0} 6"}, {minima(9000, 9999999, 10000, 10000000), "{9999990 1} {1 1000} 0 {0 0} 6"}, {minima(-10000, 9999999, -9000, 10000000), "{10000009 1} {1 1000} 0 {0 0} 6"}, {minima(0, 0, 1, 5, 1000, 9000), "{-1998000 999001} {8993005 999001} 0 {0 0} 6"},
		{minima(0, 0, 1, 5, 1001, 9000), "{0 0} {0 0} 5 {0 0} 5"}, {minima(0, 0, 999, 5, 1000, 9000), "{-4493000 999001} {4506995 999001} 0 {0 0} 6"}, {minima(-10000, 0, 10000, 10000000), "{0 0} {0 0} 5 {0 0} 5"}, {minima(0, 5, 1001, 7), "{0 0} {0 0} 5 {0 0} 5"}, {minima(-1, 5, 1000, 7), "{0 0} {0 0} 5 {0 0} 5"},
		// Just MaxMinima minima, and one more; all of them on a line, and not.
		{evenMinima(ephemeris(100, 30), 0, 1, 50), "{100 1} {30 1} 0 {100 30} 0"}, {evenMinima(ephemeris(100, 30), 0, 1, 51), "{0 0} {0 0} 1 {0 0} 1"}, {evenMinima(ephemeris(100, 30), -3, 13, 50), "{100 1} {30 1} 0 {100 30} 0"}, {evenMinima(ephemeris(0, 10000), 0, 20, 50), "{0 1} {10000 1} 0 {0 10000} 0"},
		{evenMinima(ephemeris(0, 10000), 0, 21, 48), "{0 1} {10000 1} 0 {0 10000} 0"}, {evenMinima(ephemeris(0, 9000), 0, 21, 49), "{0 0} {0 0} 5 {0 0} 5"}, {evenMinima(ephemeris(10000000, 1), -1000, 20, 50), "{10000000 1} {1 1} 0 {10000000 1} 0"}, {evenMinima(ephemeris(-5, 1), 5, 1, 50), "{-5 1} {1 1} 0 {0 0} 6"},
		// Lists that are not valid: one by one fault each, and also too short ones, or with Cycles too far from one another.
		{minima(0, 100, 0, 131), "{0 0} {0 0} 1 {0 0} 1"}, {minima(0, 100, 1, 100), "{0 0} {0 0} 1 {0 0} 1"}, {minima(1, 100, 0, 131), "{0 0} {0 0} 1 {0 0} 1"}, {minima(0, 131, 1, 100), "{0 0} {0 0} 1 {0 0} 1"}, {minima(10001, 5), "{0 0} {0 0} 1 {0 0} 1"}, {minima(-10001, 5), "{0 0} {0 0} 1 {0 0} 1"},
		{minima(0, -1), "{0 0} {0 0} 1 {0 0} 1"}, {minima(0, 10000001), "{0 0} {0 0} 1 {0 0} 1"}, {minima(0, 5, 5000, 5), "{0 0} {0 0} 1 {0 0} 1"}, {minima(-10001, 0, 10000, 10000000), "{0 0} {0 0} 1 {0 0} 1"}, {minima(5000, 5, 0, 6), "{0 0} {0 0} 1 {0 0} 1"}, {minima(math.MinInt64, 0, math.MaxInt64, 1), "{0 0} {0 0} 1 {0 0} 1"}, {minima(0, math.MinInt64, 1, math.MaxInt64), "{0 0} {0 0} 1 {0 0} 1"},
	} {
		checkMinima(t, "fits", x.list, x.want, fitsOf)
	}
}

// bestLine finds the epoch and the period by the differences from the means; it is for at least two good minima.
func bestLine(list []impl.Minimum) (*big.Rat, *big.Rat) {
	cycle, time := new(big.Rat), new(big.Rat)
	for _, m := range list {
		cycle.Add(cycle, big.NewRat(m.Cycle, int64(len(list))))
		time.Add(time, big.NewRat(m.Time, int64(len(list))))
	}
	rise, run := new(big.Rat), new(big.Rat)
	for _, m := range list {
		right, up := new(big.Rat).Sub(ratOf(m.Cycle), cycle), new(big.Rat).Sub(ratOf(m.Time), time)
		rise.Add(rise, up.Mul(up, right))
		run.Add(run, new(big.Rat).Mul(right, right))
	}
	period := rise.Quo(rise, run)
	return time.Sub(time, new(big.Rat).Mul(period, cycle)), period
}

func isEphemeris(e impl.Ephemeris) bool { return isTime(e.Epoch) && between(e.Period, 1, 1_000_000) }

func fitsWanted(list []impl.Minimum) string {
	code := 0
	switch {
	case !areMinima(list):
		code = 1
	case len(list) < 2:
		code = 3
	case list[len(list)-1].Cycle-list[0].Cycle > 1000:
		code = 5
	}
	if code != 0 {
		return fmt.Sprintf("{0 0} {0 0} %d {0 0} %d", code, code)
	}
	epoch, period := bestLine(list)
	e, code := ephemeris(nearestOf(epoch), nearestOf(period)), 0
	if !isEphemeris(e) {
		e, code = impl.Ephemeris{}, 6
	}
	text := func(x *big.Rat) string { return fmt.Sprintf("{%v %v}", x.Num(), x.Denom()) }
	return fmt.Sprint(text(epoch), " ", text(period), " 0 ", e, " ", code)
}

func TestFitsForAllArguments(t *testing.T) {
	ends := map[string]int{}
	check := func(list []impl.Minimum) {
		want := fitsWanted(list)
		checkMinima(t, "fits", list, want, fitsOf)
		ends[want[len(want)-1:]]++
	}
	for _, list := range slices.Concat(goodMinima(), badMinima()) {
		check(list)
	}
	for seed := range uint64(3000) {
		check(diceMinima(seed))
	}
	// The farthest Cycles and the steepest fits there are.
	for count := range int64(49) {
		for _, first := range []int64{-10000, -9999, -1000, -500, 0, 8999, 9000} {
			check(bentMinima(first, first+1000, count+2))
			check(bentMinima(first, first+1000-count*17, count+2))
		}
	}
	// All lists of two and three small minima.
	for i := range 5 * 4 * 4 * 4 * 4 {
		first, gaps := int64(i%5-3), i/5
		one, two := int64(1+gaps%4), int64(1+gaps/4%4)
		three := minima(first, 2, first+one, 2+int64(1+gaps/16%4), first+one+two, 9+int64(gaps/64))
		check(three)
		check(three[:2])
		check(three[1:])
	}
	if ends["0"] < 1000 || ends["1"] < 50 || ends["3"] < 5 || ends["5"] < 100 || ends["6"] < 100 {
		t.Errorf("only few fits of a kind: %v", ends)
	}
}

// TestDeviationsHaveTheSumZero is the first half of promise 13. With the sum of the products with
// the Cycles, which is 0 as well, no other line has lesser squares.
func TestDeviationsHaveTheSumZero(t *testing.T) {
	fits := 0
	check := func(list []impl.Minimum) {
		epoch, period, code := impl.FitMinima(list)
		if code != impl.OK {
			return
		}
		fits++
		sum, moment := new(big.Rat), new(big.Rat)
		for _, m := range list {
			deviation := new(big.Rat).Mul(big.NewRat(period.Num, period.Den), ratOf(-m.Cycle))
			deviation.Add(deviation, ratOf(m.Time)).Sub(deviation, big.NewRat(epoch.Num, epoch.Den))
			sum.Add(sum, deviation)
			moment.Add(moment, deviation.Mul(deviation, ratOf(m.Cycle)))
		}
		same(t, fmt.Sprint("sums of the deviations of ", list), "0/1 0/1", sum, moment)
	}
	for _, list := range goodMinima() {
		check(list)
	}
	for seed := range uint64(2000) {
		check(diceMinima(seed + 5000))
	}
	if fits < 1000 {
		t.Errorf("only %d fits", fits)
	}
}

// TestFitsAreShifted fits minima with other Cycles and other Times.
func TestFitsAreShifted(t *testing.T) {
	found := 0
	for seed := range uint64(300) {
		list := diceMinima(seed)
		epoch, period := impl.Fraction{}, impl.Fraction{}
		if areMinima(list) {
			epoch, period, _ = impl.FitMinima(list)
		}
		if period.Den == 0 {
			continue
		}
		for _, by := range []int64{-700, -1, 1, 30, 9000} {
			moved, code := impl.ShiftCycles(list, by)
			if code != impl.OK {
				continue
			}
			found++
			other := new(big.Rat).Mul(big.NewRat(period.Num, period.Den), ratOf(-by))
			other.Add(other, big.NewRat(epoch.Num, epoch.Den))
			one, two, code := impl.FitMinima(moved)
			same(t, fmt.Sprint("fit ", moved), fmt.Sprintf("{%v %v} %v 0", other.Num(), other.Denom(), period), one, two, code)
		}
	}
	if found < 300 {
		t.Errorf("only %d fits", found)
	}
}

// residualsOf returns what the functions of minima and an ephemeris return.
func residualsOf(list []impl.Minimum, e impl.Ephemeris) []any {
	residuals, one := impl.ResidualsOf(list, e)
	squares, two := impl.SquaresOf(list, e)
	worst, three := impl.WorstMinimum(list, e)
	return []any{residuals, one, squares, two, worst, three}
}

func TestResiduals(t *testing.T) {
	e := ephemeris(101, 30)
	for _, x := range []struct {
		list []impl.Minimum
		e    impl.Ephemeris
		want string
	}{
		{exampleMinima(), e, "[-1 0 -2] 0 5 0 2 0"}, {exampleMinima(), ephemeris(100, 30), "[0 1 -1] 0 2 0 1 0"}, {exampleMinima(), ephemeris(100, 29), "[0 2 1] 0 5 0 1 0"}, {exampleMinima(), ephemeris(0, 1), "[100 130 157] 0 51549 0 2 0"}, {minima(0, 101), e, "[0] 0 0 0 0 0"},
		{nil, e, "[] 0 0 0 0 3"}, {[]impl.Minimum{}, e, "[] 0 0 0 0 3"}, {minima(0, 0), e, "[-101] 0 10201 0 0 0"}, {minima(0, 102), e, "[1] 0 1 0 0 0"}, {evenMinima(e, -3, 1, 50), e, fmt.Sprint(make([]int64, 50), " 0 0 0 0 0")},
		// Cycles that are missing, and Cycles below 0.
		{minima(0, 101, 2, 161, 7, 310, 8, 341), e, "[0 0 -1 0] 0 1 0 2 0"}, {minima(-3, 11, -2, 42, 0, 101, 5, 249), e, "[0 1 0 -2] 0 5 0 3 0"}, {minima(-1, 71, 1, 131), e, "[0 0] 0 0 0 0 0"}, {minima(-1, 101), e, "[30] 0 900 0 0 0"}, {minima(1, 101), e, "[-30] 0 900 0 0 0"},
		// The same greatest absolute residual more than once, of the same and of different signs.
		{minima(0, 103, 1, 133), e, "[2 2] 0 8 0 0 0"}, {minima(0, 99, 1, 129), e, "[-2 -2] 0 8 0 0 0"}, {minima(0, 99, 1, 133), e, "[-2 2] 0 8 0 0 0"}, {minima(0, 103, 1, 129), e, "[2 -2] 0 8 0 0 0"}, {minima(0, 102, 1, 133, 2, 159, 3, 193), e, "[1 2 -2 2] 0 13 0 1 0"}, {minima(0, 102, 1, 129, 2, 163, 3, 189), e, "[1 -2 2 -2] 0 13 0 1 0"},
		{minima(0, 100, 1, 132, 2, 160), e, "[-1 1 -1] 0 3 0 0 0"}, {minima(0, 102, 1, 130, 2, 164), e, "[1 -1 3] 0 11 0 2 0"}, {minima(0, 102, 1, 130, 2, 158), e, "[1 -1 -3] 0 11 0 2 0"}, {minima(0, 98, 1, 133, 2, 161), e, "[-3 2 0] 0 13 0 0 0"}, {minima(0, 104, 1, 129, 2, 161), e, "[3 -2 0] 0 13 0 0 0"}, {minima(0, 99, 1, 134, 2, 158), e, "[-2 3 -3] 0 22 0 1 0"},
		// Residuals of just 10^6 and -10^6, and one beyond each.
		{minima(0, 1000101), e, "[1000000] 0 1000000000000 0 0 0"}, {minima(0, 1000102), e, "[1000001] 0 0 5 0 0"}, {minima(0, 1000000), ephemeris(2000000, 30), "[-1000000] 0 1000000000000 0 0 0"}, {minima(0, 999999), ephemeris(2000000, 30), "[-1000001] 0 0 5 0 0"}, {minima(1, 1), ephemeris(1, 1000000), "[-1000000] 0 1000000000000 0 0 0"},
		{minima(1, 0), ephemeris(1, 1000000), "[-1000001] 0 0 5 0 0"}, {minima(-1, 1), ephemeris(1, 1000000), "[1000000] 0 1000000000000 0 0 0"}, {minima(-1, 2), ephemeris(1, 1000000), "[1000001] 0 0 5 0 0"}, {minima(0, 101, 1, 1000132), e, "[0 1000001] 0 0 5 1 0"}, {minima(-1, 1000072, 0, 1000101), e, "[1000001 1000000] 0 0 5 0 0"}, {minima(0, 0, 1, 2000000), ephemeris(1000000, 1), "[-1000000 999999] 0 1999998000001 0 0 0"},
		{minima(0, 0, 1, 2000002), ephemeris(1000000, 1), "[-1000000 1000001] 0 0 5 1 0"}, {minima(0, 0, 1, 2000001), ephemeris(1000000, 1), "[-1000000 1000000] 0 2000000000000 0 0 0"}, {minima(0, 0, 1, 2, 2, 4), ephemeris(1000001, 1), "[-1000001 -1000000 -999999] 0 0 5 0 0"},
		// Residuals far beyond that, with the least and the greatest numbers there are.
		{minima(10000, 0), ephemeris(10000000, 1000000), "[-10010000000] 0 0 5 0 0"}, {minima(-10000, 10000000), ephemeris(0, 1000000), "[10010000000] 0 0 5 0 0"}, {minima(-10000, 0, 10000, 10000000), ephemeris(0, 1000000), "[10000000000 -9990000000] 0 0 5 0 0"}, {minima(-10000, 0, 10000, 10000000), ephemeris(10000000, 1000000), "[9990000000 -10000000000] 0 0 5 1 0"},
		{minima(-10000, 0, 10000, 10000000), ephemeris(5000000, 1), "[-4990000 4990000] 0 0 5 0 0"}, {minima(-10000, 0, 10000, 10000000), ephemeris(5000000, 500), "[0 0] 0 0 0 0 0"}, {minima(-10000, 9999999, 10000, 10000000), ephemeris(9000000, 90), "[1899999 100000] 0 0 5 0 0"},
		// Minima or an ephemeris that are not valid.
		{minima(0, 100, 0, 131), e, "[] 1 0 1 0 1"}, {minima(0, 100, 1, 100), e, "[] 1 0 1 0 1"}, {minima(0, -1), e, "[] 1 0 1 0 1"}, {minima(10001, 5), e, "[] 1 0 1 0 1"}, {evenMinima(e, 0, 1, 51), e, "[] 1 0 1 0 1"}, {exampleMinima(), impl.Ephemeris{}, "[] 1 0 1 0 1"}, {exampleMinima(), ephemeris(-1, 30), "[] 1 0 1 0 1"}, {exampleMinima(), ephemeris(10000001, 30), "[] 1 0 1 0 1"},
		{exampleMinima(), ephemeris(100, 0), "[] 1 0 1 0 1"}, {exampleMinima(), ephemeris(100, 1000001), "[] 1 0 1 0 1"}, {nil, impl.Ephemeris{}, "[] 1 0 1 0 1"}, {nil, ephemeris(100, -1), "[] 1 0 1 0 1"}, {minima(0, 10000000), ephemeris(-1, 30), "[] 1 0 1 0 1"}, {minima(math.MinInt64, math.MaxInt64), ephemeris(math.MaxInt64, math.MinInt64), "[] 1 0 1 0 1"},
	} {
		checkMinima(t, fmt.Sprint("residuals ", x.e), x.list, x.want, func(list []impl.Minimum) []any { return residualsOf(list, x.e) })
	}
}

// residualsWanted counts the absolute residuals that are greater than each one.
func residualsWanted(list []impl.Minimum, e impl.Ephemeris) string {
	if !areMinima(list) || !isEphemeris(e) {
		return "[] 1 0 1 0 1"
	}
	residuals, sizes, squares := []int64{}, []int64{}, new(big.Int)
	for _, m := range list {
		r := new(big.Int).Mul(big.NewInt(m.Cycle), big.NewInt(-e.Period))
		r.Add(r, big.NewInt(m.Time)).Sub(r, big.NewInt(e.Epoch))
		residuals, sizes = append(residuals, r.Int64()), append(sizes, new(big.Int).Abs(r).Int64())
		squares.Add(squares, r.Mul(r, r))
	}
	if len(list) == 0 {
		return "[] 0 0 0 0 3"
	}
	most, sum := slices.Max(sizes), fmt.Sprint(squares, " 0")
	if most > 1_000_000 {
		sum = "0 5"
	}
	return fmt.Sprint(residuals, " 0 ", sum, " ", slices.Index(sizes, most), " 0")
}

func TestResidualsForAllArguments(t *testing.T) {
	seen := map[string]int{}
	check := func(list []impl.Minimum, e impl.Ephemeris) {
		want := residualsWanted(list, e)
		checkMinima(t, fmt.Sprint("residuals ", e), list, want, func(list []impl.Minimum) []any { return residualsOf(list, e) })
		var squares, code, worst int64
		fmt.Sscanf(want[1+slices.Index([]byte(want), ']'):], "%d %d %d %d", new(int64), &squares, &code, &worst)
		seen[fmt.Sprint("code ", code)]++
		if worst > 0 && worst < int64(len(list))-1 {
			seen["worst in between"]++
		}
	}
	for i, list := range goodMinima() {
		for k, e := range goodEphemerides() {
			if (i+k)%2 == 0 || len(list) < 10 {
				check(list, e)
			}
		}
		if e, code := impl.RoundedFit(list); code == impl.OK {
			check(list, e)
		}
		for _, e := range badEphemerides() {
			check(list, e)
		}
	}
	for i, list := range badMinima() {
		check(list, goodEphemerides()[i%20])
		check(list, badEphemerides()[i%20])
	}
	for seed := range uint64(1000) {
		list := diceMinima(seed + 9000)
		e, code := impl.RoundedFit(list)
		if code == impl.OK {
			check(list, e)
			check(list, ephemeris(e.Epoch/2, e.Period))
		}
	}
	if seen["code 0"] < 500 || seen["code 5"] < 500 || seen["worst in between"] < 300 {
		t.Errorf("only few residuals of a kind: %v", seen)
	}
}

// checkAssigned checks the minima of some times, which must not be changed.
func checkAssigned(t *testing.T, times []int64, e impl.Ephemeris, most int64, want string) {
	t.Helper()
	keepList(t, "AssignCycles", times, func(times []int64) {
		t.Helper()
		same(t, fmt.Sprint("AssignCycles ", times, e, most), want, twice(t, "AssignCycles", func() []any {
			list, code := impl.AssignCycles(times, e, most)
			return []any{list, code}
		})...)
	})
}

func TestAssignCycles(t *testing.T) {
	e, wide := ephemeris(101, 30), ephemeris(5000, 1000)
	for _, x := range []struct {
		times []int64
		e     impl.Ephemeris
		most  int64
		want  string
	}{
		{[]int64{100, 131, 159}, e, 5, "[{0 100} {1 131} {2 159}] 0"}, {[]int64{100, 131, 159}, e, 2, "[{0 100} {1 131} {2 159}] 0"}, {[]int64{100, 131, 159}, e, 1, "[] 9"}, {nil, e, 5, "[] 0"}, {[]int64{}, e, 0, "[] 0"}, {[]int64{101}, e, 0, "[{0 101}] 0"}, {[]int64{131}, e, 0, "[{1 131}] 0"},
		// Cycles that are missing, and times before the epoch.
		{[]int64{101, 191, 401}, e, 0, "[{0 101} {3 191} {10 401}] 0"}, {[]int64{11, 72, 101, 220}, e, 1, "[{-3 11} {-1 72} {0 101} {4 220}] 0"}, {[]int64{71}, e, 0, "[{-1 71}] 0"}, {[]int64{70}, e, 1, "[{-1 70}] 0"}, {[]int64{72}, e, 1, "[{-1 72}] 0"}, {[]int64{0}, e, 30, "[{-3 0}] 0"}, {[]int64{0, 1000, 5000, 10000000}, wide, 0, "[{-5 0} {-4 1000} {0 5000} {9995 10000000}] 0"},
		// Just half a period from two extrema, before and behind the epoch, and one beside it.
		{[]int64{116}, e, 15, "[{1 116}] 0"}, {[]int64{116}, e, 14, "[] 9"}, {[]int64{115}, e, 14, "[{0 115}] 0"}, {[]int64{117}, e, 14, "[{1 117}] 0"}, {[]int64{86}, e, 15, "[{0 86}] 0"}, {[]int64{86}, e, 14, "[] 9"}, {[]int64{85}, e, 14, "[{-1 85}] 0"}, {[]int64{87}, e, 14, "[{0 87}] 0"}, {[]int64{56}, e, 15, "[{-1 56}] 0"}, {[]int64{55}, e, 15, "[{-2 55}] 0"},
		{[]int64{0, 1}, ephemeris(3, 2), 1, "[] 6"}, {[]int64{3, 4}, ephemeris(3, 2), 1, "[{0 3} {1 4}] 0"}, {[]int64{4, 5}, ephemeris(3, 2), 1, "[] 6"}, {[]int64{4}, ephemeris(3, 2), 0, "[] 9"}, {[]int64{0, 2}, ephemeris(3, 2), 1, "[{-1 0} {0 2}] 0"},
		// An odd period has no time just in the middle.
		{[]int64{101, 102, 103}, ephemeris(101, 3), 1, "[] 6"}, {[]int64{102}, ephemeris(101, 3), 1, "[{0 102}] 0"}, {[]int64{103}, ephemeris(101, 3), 1, "[{1 103}] 0"}, {[]int64{100}, ephemeris(101, 3), 1, "[{0 100}] 0"}, {[]int64{99}, ephemeris(101, 3), 1, "[{-1 99}] 0"}, {[]int64{102}, ephemeris(101, 3), 0, "[] 9"},
		// Residuals of just most, and of one more, before and behind an extremum; only one of several.
		{[]int64{104}, e, 3, "[{0 104}] 0"}, {[]int64{105}, e, 3, "[] 9"}, {[]int64{98}, e, 3, "[{0 98}] 0"}, {[]int64{97}, e, 3, "[] 9"}, {[]int64{101, 131, 165}, e, 3, "[] 9"}, {[]int64{97, 131, 161}, e, 3, "[] 9"}, {[]int64{101, 135, 161}, e, 3, "[] 9"}, {[]int64{101, 134, 158}, e, 3, "[{0 101} {1 134} {2 158}] 0"}, {[]int64{102}, e, 0, "[] 9"}, {[]int64{100}, e, 0, "[] 9"},
		{[]int64{500000}, ephemeris(0, 1000000), 500000, "[{1 500000}] 0"}, {[]int64{500000}, ephemeris(0, 1000000), 499999, "[] 9"}, {[]int64{499999}, ephemeris(0, 1000000), 499999, "[{0 499999}] 0"}, {[]int64{500000}, ephemeris(0, 1000000), 1000000, "[{1 500000}] 0"},
		// Two times with the same nearest cycle, alone and beside residuals that are too great.
		{[]int64{101, 102}, e, 5, "[] 6"}, {[]int64{90, 101}, e, 15, "[] 6"}, {[]int64{101, 131, 140, 161}, e, 15, "[] 6"}, {[]int64{86, 115}, e, 15, "[] 6"}, {[]int64{115, 116}, e, 15, "[{0 115} {1 116}] 0"}, {[]int64{101, 102}, e, 0, "[] 9"}, {[]int64{101, 102, 110}, e, 5, "[] 9"}, {[]int64{101, 102, 161}, e, 1, "[] 6"},
		// Cycles of just MaxCycle and -MaxCycle, and beyond them, alone and beside residuals that are too great.
		{[]int64{10000}, ephemeris(0, 1), 0, "[{10000 10000}] 0"}, {[]int64{10001}, ephemeris(0, 1), 0, "[] 6"}, {[]int64{300101}, e, 0, "[{10000 300101}] 0"}, {[]int64{300115}, e, 15, "[{10000 300115}] 0"}, {[]int64{300116}, e, 15, "[] 6"}, {[]int64{300116}, e, 14, "[] 9"}, {[]int64{9990000}, ephemeris(10000000, 1), 0, "[{-10000 9990000}] 0"}, {[]int64{9989999}, ephemeris(10000000, 1), 0, "[] 6"},
		{[]int64{9700000}, ephemeris(10000000, 30), 0, "[{-10000 9700000}] 0"}, {[]int64{9699985}, ephemeris(10000000, 30), 15, "[{-10000 9699985}] 0"}, {[]int64{9699984}, ephemeris(10000000, 30), 15, "[] 6"}, {[]int64{9699984}, ephemeris(10000000, 30), 13, "[] 9"}, {[]int64{0, 10000000}, ephemeris(0, 1), 0, "[] 6"}, {[]int64{0}, ephemeris(10000000, 1), 0, "[] 6"}, {[]int64{0, 10000}, ephemeris(0, 1), 0, "[{0 0} {10000 10000}] 0"},
		// Just MaxMinima times, and one more; the least and the greatest time.
		{listOf(101, 30, 50), e, 0, "[" + cyclesText(50) + "] 0"}, {listOf(101, 30, 51), e, 0, "[] 2"}, {[]int64{0}, ephemeris(0, 1000000), 0, "[{0 0}] 0"}, {[]int64{10000000}, ephemeris(0, 1000000), 0, "[{10 10000000}] 0"}, {[]int64{0, 10000000}, ephemeris(0, 1000), 0, "[{0 0} {10000 10000000}] 0"}, {[]int64{0, 10000000}, ephemeris(10000000, 1000), 0, "[{-10000 0} {0 10000000}] 0"},
		// Errors, and their order: the ephemeris, then the times and most, then residuals, then the minima.
		{[]int64{-1}, e, 5, "[] 2"}, {[]int64{10000001}, e, 5, "[] 2"}, {[]int64{-1, 101}, e, 5, "[] 2"}, {[]int64{101, 10000001}, e, 5, "[] 2"}, {[]int64{101, 101}, e, 5, "[] 2"}, {[]int64{131, 101}, e, 5, "[] 2"}, {[]int64{101, 161, 131}, e, 5, "[] 2"}, {[]int64{101, 131, 131}, e, 5, "[] 2"}, {[]int64{101}, e, -1, "[] 2"}, {[]int64{101}, e, 1000001, "[] 2"}, {nil, e, -1, "[] 2"}, {nil, e, 1000001, "[] 2"},
		{[]int64{101}, e, 1000000, "[{0 101}] 0"}, {[]int64{105, -1}, e, 3, "[] 2"}, {[]int64{105, 10000001}, e, 3, "[] 2"}, {[]int64{105, 105}, e, 3, "[] 2"}, {[]int64{105}, e, -1, "[] 2"}, {[]int64{math.MinInt64}, e, 5, "[] 2"}, {[]int64{math.MaxInt64}, e, 5, "[] 2"}, {[]int64{101}, e, math.MinInt64, "[] 2"}, {[]int64{101}, e, math.MaxInt64, "[] 2"}, {[]int64{math.MinInt64, math.MaxInt64}, e, 1000000, "[] 2"},
		{[]int64{101}, ephemeris(-1, 30), 5, "[] 1"}, {[]int64{101}, ephemeris(10000001, 30), 5, "[] 1"}, {[]int64{101}, ephemeris(101, 0), 5, "[] 1"}, {[]int64{101}, ephemeris(101, -30), 5, "[] 1"}, {[]int64{101}, ephemeris(101, 1000001), 5, "[] 1"}, {nil, impl.Ephemeris{}, 0, "[] 1"}, {[]int64{-1}, impl.Ephemeris{}, -1, "[] 1"}, {listOf(0, 1, 51), ephemeris(-1, 1), 5, "[] 1"}, {[]int64{math.MaxInt64}, ephemeris(math.MinInt64, math.MinInt64), math.MaxInt64, "[] 1"},
	} {
		checkAssigned(t, x.times, x.e, x.most, x.want)
	}
}

// cyclesText is the text of count minima of 101 + 30 * E.
func cyclesText(count int) string {
	text := ""
	for i := range count {
		if i > 0 {
			text += " "
		}
		text += fmt.Sprintf("{%d %d}", i, 101+30*i)
	}
	return text
}

func assignedWanted(times []int64, e impl.Ephemeris, most int64) string {
	if !isEphemeris(e) {
		return "[] 1"
	}
	for i, time := range times {
		if !isTime(time) || i > 0 && time <= times[i-1] {
			return "[] 2"
		}
	}
	if len(times) > 50 || !between(most, 0, 1_000_000) {
		return "[] 2"
	}
	list := []impl.Minimum{}
	for _, time := range times {
		cycle := nearestOf(big.NewRat(time-e.Epoch, e.Period))
		if at := e.Epoch + cycle*e.Period; !between(time, at-most, at+most) {
			return "[] 9"
		}
		list = append(list, impl.Minimum{Cycle: cycle, Time: time})
	}
	if !areMinima(list) {
		return "[] 6"
	}
	return fmt.Sprint(list, " 0")
}

func TestAssignCyclesForAllArguments(t *testing.T) {
	codes := map[string]int{}
	check := func(times []int64, e impl.Ephemeris, most int64) {
		want := assignedWanted(times, e, most)
		checkAssigned(t, times, e, most, want)
		codes[want[len(want)-1:]]++
	}
	for i, e := range slices.Concat(goodEphemerides(), badEphemerides()) {
		for k, most := range edgeResiduals {
			check([]int64{edgeTimes[(i+k)%len(edgeTimes)]}, e, most)
			check([]int64{edgeTimes[(i+k)%len(edgeTimes)], edgeTimes[i*k%len(edgeTimes)]}, e, most)
			check(listOf(max(e.Epoch-int64(k), 0), max(e.Period, 1), int64(45+i%8)), e, most)
			for _, list := range goodMinima()[k%3*20 : k%3*20+20] {
				var times []int64
				for _, m := range list {
					times = append(times, m.Time)
				}
				check(times, e, most)
			}
		}
	}
	// All times around some extrema, of odd and even periods, and the middles between each two.
	for _, e := range goodEphemerides() {
		for _, time := range timesAround(e) {
			for _, most := range []int64{0, 1, e.Period/2 - 1, e.Period / 2, e.Period/2 + 1} {
				check([]int64{time}, e, most)
			}
		}
	}
	for i := range int64(100) {
		for _, period := range []int64{1, 2, 3, 4, 7, 10} {
			for most := range int64(6) {
				check([]int64{i}, ephemeris(50, period), most)
				check([]int64{i, i + 1 + most}, ephemeris(50, period), most)
			}
		}
	}
	if codes["0"] < 1000 || codes["1"] < 100 || codes["2"] < 300 || codes["6"] < 100 || codes["9"] < 1000 {
		t.Errorf("only few lists of a kind: %v", codes)
	}
}

// TestCyclesOfNearTimesAreFound is the second half of promise 13. A time is nearest to a cycle
// from half a period before it on, and less than half a period behind it.
func TestCyclesOfNearTimesAreFound(t *testing.T) {
	r := rand.New(rand.NewPCG(13, 13))
	lists := 0
	for i := range 3000 {
		period := []int64{1, 2, 3, 30, 31, 1000, 99_999}[i%7]
		e := ephemeris(r.Int64N(10_000_001), period)
		if i%3 == 0 {
			e.Epoch = r.Int64N(1000)
		}
		cycle := max(-10000, -e.Epoch/period) + r.Int64N(20)
		most, want := int64(0), []impl.Minimum{}
		var times []int64
		for range 1 + r.IntN(50) {
			by := -period/2 + r.Int64N(period)
			time := e.Epoch + cycle*period + by
			if isTime(time) && isCycle(cycle) && (len(times) == 0 || times[len(times)-1] < time) {
				times, want, most = append(times, time), append(want, impl.Minimum{Cycle: cycle, Time: time}), max(most, by, -by)
			}
			cycle += 1 + r.Int64N(int64(1+i%5))
		}
		checkAssigned(t, times, e, most, fmt.Sprint(want, " 0"))
		if most > 0 {
			checkAssigned(t, times, e, most-1, "[] 9")
		}
		if len(times) > 1 {
			lists++
		}
	}
	if lists < 1500 {
		t.Errorf("only %d lists", lists)
	}
}

// TestFittedMinimaKeepTheirCycles assigns the Cycles of minima by their own fit.
func TestFittedMinimaKeepTheirCycles(t *testing.T) {
	for _, e := range []impl.Ephemeris{ephemeris(100, 30), ephemeris(0, 1), ephemeris(700, 2), ephemeris(100000, 1000), ephemeris(10000000, 1)} {
		for _, step := range []int64{1, 2, 7, 20} {
			list := evenMinima(e, -min(e.Epoch/e.Period, 3), step, 50)
			if e.Epoch == 10_000_000 {
				list = evenMinima(e, -50*step, step, 50)
			}
			own, code := impl.RoundedFit(list)
			var times []int64
			for _, m := range list {
				times = append(times, m.Time)
			}
			same(t, fmt.Sprint("fit ", list), fmt.Sprint(e, " 0"), own, code)
			checkAssigned(t, times, own, 0, fmt.Sprint(list, " 0"))
		}
	}
}

func periodOf(a, b impl.Minimum) []any {
	period, code := impl.PeriodBetween(a, b)
	return []any{period, code}
}

func TestPeriodBetween(t *testing.T) {
	for _, x := range []struct {
		two  []impl.Minimum
		want string
	}{
		{minima(0, 100, 2, 159), "{59 2} 0"}, {minima(0, 100, 1, 131), "{31 1} 0"}, {minima(1, 131, 2, 159), "{28 1} 0"}, {minima(0, 100, 5, 250), "{30 1} 0"}, {minima(0, 100, 7, 310), "{30 1} 0"}, {minima(0, 100, 4, 210), "{55 2} 0"}, {minima(-5, 100, 4, 131), "{31 9} 0"}, {minima(-5, 100, -2, 130), "{10 1} 0"}, {minima(-1, 0, 1, 1), "{1 2} 0"},
		// b before a: by its Cycle, by its Time, and by both.
		{minima(2, 100, 0, 159), "{-59 2} 0"}, {minima(0, 159, 2, 100), "{-59 2} 0"}, {minima(2, 159, 0, 100), "{59 2} 0"}, {minima(5, 100, 0, 250), "{-30 1} 0"}, {minima(5, 250, 0, 100), "{30 1} 0"}, {minima(-2, 130, -5, 100), "{10 1} 0"},
		// Equal Times, equal Cycles, and both.
		{minima(0, 100, 2, 100), "{0 1} 0"}, {minima(2, 100, 0, 100), "{0 1} 0"}, {minima(-10000, 0, 10000, 0), "{0 1} 0"}, {minima(0, 100, 0, 131), "{0 0} 6"}, {minima(0, 131, 0, 100), "{0 0} 6"}, {minima(0, 100, 0, 100), "{0 0} 6"}, {minima(0, 0, 0, 0), "{0 0} 6"}, {minima(-3, 100, -3, 131), "{0 0} 6"}, {minima(10000, 0, 10000, 10000000), "{0 0} 6"}, {minima(-10000, 0, -10000, 10000000), "{0 0} 6"},
		// Just in the ranges, and just beyond them.
		{minima(-10000, 0, 10000, 10000000), "{500 1} 0"}, {minima(10000, 0, -10000, 10000000), "{-500 1} 0"}, {minima(-10000, 0, 10000, 9999999), "{9999999 20000} 0"}, {minima(9999, 0, 10000, 10000000), "{10000000 1} 0"}, {minima(10000, 0, 9999, 10000000), "{-10000000 1} 0"}, {minima(-10000, 10000000, -9999, 0), "{-10000000 1} 0"},
		{minima(-10001, 0, 10000, 1), "{0 0} 2"}, {minima(0, 0, 10001, 1), "{0 0} 2"}, {minima(10001, 0, 0, 1), "{0 0} 2"}, {minima(0, 0, -10001, 1), "{0 0} 2"}, {minima(0, -1, 1, 1), "{0 0} 2"}, {minima(0, 0, 1, -1), "{0 0} 2"}, {minima(0, 10000001, 1, 1), "{0 0} 2"}, {minima(0, 0, 1, 10000001), "{0 0} 2"},
		// Equal Cycles that are none, and equal Cycles beside a Time that is none.
		{minima(10001, 0, 10001, 1), "{0 0} 2"}, {minima(-10001, 0, -10001, 1), "{0 0} 2"}, {minima(3, -1, 3, 1), "{0 0} 2"}, {minima(3, 0, 3, 10000001), "{0 0} 2"}, {minima(math.MinInt64, 0, math.MaxInt64, 1), "{0 0} 2"}, {minima(0, math.MinInt64, 1, math.MaxInt64), "{0 0} 2"}, {minima(math.MaxInt64, math.MaxInt64, math.MaxInt64, math.MaxInt64), "{0 0} 2"},
	} {
		same(t, fmt.Sprint("PeriodBetween ", x.two), x.want, periodOf(x.two[0], x.two[1])...)
	}
}

func periodWanted(a, b impl.Minimum) string {
	switch {
	case !isMinimum(a) || !isMinimum(b):
		return "{0 0} 2"
	case a.Cycle == b.Cycle:
		return "{0 0} 6"
	}
	period := new(big.Rat).Quo(ratOf(b.Time-a.Time), ratOf(b.Cycle-a.Cycle))
	return fmt.Sprintf("{%v %v} 0", period.Num(), period.Denom())
}

func TestPeriodBetweenForAllArguments(t *testing.T) {
	check := func(a, b impl.Minimum) {
		same(t, fmt.Sprint("PeriodBetween ", a, b), periodWanted(a, b), twice(t, "PeriodBetween", func() []any { return periodOf(a, b) })...)
	}
	for i, cycle := range edgeCycles {
		for k, time := range edgeTimes {
			for j, other := range edgeCycles {
				a, b := impl.Minimum{Cycle: cycle, Time: time}, impl.Minimum{Cycle: other, Time: edgeTimes[(i*5+k*3+j)%len(edgeTimes)]}
				check(a, b)
				check(b, a)
				check(impl.Minimum{Cycle: cycle, Time: 5000}, impl.Minimum{Cycle: other, Time: time})
			}
		}
	}
	r := rand.New(rand.NewPCG(13, 2))
	for i := range 5000 {
		cycles, times := []int64{2, 20, 20001}[i%3], []int64{2, 100, 10_000_001}[i/3%3]
		check(impl.Minimum{Cycle: r.Int64N(cycles) - cycles/2, Time: r.Int64N(times)}, impl.Minimum{Cycle: r.Int64N(cycles) - cycles/2, Time: r.Int64N(times)})
	}
}

func countsOf(a, b, low, high int64) []any {
	counts, code := impl.CountsBetween(a, b, low, high)
	return []any{counts, code}
}

func TestCountsBetween(t *testing.T) {
	for _, x := range []struct {
		a, b, low, high int64
		want            string
	}{
		{0, 1000, 90, 110, "[10 11] 0"}, {500, 1500, 90, 110, "[10 11] 0"}, {0, 1000, 90, 100, "[10 11] 0"}, {0, 1000, 91, 99, "[] 0"}, {0, 1000, 90, 99, "[11] 0"}, {0, 1000, 91, 100, "[10] 0"}, {0, 1000, 300, 600, "[2 3] 0"}, {0, 1000, 1, 5, "[] 5"},
		// One period only.
		{0, 1000, 100, 100, "[10] 0"}, {0, 999, 100, 100, "[] 0"}, {0, 1001, 100, 100, "[] 0"}, {0, 1, 1, 1, "[1] 0"}, {0, 200, 1, 1, "[200] 0"}, {0, 201, 1, 1, "[201] 0"}, {0, 10000000, 1, 1, "[10000000] 0"}, {0, 10000000, 1000000, 1000000, "[10] 0"}, {0, 9999999, 1000000, 1000000, "[] 0"}, {0, 1000000, 1000000, 1000000, "[1] 0"},
		// The difference is just low, one less, just high, and one more.
		{0, 90, 90, 110, "[1] 0"}, {0, 89, 90, 110, "[] 0"}, {0, 110, 90, 110, "[1] 0"}, {0, 111, 90, 110, "[] 0"}, {0, 179, 90, 110, "[] 0"}, {0, 180, 90, 110, "[2] 0"}, {0, 220, 90, 110, "[2] 0"}, {0, 221, 90, 110, "[] 0"}, {0, 269, 90, 110, "[] 0"}, {0, 270, 90, 110, "[3] 0"}, {0, 450, 90, 110, "[5] 0"}, {0, 1, 2, 1000000, "[] 0"}, {0, 999999, 1000000, 1000000, "[] 0"}, {0, 1, 1000000, 1000000, "[] 0"},
		// All periods.
		{0, 1, 1, 1000000, "[1] 0"}, {0, 2, 1, 1000000, "[1 2] 0"}, {7, 10, 1, 1000000, "[1 2 3] 0"}, {0, 200, 1, 1000000, "[" + countsText(1, 200) + "] 0"}, {0, 201, 1, 1000000, "[] 5"}, {0, 10000000, 1, 1000000, "[] 5"}, {0, 10000000, 500000, 1000000, "[" + countsText(10, 20) + "] 0"}, {9999999, 10000000, 1, 1000000, "[1] 0"},
		// Just MaxListed numbers, and one more or less.
		{0, 200, 1, 200, "[" + countsText(1, 200) + "] 0"}, {0, 201, 1, 200, "[" + countsText(2, 201) + "] 0"}, {0, 201, 1, 201, "[] 5"}, {0, 200, 1, 199, "[" + countsText(2, 200) + "] 0"}, {0, 1000, 1, 2, "[] 5"}, {0, 398, 1, 2, "[" + countsText(199, 398) + "] 0"}, {0, 399, 1, 2, "[" + countsText(200, 399) + "] 0"}, {0, 400, 1, 2, "[] 5"}, {0, 397, 1, 2, "[" + countsText(199, 397) + "] 0"}, {0, 10000000, 10000, 12500, "[] 5"},
		{0, 10000000, 10000, 12499, "[" + countsText(801, 1000) + "] 0"}, {0, 10000000, 10000, 12484, "[" + countsText(802, 1000) + "] 0"}, {0, 999900, 100, 102, "[" + countsText(9803, 9999) + "] 0"}, {0, 1009800, 100, 102, "[" + countsText(9900, 10098) + "] 0"}, {0, 1019900, 100, 102, "[" + countsText(10000, 10199) + "] 0"}, {0, 1020000, 100, 102, "[] 5"},
		// Errors: times out of their range or order, periods out of theirs.
		{-1, 1000, 90, 110, "[] 2"}, {0, 10000001, 90, 110, "[] 2"}, {-2, -1, 90, 110, "[] 2"}, {10000001, 10000002, 90, 110, "[] 2"}, {1000, 1000, 90, 110, "[] 2"}, {1000, 0, 90, 110, "[] 2"}, {1000, 999, 90, 110, "[] 2"}, {0, 0, 1, 1, "[] 2"}, {10000000, 10000000, 1, 1, "[] 2"}, {0, 1000, 0, 110, "[] 2"}, {0, 1000, -1, 110, "[] 2"}, {0, 1000, 0, 0, "[] 2"},
		{0, 1000, 90, 1000001, "[] 2"}, {0, 1000, 1000001, 1000001, "[] 2"}, {0, 1000, 110, 90, "[] 2"}, {0, 1000, 91, 90, "[] 2"}, {0, 1000, 1000000, 1, "[] 2"}, {0, 1000, 1, 0, "[] 2"}, {0, 10000000, 0, 1000000, "[] 2"}, {0, 10000000, 1, 1000001, "[] 2"}, {0, 10000001, 1, 1000000, "[] 2"}, {1000, 0, 0, 0, "[] 2"},
		{math.MinInt64, math.MaxInt64, 1, 1, "[] 2"}, {math.MaxInt64, math.MinInt64, 1, 1, "[] 2"}, {0, math.MaxInt64, 1, 1, "[] 2"}, {math.MinInt64, 0, 1, 1, "[] 2"}, {0, 1000, math.MinInt64, 110, "[] 2"}, {0, 1000, 90, math.MaxInt64, "[] 2"}, {0, 1000, math.MaxInt64, math.MaxInt64, "[] 2"}, {0, 1000, math.MinInt64, math.MinInt64, "[] 2"},
	} {
		same(t, fmt.Sprint("CountsBetween ", x.a, x.b, x.low, x.high), x.want, countsOf(x.a, x.b, x.low, x.high)...)
	}
}

// countsText is the text of all numbers from first to last.
func countsText(first, last int64) string {
	text := fmt.Sprint(listOf(first, 1, last-first+1))
	return text[1 : len(text)-1]
}

// countsWanted tries all numbers from the first one on for which high is great enough.
func countsWanted(a, b, low, high int64) string {
	if !isTime(a) || !isTime(b) || a >= b || low < 1 || low > high || high > 1_000_000 {
		return "[] 2"
	}
	counts := []int64{}
	first := sort.Search(10_000_001, func(n int) bool { return high*int64(n) >= b-a })
	for n := int64(first); low*n <= b-a; n++ {
		if counts = append(counts, n); len(counts) > 200 {
			return "[] 5"
		}
	}
	return fmt.Sprint(counts, " 0")
}

func TestCountsBetweenForAllArguments(t *testing.T) {
	codes, none := map[string]int{}, 0
	check := func(a, b, low, high int64) {
		want := countsWanted(a, b, low, high)
		same(t, fmt.Sprint("CountsBetween ", a, b, low, high), want, twice(t, "CountsBetween", func() []any { return countsOf(a, b, low, high) })...)
		codes[want[len(want)-1:]]++
		if want == "[] 0" {
			none++
		}
	}
	for i, low := range edgePeriods {
		for k, high := range edgePeriods {
			for j, time := range edgeTimes {
				check(time, edgeTimes[(i+k*3+j*5)%len(edgeTimes)], low, high)
				check(0, time, low, high)
			}
		}
	}
	for apart := range int64(420) {
		for low := range int64(6) {
			for high := range int64(8) {
				check(apart%7, apart%7+apart, low, high)
			}
		}
	}
	r := rand.New(rand.NewPCG(13, 3))
	for i := range 5000 {
		low := 1 + r.Int64N([]int64{3, 100, 5000, 1_000_000}[i%4])
		high := min(low+r.Int64N(1+low/int64(1+i%9)), 1_000_000)
		a := r.Int64N(1000)
		check(a, a+1+r.Int64N([]int64{500, 20_000, 9_999_000}[i%3]), low, high)
	}
	if codes["0"] < 3000 || codes["2"] < 3000 || codes["5"] < 1000 || none < 1000 {
		t.Errorf("only few lists of a kind: %v, %d of them empty", codes, none)
	}
}

func shiftedOf(list []impl.Minimum, by int64) []any {
	moved, code := impl.ShiftCycles(list, by)
	return []any{moved, code}
}

func TestShiftCycles(t *testing.T) {
	for _, x := range []struct {
		list []impl.Minimum
		by   int64
		want string
	}{
		{exampleMinima(), 3, "[{3 100} {4 131} {5 159}] 0"}, {exampleMinima(), 0, "[{0 100} {1 131} {2 159}] 0"}, {exampleMinima(), -1, "[{-1 100} {0 131} {1 159}] 0"}, {exampleMinima(), -5, "[{-5 100} {-4 131} {-3 159}] 0"}, {minima(-3, 1, 0, 2, 10, 3), 1, "[{-2 1} {1 2} {11 3}] 0"}, {nil, 0, "[] 0"}, {nil, 10000, "[] 0"}, {[]impl.Minimum{}, -10000, "[] 0"},
		// Cycles just in their range, and just beyond it.
		{exampleMinima(), 9998, "[{9998 100} {9999 131} {10000 159}] 0"}, {exampleMinima(), 9999, "[] 5"}, {exampleMinima(), 10000, "[] 5"}, {exampleMinima(), -10000, "[{-10000 100} {-9999 131} {-9998 159}] 0"}, {minima(0, 5), 10000, "[{10000 5}] 0"}, {minima(0, 5), -10000, "[{-10000 5}] 0"}, {minima(1, 5), 10000, "[] 5"}, {minima(-1, 5), -10000, "[] 5"}, {minima(1, 5), 9999, "[{10000 5}] 0"}, {minima(-1, 5), -9999, "[{-10000 5}] 0"},
		{minima(-10000, 5, -9999, 6), 10000, "[{0 5} {1 6}] 0"}, {minima(9999, 5, 10000, 6), -10000, "[{-1 5} {0 6}] 0"}, {minima(-10000, 0, 10000, 10000000), 0, "[{-10000 0} {10000 10000000}] 0"}, {minima(-10000, 0, 10000, 10000000), 1, "[] 5"}, {minima(-10000, 0, 10000, 10000000), -1, "[] 5"}, {minima(-10000, 0, 9999, 10000000), 1, "[{-9999 0} {10000 10000000}] 0"}, {minima(-9999, 0, 10000, 10000000), -1, "[{-10000 0} {9999 10000000}] 0"}, {minima(-9999, 0, 10000, 10000000), -2, "[] 5"},
		// Errors, and their order.
		{exampleMinima(), 10001, "[] 2"}, {exampleMinima(), -10001, "[] 2"}, {nil, 10001, "[] 2"}, {nil, -10001, "[] 2"}, {minima(-10000, 5), 10001, "[] 2"}, {minima(10000, 5), -10001, "[] 2"}, {exampleMinima(), math.MinInt64, "[] 2"}, {exampleMinima(), math.MaxInt64, "[] 2"}, {minima(0, 5, 0, 6), 0, "[] 1"}, {minima(0, 5, 1, 5), 3, "[] 1"}, {minima(10001, 5), -1, "[] 1"}, {minima(-10001, 5), 1, "[] 1"},
		{minima(0, -1), 3, "[] 1"}, {minima(0, 10000001), 3, "[] 1"}, {minima(1, 5, 0, 6), 10001, "[] 1"}, {evenMinima(ephemeris(0, 1), 0, 1, 51), 0, "[] 1"}, {evenMinima(ephemeris(0, 1), 0, 1, 51), -10001, "[] 1"}, {minima(math.MaxInt64, 5), math.MinInt64, "[] 1"}, {minima(math.MinInt64, 5), math.MaxInt64, "[] 1"},
	} {
		checkMinima(t, fmt.Sprint("ShiftCycles ", x.by), x.list, x.want, func(list []impl.Minimum) []any { return shiftedOf(list, x.by) })
	}
}

func shiftedWanted(list []impl.Minimum, by int64) string {
	switch {
	case !areMinima(list):
		return "[] 1"
	case !isCycle(by):
		return "[] 2"
	}
	moved := []impl.Minimum{}
	for _, m := range list {
		moved = append(moved, impl.Minimum{Cycle: m.Cycle + by, Time: m.Time})
	}
	if len(moved) > 0 && (moved[0].Cycle < -10_000 || moved[len(moved)-1].Cycle > 10_000) {
		return "[] 5"
	}
	return fmt.Sprint(moved, " 0")
}

func TestShiftCyclesForAllArguments(t *testing.T) {
	codes := map[string]int{}
	for _, list := range slices.Concat(goodMinima(), badMinima()) {
		shifts := slices.Clone(edgeCycles)
		if len(list) > 0 {
			first, last := list[0].Cycle, list[len(list)-1].Cycle
			shifts = append(shifts, -10_001-first, -10_000-first, -9_999-first, 9_999-last, 10_000-last, 10_001-last)
		}
		for _, by := range shifts {
			want := shiftedWanted(list, by)
			checkMinima(t, fmt.Sprint("ShiftCycles ", by), list, want, func(list []impl.Minimum) []any { return shiftedOf(list, by) })
			codes[want[len(want)-1:]]++
		}
	}
	if codes["0"] < 500 || codes["1"] < 500 || codes["2"] < 500 || codes["5"] < 200 {
		t.Errorf("only few lists of a kind: %v", codes)
	}
}

// TestResultsOfEphemeridesAreNewSlices changes each result with its unused capacity, and asks again.
func TestResultsOfEphemeridesAreNewSlices(t *testing.T) {
	list, times, e := exampleMinima(), []int64{100, 131, 159}, ephemeris(101, 30)
	check := func(name string, call func() (string, func())) {
		want, clearIt := call()
		clearIt()
		got, _ := call()
		same(t, name, fmt.Sprint(want, " ", exampleMinima(), " [100 131 159]"), got, list, times)
		if len(want) < 5 {
			t.Errorf("%s: only %s", name, want)
		}
	}
	check("ResidualsOf", func() (string, func()) {
		residuals, _ := impl.ResidualsOf(list, e)
		return fmt.Sprint(residuals), func() { clear(residuals[:cap(residuals)]) }
	})
	check("AssignCycles", func() (string, func()) {
		own, _ := impl.AssignCycles(times, e, 5)
		return fmt.Sprint(own), func() { clear(own[:cap(own)]) }
	})
	check("CountsBetween", func() (string, func()) {
		counts, _ := impl.CountsBetween(0, 1000, 90, 110)
		return fmt.Sprint(counts), func() { clear(counts[:cap(counts)]) }
	})
	for _, by := range []int64{0, 3} {
		check("ShiftCycles", func() (string, func()) {
			moved, _ := impl.ShiftCycles(list, by)
			return fmt.Sprint(moved), func() { clear(moved[:cap(moved)]) }
		})
	}
}

// TestEphemeridesForAllArguments is promise 1 for chapter 13: each call returns, and returns the same again.
func TestEphemeridesForAllArguments(t *testing.T) {
	odd := numbers(-10001, -10000, -1, 0, 1, 2, 30, 1000, 1001, 10000, 10001, 1000000, 1000001, 10000000, 10000001)
	for i, list := range slices.Concat(goodMinima(), badMinima()) {
		for k, n := range odd {
			m, j, l := odd[(i+k*5)%len(odd)], odd[(i*3+k)%len(odd)], odd[(i+k*7)%len(odd)]
			times := slices.Concat(listOf(int64(i%100), 30, int64(i%3)), []int64{n, m}[:k%3])
			more := slices.Concat(list, minima(n, m, m, j)[:i%3])
			keepMinima(t, "ephemerides", more, func(list []impl.Minimum) {
				keepList(t, "ephemerides", times, func(times []int64) {
					twice(t, "ephemerides", func() []any {
						own, code := impl.AssignCycles(times, ephemeris(n, j), m)
						a, b := impl.Minimum{Cycle: n, Time: m}, impl.Minimum{Cycle: j, Time: l}
						return slices.Concat([]any{own, code, impl.ValidMinima(list)}, fitsOf(list), residualsOf(list, ephemeris(n, m)), periodOf(a, b), countsOf(n, m, j, l), shiftedOf(list, n))
					})
				})
			})
		}
	}
}
