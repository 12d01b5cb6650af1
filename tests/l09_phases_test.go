package tests

import (
	"fmt"
	"math"
	"math/big"
	"math/rand/v2"
	"slices"
	"testing"

	"loop.example/g01026/impl"
)

// edgePeriods are numbers at and beside the limits of periods, and of gaps.
var edgePeriods = numbers(-1000000, -2, -1, 0, 1, 2, 3, 7, 30, 49, 50, 51, 999, 1000, 1001, 500000, 999999, 1000000, 1000001, 1000002, 10000000)

// edgePhaseBins are numbers at and beside the limits of the bins of a period.
var edgePhaseBins = numbers(-50, -2, -1, 0, 1, 2, 3, 5, 7, 10, 31, 49, 50, 51, 52, 1000)

func ephemeris(epoch, period int64) impl.Ephemeris {
	return impl.Ephemeris{Epoch: epoch, Period: period}
}

func goodEphemerides() []impl.Ephemeris {
	var list []impl.Ephemeris
	for _, epoch := range []int64{0, 1, 100, 5003, 9999999, 10000000} {
		for _, period := range []int64{1, 2, 7, 30, 49, 50, 51, 1000, 999999, 1000000} {
			list = append(list, ephemeris(epoch, period))
		}
	}
	r := rand.New(rand.NewPCG(9, 9))
	for range 20 {
		list = append(list, ephemeris(r.Int64N(10_000_001), 1+r.Int64N(1_000_000)), ephemeris(r.Int64N(1000), 1+r.Int64N(300)))
	}
	return list
}

// badEphemerides are none by just one of their fields, but for the first ones.
func badEphemerides() []impl.Ephemeris {
	list := []impl.Ephemeris{
		ephemeris(-1, 0), ephemeris(-1, -1), ephemeris(10000001, 1000001), ephemeris(math.MinInt64, math.MinInt64), ephemeris(math.MaxInt64, math.MaxInt64),
		ephemeris(math.MinInt64, math.MaxInt64), ephemeris(math.MaxInt64, math.MinInt64), ephemeris(math.MinInt64, -1), ephemeris(math.MaxInt64, 0), {},
	}
	for _, n := range numbers(-10000, -2, -1, 10000001, 10000002) {
		list = append(list, ephemeris(n, 30))
	}
	for _, n := range numbers(-1000000, -30, -2, -1, 0, 1000001, 1000002, 10000000) {
		list = append(list, ephemeris(100, n))
	}
	return append(list, ephemeris(-1, 1), ephemeris(10000001, 1), ephemeris(-1, 1000000), ephemeris(0, 0), ephemeris(10000000, 0), ephemeris(0, 1000001))
}

// timesAround are valid times at, before and behind extrema, on both sides of the epoch, and at the ends of the range.
func timesAround(e impl.Ephemeris) []int64 {
	list := []int64{0, 1, 4999, 5000, 9999999, 10000000}
	for _, cycle := range []int64{-1000, -201, -200, -3, -2, -1, 0, 1, 2, 3, 199, 200, 1000} {
		at := e.Epoch + cycle*e.Period
		list = append(list, at-1, at, at+1, at+e.Period/2)
	}
	return slices.DeleteFunc(list, func(n int64) bool { return !isTime(n) })
}

// cycleAndPhase rounds down, as Div and Mod of math/big do for positive periods.
func cycleAndPhase(e impl.Ephemeris, time int64) (int64, int64) {
	cycle, phase := new(big.Int).DivMod(big.NewInt(time-e.Epoch), big.NewInt(e.Period), new(big.Int))
	return cycle.Int64(), phase.Int64()
}

func phaseWanted(e impl.Ephemeris, time int64) int64 {
	_, phase := cycleAndPhase(e, time)
	return phase
}

// momentsOf returns what the functions of an ephemeris and a time return.
func momentsOf(e impl.Ephemeris, time int64) []any {
	cycle, one := impl.CycleOf(e, time)
	phase, two := impl.PhaseOf(e, time)
	next, three := impl.NextTime(e, time)
	return []any{cycle, one, phase, two, next, three, impl.PhaseText(e, time)}
}

// momentsWanted returns the same by another way, in the form of fmt's %v.
func momentsWanted(e impl.Ephemeris, time int64) string {
	if !isTime(time) {
		return "0 2 0 2 0 2 "
	}
	cycle, phase := cycleAndPhase(e, time)
	next := time
	if phase > 0 {
		next += e.Period - phase
	}
	thousandths := int64(0)
	for (thousandths+1)*e.Period <= 1000*phase {
		thousandths++
	}
	return fmt.Sprintf("%d 0 %d 0 %d 0 0.%03d", cycle, phase, next, thousandths)
}

func TestConstantsOfPhases(t *testing.T) {
	same(t, "constants", "1000000 200", impl.MaxPeriod, impl.MaxListed)
}

func TestValidEphemeris(t *testing.T) {
	for _, epoch := range edgeTimes {
		for _, period := range edgePeriods {
			e := ephemeris(epoch, period)
			want, text := isTime(epoch) && between(period, 1, 1_000_000), ""
			if want {
				text = fmt.Sprintf("%d + %d * E", epoch, period)
			}
			same(t, fmt.Sprint("ephemeris ", e), fmt.Sprint(want, " ", text), twice(t, "ephemeris", func() []any {
				return []any{impl.ValidEphemeris(e), impl.EphemerisText(e)}
			})...)
		}
	}
	for _, e := range goodEphemerides() {
		same(t, fmt.Sprint("ephemeris ", e), "true", impl.ValidEphemeris(e))
	}
	for _, e := range badEphemerides() {
		same(t, fmt.Sprint("ephemeris ", e), "false ", impl.ValidEphemeris(e), impl.EphemerisText(e))
	}
}

func TestEphemerisText(t *testing.T) {
	for _, x := range []struct {
		e    impl.Ephemeris
		want string
	}{
		{ephemeris(100, 30), "100 + 30 * E"}, {ephemeris(0, 1), "0 + 1 * E"}, {ephemeris(10000000, 1000000), "10000000 + 1000000 * E"},
		{ephemeris(0, 1000000), "0 + 1000000 * E"}, {ephemeris(10000000, 1), "10000000 + 1 * E"}, {ephemeris(5, 50), "5 + 50 * E"},
		{ephemeris(0, 0), ""}, {ephemeris(-1, 30), ""}, {ephemeris(10000001, 30), ""}, {ephemeris(100, 1000001), ""}, {ephemeris(100, -30), ""},
	} {
		same(t, fmt.Sprint("EphemerisText ", x.e), x.want, impl.EphemerisText(x.e))
	}
}

func TestCyclesAndPhases(t *testing.T) {
	e := ephemeris(100, 30)
	for _, x := range []struct {
		e    impl.Ephemeris
		time int64
		want string // the cycle, the phase and the next extremum, each with its code, and the text of the phase
	}{
		{e, 90, "-1 0 20 0 100 0 0.666"},
		// At the epoch, and beside it.
		{e, 99, "-1 0 29 0 100 0 0.966"}, {e, 100, "0 0 0 0 100 0 0.000"}, {e, 101, "0 0 1 0 130 0 0.033"},
		// Before the epoch by a period, by less, and by more.
		{e, 71, "-1 0 1 0 100 0 0.033"}, {e, 70, "-1 0 0 0 70 0 0.000"}, {e, 69, "-2 0 29 0 70 0 0.966"},
		{e, 41, "-2 0 1 0 70 0 0.033"}, {e, 40, "-2 0 0 0 40 0 0.000"}, {e, 39, "-3 0 29 0 40 0 0.966"}, {e, 10, "-3 0 0 0 10 0 0.000"},
		{e, 9, "-4 0 29 0 10 0 0.966"}, {e, 1, "-4 0 21 0 10 0 0.700"}, {e, 0, "-4 0 20 0 10 0 0.666"},
		// Behind the epoch.
		{e, 129, "0 0 29 0 130 0 0.966"}, {e, 130, "1 0 0 0 130 0 0.000"}, {e, 131, "1 0 1 0 160 0 0.033"}, {e, 159, "1 0 29 0 160 0 0.966"},
		{e, 115, "0 0 15 0 130 0 0.500"}, {e, 85, "-1 0 15 0 100 0 0.500"},
		{e, 9999999, "333329 0 29 0 10000000 0 0.966"}, {e, 10000000, "333330 0 0 0 10000000 0 0.000"},
		// Periods and epochs at their limits.
		{ephemeris(0, 1), 0, "0 0 0 0 0 0 0.000"}, {ephemeris(0, 1), 10000000, "10000000 0 0 0 10000000 0 0.000"},
		{ephemeris(10000000, 1), 0, "-10000000 0 0 0 0 0 0.000"}, {ephemeris(10000000, 1), 9999999, "-1 0 0 0 9999999 0 0.000"},
		{ephemeris(0, 1000000), 0, "0 0 0 0 0 0 0.000"}, {ephemeris(0, 1000000), 999999, "0 0 999999 0 1000000 0 0.999"}, {ephemeris(0, 1000000), 1000000, "1 0 0 0 1000000 0 0.000"},
		{ephemeris(10000000, 1000000), 0, "-10 0 0 0 0 0 0.000"}, {ephemeris(10000000, 1000000), 1, "-10 0 1 0 1000000 0 0.000"},
		{ephemeris(10000000, 1000000), 9000000, "-1 0 0 0 9000000 0 0.000"}, {ephemeris(10000000, 1000000), 8999999, "-2 0 999999 0 9000000 0 0.999"},
		{ephemeris(10000000, 1000000), 10000000, "0 0 0 0 10000000 0 0.000"}, {ephemeris(10000000, 999999), 0, "-11 0 999989 0 10 0 0.999"},
		// Next extrema that are later than MaxTime.
		{ephemeris(1, 1000000), 10000000, "9 0 999999 0 10000001 0 0.999"}, {ephemeris(9999999, 1000000), 10000000, "0 0 1 0 10999999 0 0.000"},
		{ephemeris(9999999, 2), 10000000, "0 0 1 0 10000001 0 0.500"}, {ephemeris(0, 3), 10000000, "3333333 0 1 0 10000002 0 0.333"},
		{ephemeris(9000000, 999999), 10000000, "1 0 1 0 10999998 0 0.000"}, {ephemeris(10000000, 1000000), 9999999, "-1 0 999999 0 10000000 0 0.999"},
		// Errors, and their order.
		{e, -1, "0 2 0 2 0 2 "}, {e, 10000001, "0 2 0 2 0 2 "}, {e, math.MinInt64, "0 2 0 2 0 2 "}, {e, math.MaxInt64, "0 2 0 2 0 2 "},
		{impl.Ephemeris{}, 1, "0 1 0 1 0 1 "}, {impl.Ephemeris{}, -1, "0 1 0 1 0 1 "}, {ephemeris(-1, 30), 90, "0 1 0 1 0 1 "}, {ephemeris(10000001, 30), 90, "0 1 0 1 0 1 "},
		{ephemeris(100, -30), 90, "0 1 0 1 0 1 "}, {ephemeris(100, 1000001), 90, "0 1 0 1 0 1 "}, {ephemeris(100, 1000001), 10000001, "0 1 0 1 0 1 "},
		{ephemeris(math.MinInt64, -1), math.MaxInt64, "0 1 0 1 0 1 "}, {ephemeris(math.MaxInt64, 0), math.MinInt64, "0 1 0 1 0 1 "},
	} {
		same(t, fmt.Sprint("moments ", x.e, x.time), x.want, momentsOf(x.e, x.time)...)
	}
}

// TestCyclesByWalking goes from the epoch to each time, one by one, up and down, and counts the extrema on its way.
func TestCyclesByWalking(t *testing.T) {
	for epoch := range int64(41) {
		for period := int64(1); period <= 45; period++ {
			e := ephemeris(epoch, period)
			cycle, phase := int64(0), int64(0)
			for time := epoch; time <= 90; time++ {
				same(t, fmt.Sprint("moments ", e, time), momentsWanted(e, time), momentsOf(e, time)...)
				same(t, fmt.Sprint("walk up ", e, time), fmt.Sprint(cycle, phase), momentsOf(e, time)[0], momentsOf(e, time)[2])
				if phase++; phase == period {
					cycle, phase = cycle+1, 0
				}
			}
			cycle, phase = 0, 0
			for time := epoch; time >= 0; time-- {
				same(t, fmt.Sprint("moments ", e, time), momentsWanted(e, time), momentsOf(e, time)...)
				same(t, fmt.Sprint("walk down ", e, time), fmt.Sprint(cycle, phase), momentsOf(e, time)[0], momentsOf(e, time)[2])
				if phase--; phase < 0 {
					cycle, phase = cycle-1, period-1
				}
			}
		}
	}
}

func TestMomentsForAllArguments(t *testing.T) {
	for _, e := range goodEphemerides() {
		for _, time := range append(timesAround(e), edgeTimes...) {
			got := twice(t, "moments", func() []any { return momentsOf(e, time) })
			same(t, fmt.Sprint("moments ", e, time), momentsWanted(e, time), got...)
		}
	}
	for _, e := range badEphemerides() {
		for _, time := range edgeTimes {
			same(t, fmt.Sprint("moments ", e, time), "0 1 0 1 0 1 ", momentsOf(e, time)...)
		}
	}
}

// TestEpochCyclesAndPhaseGiveTheTime is the first half of promise 9.
func TestEpochCyclesAndPhaseGiveTheTime(t *testing.T) {
	before := 0
	for _, e := range goodEphemerides() {
		for _, time := range timesAround(e) {
			cycle, one := impl.CycleOf(e, time)
			phase, two := impl.PhaseOf(e, time)
			next, three := impl.NextTime(e, time)
			if one != impl.OK || two != impl.OK || e.Epoch+cycle*e.Period+phase != time || !between(phase, 0, e.Period-1) {
				t.Fatalf("%v at %d: got cycle %d %d, phase %d %d", e, time, cycle, one, phase, two)
			}
			if three != impl.OK || !between(next-time, 0, e.Period-1) || phaseWanted(e, next) != 0 {
				t.Fatalf("NextTime(%v, %d): got %d %d", e, time, next, three)
			}
			if cycle < 0 && phase > 0 {
				before++
			}
		}
	}
	if before < 500 {
		t.Errorf("only %d times before an epoch", before)
	}
}

func TestPhaseText(t *testing.T) {
	for _, x := range []struct {
		epoch, period, time int64
		want                string
	}{
		{0, 1, 5, "0.000"}, {0, 2, 5, "0.500"}, {0, 3, 4, "0.333"}, {0, 3, 5, "0.666"}, {0, 1000, 999, "0.999"}, {0, 1000, 1000, "0.000"}, {0, 1000, 1001, "0.001"},
		{0, 1000, 10, "0.010"}, {0, 1000, 100, "0.100"}, {0, 1001, 1, "0.000"}, {0, 1001, 2, "0.001"}, {0, 1001, 1000, "0.999"}, {0, 999, 1, "0.001"}, {0, 999, 998, "0.998"},
		{0, 1000000, 999, "0.000"}, {0, 1000000, 1000, "0.001"}, {0, 1000000, 999999, "0.999"}, {0, 1000000, 998999, "0.998"}, {0, 1000000, 1000000, "0.000"},
		{10000000, 1000000, 0, "0.000"}, {10000000, 1000000, 9999999, "0.999"}, {10000000, 8, 9999999, "0.875"}, {10000000, 8, 9999993, "0.125"}, {100, 8, 91, "0.875"},
		{100, 30, 90, "0.666"}, {100, 30, 110, "0.333"}, {100, 30, -1, ""}, {100, 30, 10000001, ""}, {-1, 30, 90, ""}, {100, 0, 90, ""}, {100, 0, -1, ""}, {100, 1000001, 90, ""},
	} {
		same(t, fmt.Sprint("PhaseText ", x), x.want, impl.PhaseText(ephemeris(x.epoch, x.period), x.time))
	}
}

// listOf are count numbers from first on, with the same step.
func listOf(first, step, count int64) []int64 {
	list := make([]int64, count)
	for i := range list {
		list[i] = first + int64(i)*step
	}
	return list
}

func TestTimesIn(t *testing.T) {
	e := ephemeris(100, 30)
	for _, x := range []struct {
		e        impl.Ephemeris
		from, to int64
		want     string
	}{
		{e, 90, 170, "[100 130 160] 0"},
		// From and to at extrema, and beside them.
		{e, 100, 160, "[100 130 160] 0"}, {e, 101, 160, "[130 160] 0"}, {e, 100, 159, "[100 130] 0"}, {e, 99, 161, "[100 130 160] 0"}, {e, 101, 159, "[130] 0"},
		{e, 130, 130, "[130] 0"}, {e, 129, 130, "[130] 0"}, {e, 130, 131, "[130] 0"}, {e, 129, 129, "[] 0"}, {e, 131, 131, "[] 0"}, {e, 101, 129, "[] 0"},
		{e, 100, 129, "[100] 0"}, {e, 101, 130, "[130] 0"},
		// Before the epoch.
		{e, 0, 100, "[10 40 70 100] 0"}, {e, 10, 99, "[10 40 70] 0"}, {e, 11, 70, "[40 70] 0"}, {e, 0, 9, "[] 0"}, {e, 0, 10, "[10] 0"}, {e, 70, 70, "[70] 0"}, {e, 71, 99, "[] 0"},
		{e, 41, 69, "[] 0"}, {e, 0, 0, "[] 0"}, {ephemeris(0, 30), 0, 0, "[0] 0"}, {ephemeris(90, 30), 0, 0, "[0] 0"},
		// From later than to.
		{e, 131, 129, "[] 0"}, {e, 160, 100, "[] 0"}, {e, 130, 129, "[] 0"}, {e, 131, 130, "[] 0"}, {e, 10000000, 0, "[] 0"}, {ephemeris(10000000, 1), 10000000, 0, "[] 0"}, {ephemeris(0, 1), 6, 5, "[] 0"},
		{ephemeris(0, 1), 6, 4, "[] 0"}, {ephemeris(0, 1000000), 1000001, 999999, "[] 0"}, {ephemeris(5000000, 1), 10000000, 0, "[] 0"},
		// Limits of times and periods.
		{ephemeris(0, 1000000), 0, 10000000, "[0 1000000 2000000 3000000 4000000 5000000 6000000 7000000 8000000 9000000 10000000] 0"},
		{ephemeris(10000000, 1000000), 1, 9999999, "[1000000 2000000 3000000 4000000 5000000 6000000 7000000 8000000 9000000] 0"},
		{ephemeris(9999999, 999999), 0, 10000000, "[9 1000008 2000007 3000006 4000005 5000004 6000003 7000002 8000001 9000000 9999999] 0"},
		{ephemeris(1, 1000000), 9000002, 10000000, "[] 0"}, {ephemeris(10000000, 1), 9999998, 10000000, "[9999998 9999999 10000000] 0"}, {ephemeris(10000000, 1), 0, 2, "[0 1 2] 0"},
		// Just MaxListed, and one more, behind and before the epoch.
		{ephemeris(0, 1), 0, 199, fmt.Sprint(listOf(0, 1, 200), 0)}, {ephemeris(0, 1), 0, 200, "[] 5"}, {ephemeris(0, 1), 1, 200, fmt.Sprint(listOf(1, 1, 200), 0)},
		{ephemeris(0, 10), 0, 1999, fmt.Sprint(listOf(0, 10, 200), 0)}, {ephemeris(0, 10), 0, 2000, "[] 5"}, {ephemeris(0, 10), 1, 2000, fmt.Sprint(listOf(10, 10, 200), 0)},
		{ephemeris(0, 10), 0, 1990, fmt.Sprint(listOf(0, 10, 200), 0)}, {ephemeris(0, 10), 0, 1989, fmt.Sprint(listOf(0, 10, 199), 0)},
		{ephemeris(10000000, 1), 9999801, 10000000, fmt.Sprint(listOf(9999801, 1, 200), 0)}, {ephemeris(10000000, 1), 9999800, 10000000, "[] 5"},
		{ephemeris(10000000, 50000), 0, 9999999, fmt.Sprint(listOf(0, 50000, 200), 0)}, {ephemeris(10000000, 50000), 1, 10000000, fmt.Sprint(listOf(50000, 50000, 200), 0)},
		{ephemeris(10000000, 50000), 0, 10000000, "[] 5"}, {ephemeris(0, 1), 0, 10000000, "[] 5"}, {ephemeris(10000000, 1), 0, 10000000, "[] 5"}, {ephemeris(0, 10), 0, 5000, "[] 5"},
		// Errors, and their order.
		{e, -1, 170, "[] 2"}, {e, 90, -1, "[] 2"}, {e, 10000001, 170, "[] 2"}, {e, 90, 10000001, "[] 2"}, {e, -1, 10000001, "[] 2"}, {e, 10000001, -1, "[] 2"},
		{ephemeris(0, 1), -1, 10000000, "[] 2"}, {ephemeris(0, 1), 0, 10000001, "[] 2"}, {ephemeris(0, 1), math.MinInt64, math.MaxInt64, "[] 2"}, {ephemeris(0, 1), math.MaxInt64, math.MinInt64, "[] 2"},
		{impl.Ephemeris{}, 0, 10000000, "[] 1"}, {impl.Ephemeris{}, -1, 10000001, "[] 1"}, {ephemeris(-1, 1), 0, 10000000, "[] 1"}, {ephemeris(100, 1000001), -1, 170, "[] 1"},
		{ephemeris(10000001, 30), 90, -1, "[] 1"}, {ephemeris(math.MaxInt64, -1), math.MinInt64, math.MaxInt64, "[] 1"},
	} {
		times, code := impl.TimesIn(x.e, x.from, x.to)
		same(t, fmt.Sprint("TimesIn ", x.e, x.from, x.to), x.want, times, code)
	}
}

// TestTimesInByWalking takes all times with the phase 0 between both.
func TestTimesInByWalking(t *testing.T) {
	for _, epoch := range []int64{0, 1, 4, 5, 17, 30} {
		for period := int64(1); period <= 32; period++ {
			e := ephemeris(epoch, period)
			for from := range int64(40) {
				for to := int64(0); to <= 60; to += 1 + to%3 {
					var want []int64
					for time := from; time <= to; time++ {
						if phaseWanted(e, time) == 0 {
							want = append(want, time)
						}
					}
					times, code := impl.TimesIn(e, from, to)
					if code != impl.OK || !slices.Equal(times, want) {
						t.Fatalf("TimesIn(%v, %d, %d): got %v %d, want %v", e, from, to, times, code, want)
					}
				}
			}
		}
	}
}

// timesInWanted goes from an extremum to the next one.
func timesInWanted(e impl.Ephemeris, from, to int64) string {
	if !isTime(from) || !isTime(to) {
		return "[] 2"
	}
	first := from
	if phase := phaseWanted(e, from); phase > 0 {
		first += e.Period - phase
	}
	var times []int64
	for time := first; time <= to; time += e.Period {
		if len(times) == 200 {
			return "[] 5"
		}
		times = append(times, time)
	}
	return fmt.Sprint(times, 0)
}

func TestTimesInForAllArguments(t *testing.T) {
	codes := map[int64]int{}
	for _, e := range goodEphemerides() {
		around := append(timesAround(e), -1, 10000001, math.MinInt64, math.MaxInt64)
		for _, from := range around {
			for _, to := range around {
				times, code := impl.TimesIn(e, from, to)
				same(t, fmt.Sprint("TimesIn ", e, from, to), timesInWanted(e, from, to), times, code)
				codes[code]++
			}
		}
	}
	if codes[impl.OK] < 10000 || codes[impl.ErrFull] < 1000 {
		t.Errorf("too few of some code: %v", codes)
	}
	for _, e := range badEphemerides() {
		for _, time := range edgeTimes {
			one, oneCode := impl.TimesIn(e, time, 170)
			two, twoCode := impl.TimesIn(e, 90, time)
			same(t, fmt.Sprint("TimesIn ", e, time), "[] 1 [] 1", one, oneCode, two, twoCode)
		}
	}
}

// curveAt has points at these times.
func curveAt(times ...int64) []impl.Point {
	list := make([]impl.Point, len(times))
	for i, time := range times {
		list[i] = impl.Point{Time: time, Mag: 9000 + int64(i)}
	}
	return list
}

func TestFoldOrder(t *testing.T) {
	for _, x := range []struct {
		e     impl.Ephemeris
		curve []impl.Point
		want  string
	}{
		{ephemeris(0, 100), curveAt(10, 120, 205), "[2 0 1] 0"},
		{ephemeris(0, 1000), curveAt(10, 120, 205), "[0 1 2] 0"},
		{ephemeris(0, 100), curveAt(90, 180, 270, 360, 450), "[4 3 2 1 0] 0"},
		{ephemeris(0, 90), curveAt(90, 180, 270, 360, 450), "[0 1 2 3 4] 0"},
		// Equal phases.
		{ephemeris(0, 1), curveAt(3, 4, 5, 9), "[0 1 2 3] 0"},
		{ephemeris(0, 100), curveAt(50, 110, 150, 210, 250, 310), "[1 3 5 0 2 4] 0"},
		{ephemeris(0, 2), curveAt(0, 1, 2, 3, 4, 5), "[0 2 4 1 3 5] 0"}, {ephemeris(1, 2), curveAt(0, 1, 2, 3, 4, 5), "[1 3 5 0 2 4] 0"},
		// Another epoch turns the order.
		{ephemeris(11, 100), curveAt(10, 120, 205), "[1 2 0] 0"}, {ephemeris(10, 100), curveAt(10, 120, 205), "[0 1 2] 0"}, {ephemeris(220, 100), curveAt(10, 120, 205), "[1 2 0] 0"},
		// Before the epoch.
		{ephemeris(500, 100), curveAt(10, 120, 205), "[2 0 1] 0"}, {ephemeris(10000000, 100), curveAt(10, 120, 205), "[2 0 1] 0"}, {ephemeris(300, 300), curveAt(0, 299, 300, 301), "[0 2 3 1] 0"},
		{ephemeris(100, 30), curveAt(69, 70, 71, 99, 100, 101), "[1 4 2 5 0 3] 0"}, {ephemeris(10000000, 1000000), curveAt(0, 999999, 1000000, 9000001, 10000000), "[0 2 4 3 1] 0"},
		{ephemeris(0, 1000000), curveAt(0, 999999, 1000000, 9000001, 10000000), "[0 2 4 3 1] 0"},
		// The empty curve, and curves with one point.
		{ephemeris(0, 100), nil, "[] 0"}, {ephemeris(0, 100), []impl.Point{}, "[] 0"}, {ephemeris(10000000, 1), curveAt(0), "[0] 0"}, {ephemeris(0, 1000000), curveAt(10000000), "[0] 0"},
		// Errors.
		{impl.Ephemeris{}, curveAt(10, 120), "[] 1"}, {impl.Ephemeris{}, nil, "[] 1"}, {ephemeris(-1, 100), curveAt(10, 120), "[] 1"}, {ephemeris(0, 1000001), curveAt(10, 120), "[] 1"},
		{ephemeris(0, 100), curveAt(10, 10), "[] 1"}, {ephemeris(0, 100), curveAt(120, 10), "[] 1"}, {ephemeris(0, 100), curveAt(-1), "[] 1"}, {ephemeris(0, 100), points(5, 20001), "[] 1"},
		{ephemeris(0, 0), curveAt(10, 10), "[] 1"}, {ephemeris(0, 100), append(fullCurve(), points(10000000, 1)...), "[] 1"},
	} {
		order, code := impl.FoldOrder(x.e, x.curve)
		same(t, fmt.Sprint("FoldOrder ", x), x.want, order, code)
	}
}

// foldWanted puts one point after the other behind those with phases that are not greater.
func foldWanted(e impl.Ephemeris, curve []impl.Point) string {
	var order []int64
	for i, p := range curve {
		place := len(order)
		for place > 0 && phaseWanted(e, curve[order[place-1]].Time) > phaseWanted(e, p.Time) {
			place--
		}
		order = slices.Insert(order, place, int64(i))
	}
	return fmt.Sprint(order, 0)
}

func TestFoldOrderForAllArguments(t *testing.T) {
	fold := func(e impl.Ephemeris) func(curve []impl.Point) []any {
		return func(curve []impl.Point) []any {
			order, code := impl.FoldOrder(e, curve)
			return []any{order, code}
		}
	}
	for _, curve := range goodCurves() {
		for _, e := range goodEphemerides() {
			checkCurve(t, fmt.Sprint("FoldOrder ", e), curve, foldWanted(e, curve), fold(e))
		}
	}
	for _, curve := range goodCurves()[:25] {
		for _, e := range badEphemerides() {
			checkCurve(t, fmt.Sprint("FoldOrder ", e), curve, "[] 1", fold(e))
		}
	}
	for _, curve := range badCurves() {
		for _, e := range append(goodEphemerides()[:9], badEphemerides()[:3]...) {
			checkCurve(t, fmt.Sprint("FoldOrder ", e), curve, "[] 1", fold(e))
		}
	}
}

// TestFoldingOrdersByPhases is the second half of promise 9: each point is there, by its phase and then by its index.
func TestFoldingOrdersByPhases(t *testing.T) {
	equal, less := 0, 0
	for _, curve := range goodCurves() {
		for _, e := range goodEphemerides() {
			order, code := impl.FoldOrder(e, curve)
			if code != impl.OK || !slices.Equal(slices.Sorted(slices.Values(order)), listOf(0, 1, int64(len(curve)))) {
				t.Fatalf("FoldOrder(%v, %v): got %v %d", e, curve, order, code)
			}
			for i := range len(order) - 1 {
				one, _ := impl.PhaseOf(e, curve[order[i]].Time)
				two, _ := impl.PhaseOf(e, curve[order[i+1]].Time)
				if one > two || one == two && order[i] >= order[i+1] {
					t.Fatalf("FoldOrder(%v, %v): got %v with the phases %d and %d", e, curve, order, one, two)
				}
				if one == two {
					equal++
				} else {
					less++
				}
			}
		}
	}
	if equal < 1000 || less < 1000 {
		t.Errorf("only %d pairs of equal phases, and %d of others", equal, less)
	}
}

func TestPhaseCountsAndMeans(t *testing.T) {
	e, mixed := ephemeris(0, 100), points(10, 9000, 120, 9100, 205, 9200)
	for _, x := range []struct {
		e     impl.Ephemeris
		curve []impl.Point
		bins  int64
		want  string // the counts and the means, each with its code
	}{
		{e, mixed, 5, "[2 1 0 0 0] 0 [{0 9100} {1 9100}] 0"},
		{e, mixed, 1, "[3] 0 [{0 9100}] 0"},
		{e, mixed, 2, "[3 0] 0 [{0 9100}] 0"},
		{e, mixed, 10, "[1 1 1 0 0 0 0 0 0 0] 0 [{0 9200} {1 9000} {2 9100}] 0"},
		{e, points(0, 5, 99, 7), 50, "[1" + zeros(48) + " 1] 0 [{0 5} {49 7}] 0"},
		// Phases just at the edge between two bins, and just before it.
		{e, points(19, 1, 20, 2), 5, "[1 1 0 0 0] 0 [{0 1} {1 2}] 0"}, {e, points(79, 1, 80, 2, 99, 3, 100, 4), 5, "[1 0 0 1 2] 0 [{0 4} {3 1} {4 3}] 0"},
		{e, points(33, 1, 34, 2, 66, 3, 67, 4), 3, "[1 2 1] 0 [{0 1} {1 3} {2 4}] 0"}, {e, points(49, 1, 50, 2), 2, "[1 1] 0 [{0 1} {1 2}] 0"},
		{ephemeris(0, 1000000), points(19999, 1, 20000, 2, 979999, 3, 980000, 4), 50, "[1 1" + zeros(46) + " 1 1] 0 [{0 1} {1 2} {48 3} {49 4}] 0"},
		{ephemeris(0, 999999), points(19999, 1, 20000, 2, 999998, 3), 50, "[1 1" + zeros(47) + " 1] 0 [{0 1} {1 2} {49 3}] 0"},
		// More bins than the period.
		{ephemeris(0, 3), points(3, 1, 4, 2, 5, 3, 6, 4), 7, "[2 0 1 0 1 0 0] 0 [{0 3} {2 2} {4 3}] 0"}, {ephemeris(0, 1), points(3, 1, 4, 2, 5, 3), 4, "[3 0 0 0] 0 [{0 2}] 0"},
		{ephemeris(0, 49), points(0, 1, 48, 2), 50, "[1" + zeros(47) + " 1 0] 0 [{0 1} {48 2}] 0"}, {ephemeris(0, 50), points(0, 1, 49, 2), 50, "[1" + zeros(48) + " 1] 0 [{0 1} {49 2}] 0"},
		{ephemeris(10, 2), points(9, 1, 10, 2), 50, "[1" + zeros(24) + " 1" + zeros(24) + "] 0 [{0 2} {25 1}] 0"},
		// Before the epoch.
		{ephemeris(100, 30), points(69, 1, 70, 2, 71, 4, 89, 5, 90, 6, 99, 7, 100, 8), 3, "[3 1 3] 0 [{0 5} {1 5} {2 5}] 0"}, {ephemeris(10000000, 100), mixed, 5, "[2 1 0 0 0] 0 [{0 9100} {1 9100}] 0"},
		{ephemeris(10000000, 1000000), points(0, 1, 999999, 2, 1000000, 5), 2, "[2 1] 0 [{0 3} {1 2}] 0"}, {ephemeris(300, 100), points(99, 1, 101, 2, 199, 3), 4, "[1 0 0 2] 0 [{0 2} {3 2}] 0"},
		// Means half between two integers, and others, and below 0.
		{e, points(1, 1, 2, 2), 1, "[2] 0 [{0 2}] 0"}, {e, points(1, -1, 2, -2), 1, "[2] 0 [{0 -1}] 0"}, {e, points(1, 0, 2, -1), 1, "[2] 0 [{0 0}] 0"}, {e, points(1, 0, 2, -3), 1, "[2] 0 [{0 -1}] 0"},
		{e, points(1, 1, 2, 1, 3, 2), 1, "[3] 0 [{0 1}] 0"}, {e, points(1, 1, 2, 2, 3, 2), 1, "[3] 0 [{0 2}] 0"}, {e, points(1, -1, 2, -1, 3, -2), 1, "[3] 0 [{0 -1}] 0"},
		{e, points(1, -1, 2, -2, 3, -2), 1, "[3] 0 [{0 -2}] 0"}, {e, points(1, 0, 2, 0, 3, 90), 1, "[3] 0 [{0 30}] 0"}, {e, points(1, -2000, 2, -2000, 51, 20000, 52, 20000), 2, "[2 2] 0 [{0 -2000} {1 20000}] 0"},
		{e, points(1, 1, 101, 2, 201, 9), 2, "[3 0] 0 [{0 4}] 0"},
		// The empty curve, and curves with one point.
		{e, nil, 3, "[0 0 0] 0 [] 0"}, {e, []impl.Point{}, 1, "[0] 0 [] 0"}, {e, nil, 50, "[0" + zeros(49) + "] 0 [] 0"}, {e, points(70, -9), 3, "[0 0 1] 0 [{2 -9}] 0"}, {ephemeris(10000000, 1), points(0, 20000), 1, "[1] 0 [{0 20000}] 0"},
		// Errors, and their order.
		{e, mixed, 0, "[] 2 [] 2"}, {e, mixed, -1, "[] 2 [] 2"}, {e, mixed, 51, "[] 2 [] 2"}, {e, nil, 51, "[] 2 [] 2"}, {e, nil, 0, "[] 2 [] 2"}, {e, mixed, math.MaxInt64, "[] 2 [] 2"}, {e, mixed, math.MinInt64, "[] 2 [] 2"},
		{impl.Ephemeris{}, mixed, 5, "[] 1 [] 1"}, {impl.Ephemeris{}, mixed, 0, "[] 1 [] 1"}, {impl.Ephemeris{}, nil, 5, "[] 1 [] 1"}, {ephemeris(-1, 100), mixed, 5, "[] 1 [] 1"}, {ephemeris(0, 1000001), mixed, 51, "[] 1 [] 1"},
		{e, points(5, 1, 5, 1), 5, "[] 1 [] 1"}, {e, points(5, 1, 5, 1), 0, "[] 1 [] 1"}, {e, points(-1, 1), 5, "[] 1 [] 1"}, {e, points(5, 20001), 51, "[] 1 [] 1"}, {impl.Ephemeris{}, points(5, 20001), 51, "[] 1 [] 1"},
		{e, append(fullCurve(), points(10000000, 1)...), 5, "[] 1 [] 1"},
	} {
		same(t, fmt.Sprint("counts and means ", x), x.want, countsAndMeans(x.e, x.curve, x.bins)...)
	}
}

// zeros is the text of count zeros behind others in a list.
func zeros(count int) string {
	text := ""
	for range count {
		text += " 0"
	}
	return text
}

func countsAndMeans(e impl.Ephemeris, curve []impl.Point, bins int64) []any {
	counts, one := impl.PhaseCounts(e, curve, bins)
	means, two := impl.PhaseMeans(e, curve, bins)
	return []any{counts, one, means, two}
}

// countsAndMeansWanted looks for the points of each bin, whose phases begin at its index * Period / bins.
func countsAndMeansWanted(e impl.Ephemeris, curve []impl.Point, bins int64) string {
	if !between(bins, 1, 50) {
		return "[] 2 [] 2"
	}
	var counts []int
	var means []impl.Point
	for bin := range bins {
		var mags []int64
		for _, p := range curve {
			if phase := phaseWanted(e, p.Time); bin*e.Period <= bins*phase && bins*phase < (bin+1)*e.Period {
				mags = append(mags, p.Mag)
			}
		}
		counts = append(counts, len(mags))
		if len(mags) > 0 {
			means = append(means, impl.Point{Time: bin, Mag: meanWanted(mags)})
		}
	}
	return fmt.Sprint(counts, 0, means, 0)
}

func TestPhaseCountsAndMeansForAllArguments(t *testing.T) {
	ephemerides := goodEphemerides()
	for i, curve := range goodCurves() {
		for k, e := range ephemerides {
			// All bins for some of the ephemerides, and some bins for all of them.
			for n, bins := range edgePhaseBins {
				if (i+k)%5 == 0 || (i+k+n)%5 == 0 {
					want := countsAndMeansWanted(e, curve, bins)
					checkCurve(t, fmt.Sprint("counts and means ", e, bins), curve, want, func(curve []impl.Point) []any { return countsAndMeans(e, curve, bins) })
				}
			}
		}
	}
	for _, bins := range edgePhaseBins {
		for _, e := range badEphemerides() {
			for _, curve := range [][]impl.Point{nil, exampleCurve(), fullCurve(), points(5, 20001)} {
				same(t, fmt.Sprint("counts and means ", e, curve, bins), "[] 1 [] 1", countsAndMeans(e, curve, bins)...)
			}
		}
		for _, curve := range badCurves() {
			same(t, fmt.Sprint("counts and means ", curve, bins), "[] 1 [] 1", countsAndMeans(ephemeris(0, 100), curve, bins)...)
		}
	}
}

// TestEveryPointHasItsBin adds the counts of all bins, and compares each of them with the means.
func TestEveryPointHasItsBin(t *testing.T) {
	for _, curve := range goodCurves() {
		for i, e := range goodEphemerides() {
			bins := int64(1 + i%50)
			counts, one := impl.PhaseCounts(e, curve, bins)
			means, two := impl.PhaseMeans(e, curve, bins)
			sum, filled := int64(0), []int64(nil)
			for bin, count := range counts {
				sum += count
				if count > 0 {
					filled = append(filled, int64(bin))
				}
			}
			var told []int64
			for _, mean := range means {
				told = append(told, mean.Time)
			}
			if one != impl.OK || two != impl.OK || int64(len(counts)) != bins || sum != int64(len(curve)) || !slices.Equal(filled, told) {
				t.Fatalf("%v of %v in %d bins: got %v %d and %v %d", e, curve, bins, counts, one, means, two)
			}
		}
	}
}

func TestAliasOf(t *testing.T) {
	for _, x := range []struct {
		period, gap int64
		want        string
	}{
		{5000, 10000, "[3333 10000] 0"},
		// A gap that is smaller, equal and greater.
		{10000, 5000, "[3333 10000] 0"}, {10000, 9999, "[5000] 0"}, {10000, 10000, "[5000] 0"}, {9999, 10000, "[5000] 0"}, {6, 3, "[2 6] 0"}, {3, 6, "[2 6] 0"}, {1000, 3000, "[750 1500] 0"},
		{30, 10000, "[30 30] 0"}, {10000, 30, "[30 30] 0"}, {12345, 10000, "[5525 52644] 0"},
		{2, 2, "[1] 0"}, {4, 4, "[2] 0"}, {1000000, 1000000, "[500000] 0"}, {999998, 999998, "[499999] 0"},
		// Just half between two integers.
		{1, 1, "[1] 0"}, {3, 3, "[2] 0"}, {5, 5, "[3] 0"}, {999999, 999999, "[500000] 0"}, {2, 6, "[2 3] 0"}, {6, 2, "[2 3] 0"}, {1, 3, "[1 2] 0"}, {3, 1, "[1 2] 0"}, {3, 5, "[2 8] 0"}, {5, 3, "[2 8] 0"},
		// The least and the greatest arguments.
		{1, 1000000, "[1 1] 0"}, {1000000, 1, "[1 1] 0"}, {1, 2, "[1 2] 0"}, {2, 1, "[1 2] 0"}, {1000000, 999999, "[500000] 0"}, {999999, 1000000, "[500000] 0"}, {1000000, 500000, "[333333 1000000] 0"},
		// An alias of MaxPeriod, and one beyond it.
		{500000, 1000000, "[333333 1000000] 0"}, {488000, 953125, "[322751 1000000] 0"}, {271575, 372825, "[157123 1000000] 0"}, {372825, 271575, "[157123 1000000] 0"}, {499999, 999996, "[333332 1000000] 0"},
		{500000, 999999, "[333333] 0"}, {499999, 999995, "[333332] 0"}, {999999, 500000, "[333333] 0"}, {500001, 1000000, "[333334] 0"},
		// Errors.
		{0, 10000, "[] 2"}, {5000, 0, "[] 2"}, {0, 0, "[] 2"}, {-1, 10000, "[] 2"}, {5000, -1, "[] 2"}, {1000001, 10000, "[] 2"}, {5000, 1000001, "[] 2"}, {1000001, 1000001, "[] 2"}, {-5000, 5000, "[] 2"},
		{math.MinInt64, math.MinInt64, "[] 2"}, {math.MaxInt64, math.MaxInt64, "[] 2"}, {math.MinInt64, math.MaxInt64, "[] 2"}, {5000, math.MaxInt64, "[] 2"}, {math.MinInt64, 5000, "[] 2"},
	} {
		aliases, code := impl.AliasOf(x.period, x.gap)
		same(t, fmt.Sprint("AliasOf ", x.period, x.gap), x.want, aliases, code)
	}
}

// aliasWanted takes the sum and the difference of 1 / period and 1 / gap, and turns them over.
func aliasWanted(period, gap int64) string {
	if !between(period, 1, 1_000_000) || !between(gap, 1, 1_000_000) {
		return "[] 2"
	}
	one, two := big.NewRat(1, period), big.NewRat(1, gap)
	var aliases []int64
	for _, often := range []*big.Rat{new(big.Rat).Add(one, two), new(big.Rat).Sub(one, two)} {
		if often.Sign() == 0 {
			continue
		}
		if alias := nearestOf(often.Inv(often.Abs(often))); between(alias, 1, 1_000_000) {
			aliases = append(aliases, alias)
		}
	}
	return fmt.Sprint(aliases, 0)
}

func TestAliasOfForAllArguments(t *testing.T) {
	r := rand.New(rand.NewPCG(9, 10))
	check := func(period, gap int64) {
		got := twice(t, "AliasOf", func() []any {
			aliases, code := impl.AliasOf(period, gap)
			return []any{aliases, code}
		})
		same(t, fmt.Sprint("AliasOf ", period, gap), aliasWanted(period, gap), got...)
	}
	for _, period := range edgePeriods {
		for _, gap := range edgePeriods {
			check(period, gap)
		}
	}
	for period := range int64(80) {
		for gap := range int64(80) {
			check(period, gap)
		}
	}
	for range 10000 {
		period := 1 + r.Int64N(1_000_000)
		check(period, 1+r.Int64N(1_000_000))
		check(period, period+r.Int64N(7)-3)
		check(490_000+period%20_000, 1_000_000-period%30)
	}
}

// TestResultsOfPhasesAreNewSlices changes each result with its unused capacity, and asks again.
func TestResultsOfPhasesAreNewSlices(t *testing.T) {
	e, curve := ephemeris(100, 3000), exampleCurve()
	for i, call := range []func() []int64{
		func() []int64 { times, _ := impl.TimesIn(e, 0, 9200); return times },
		func() []int64 { order, _ := impl.FoldOrder(e, curve); return order },
		func() []int64 { counts, _ := impl.PhaseCounts(e, curve, 7); return counts },
		func() []int64 { aliases, _ := impl.AliasOf(5000, 10000); return aliases },
	} {
		first := call()
		want := fmt.Sprint(first)
		clear(first[:cap(first)])
		same(t, fmt.Sprint("call ", i), fmt.Sprint(want+" ", exampleCurve()), call(), curve)
		if len(first) < 2 {
			t.Errorf("call %d: only %s", i, want)
		}
	}
	means, _ := impl.PhaseMeans(e, curve, 7)
	want := fmt.Sprint(means)
	clear(means[:cap(means)])
	again, _ := impl.PhaseMeans(e, curve, 7)
	same(t, "PhaseMeans", fmt.Sprint(want+" ", exampleCurve()), again, curve)
}

// TestPhasesForAllArguments is promise 1 for chapter 9: each call returns, and returns the same again.
func TestPhasesForAllArguments(t *testing.T) {
	curves := append(goodCurves()[:25], badCurves()...)
	odd := numbers(-1, 0, 1, 2, 30, 50, 51, 200, 1000000, 1000001, 10000000, 10000001)
	for i, epoch := range odd {
		for k, period := range odd {
			e := ephemeris(epoch, period)
			for n, number := range odd {
				other := odd[(i+k*5+n*3)%len(odd)]
				keepPoints(t, "phases", curves[(i*67+k*13+n)%len(curves)], func(curve []impl.Point) {
					twice(t, "phases", func() []any {
						times, one := impl.TimesIn(e, number, other)
						order, two := impl.FoldOrder(e, curve)
						aliases, three := impl.AliasOf(number, other)
						all := append(momentsOf(e, number), countsAndMeans(e, curve, number)...)
						return append(all, impl.ValidEphemeris(e), impl.EphemerisText(e), times, one, order, two, aliases, three)
					})
				})
			}
		}
	}
}
