package tests

import (
	"fmt"
	"math"
	"math/rand/v2"
	"runtime"
	"slices"
	"sync"
	"testing"
	"time"

	"loop.example/g01026/impl"
)

// edgeSearchNumbers are numbers at and beside the limits of the fields of a search.
var edgeSearchNumbers = numbers(-1000000, -500, -1, 0, 1, 2, 3, 499, 500, 501, 502, 1999, 2000, 2001, 2004, 2005, 998001, 999500, 999501, 999999, 1000000, 1000001, 1000002)

// edgeParts are numbers at and beside the limits of the parts of a step.
var edgeParts = numbers(-20, -2, -1, 0, 1, 2, 3, 7, 19, 20, 21, 22, 500)

func search(from, to, step int64) impl.Search { return impl.Search{From: from, To: to, Step: step} }

// foldedCurve has strings of 2000 for the periods 50, 100, 150, and from 301 on, and of 1000 for those from 151 to 300.
func foldedCurve() []impl.Point { return points(0, 9000, 100, 9500, 200, 9000, 300, 9500) }

// zigzag has count points at the times 0, 1, 2 and so on, which go up and down as far as they can.
func zigzag(count int) []impl.Point {
	mags := make([]int64, count)
	for i := range mags {
		mags[i] = []int64{-2000, 20000}[i%2]
	}
	return curveOfMags(mags...)
}

// isSearch walks along the periods, at most one more than there may be.
func isSearch(x impl.Search) bool {
	if x.From < 1 || x.To < x.From || x.To > 1_000_000 || x.Step < 1 || x.Step > 1_000_000 {
		return false
	}
	count := 0
	for period := x.From; period <= x.To && count <= 500; period += x.Step {
		count++
	}
	return count <= 500
}

func periodsWanted(x impl.Search) []int64 {
	var list []int64
	for period := x.From; period <= x.To; period += x.Step {
		list = append(list, period)
	}
	return list
}

func goodSearches() []impl.Search {
	list := []impl.Search{
		search(1, 1, 1), search(1, 1, 1000000), search(1000000, 1000000, 1), search(1000000, 1000000, 1000000), search(1, 1000000, 1000000), search(7, 1000000, 999993), search(7, 1000000, 999994),
		search(1, 500, 1), search(999501, 1000000, 1), search(1, 1000000, 2000), search(1, 998001, 2000), search(1, 2, 1), search(1, 3, 1), search(1, 3, 2), search(1, 4, 2), search(100, 400, 100),
		search(1, 99, 1), search(1, 100, 1), search(1, 101, 1), search(1, 199, 1), search(1, 200, 1), search(1, 201, 1), search(1, 300, 1), search(1, 301, 1), search(1, 499, 1), search(5, 1500, 3),
	}
	r := rand.New(rand.NewPCG(10, 1))
	for range 14 {
		step, count := 1+r.Int64N(40), 1+r.Int64N(120)
		from := 1 + r.Int64N(200)
		list = append(list, search(from, from+step*count-1-r.Int64N(step), step))
	}
	return list
}

// badSearches are not valid for just one reason, but for the first ones.
func badSearches() []impl.Search {
	list := []impl.Search{
		{}, search(0, 0, 1), search(-5, -5, 5), search(math.MinInt64, math.MaxInt64, 1), search(math.MaxInt64, math.MinInt64, math.MinInt64), search(math.MinInt64, math.MinInt64, math.MinInt64),
		search(math.MaxInt64, math.MaxInt64, math.MaxInt64), search(math.MinInt64, math.MaxInt64, math.MaxInt64), search(1, math.MaxInt64, math.MaxInt64), search(1000001, 1000001, 1), search(1, 1000001, 2001),
		search(1, 501, 1), search(1, 502, 1), search(999500, 1000000, 1), search(1, 1000000, 1), search(1, 1000000, 1999), search(1, 1001, 2), search(2, 1, 1), search(400, 100, 100), search(1000000, 1, 1000000), search(101, 100, 1),
	}
	for _, n := range numbers(-100, -1, 0, 401, 1000001) {
		list = append(list, search(n, 400, 100))
	}
	for _, n := range numbers(-400, -1, 0, 1, 99, 1000001) {
		list = append(list, search(100, n, 1000000))
	}
	for _, n := range numbers(-100, -1, 0, 1000001) {
		list = append(list, search(100, 400, n))
	}
	return list
}

func TestConstantsOfStrings(t *testing.T) {
	same(t, "constants", "40 500", impl.MaxString, impl.MaxSearched)
}

func TestValidSearchAndPeriodsOf(t *testing.T) {
	for _, x := range []struct {
		x    impl.Search
		want string
	}{
		{search(100, 400, 100), "true [100 200 300 400] 0"},
		// A To that is no period of the search, and just one.
		{search(100, 399, 100), "true [100 200 300] 0"}, {search(100, 401, 100), "true [100 200 300 400] 0"}, {search(3, 10, 3), "true [3 6 9] 0"}, {search(3, 9, 3), "true [3 6 9] 0"}, {search(3, 8, 3), "true [3 6] 0"},
		// A single period.
		{search(5, 5, 1), "true [5] 0"}, {search(5, 5, 1000000), "true [5] 0"}, {search(5, 14, 10), "true [5] 0"}, {search(5, 15, 10), "true [5 15] 0"}, {search(1, 1, 1), "true [1] 0"}, {search(1000000, 1000000, 1), "true [1000000] 0"},
		// The least and the greatest fields.
		{search(1, 1000000, 1000000), "true [1] 0"}, {search(1, 1000000, 999999), "true [1 1000000] 0"}, {search(1, 1000000, 999998), "true [1 999999] 0"}, {search(1, 3, 1), "true [1 2 3] 0"}, {search(999998, 1000000, 1), "true [999998 999999 1000000] 0"},
		// Just as many periods as there may be, and one more.
		{search(1, 500, 1), fmt.Sprint("true ", listOf(1, 1, 500), 0)}, {search(1, 501, 1), "false [] 1"}, {search(999501, 1000000, 1), fmt.Sprint("true ", listOf(999501, 1, 500), 0)}, {search(999500, 1000000, 1), "false [] 1"},
		{search(1, 1000000, 2000), fmt.Sprint("true ", listOf(1, 2000, 500), 0)}, {search(1, 1000000, 1999), "false [] 1"}, {search(1, 999499, 1999), fmt.Sprint("true ", listOf(1, 1999, 500), 0)}, {search(1, 999501, 1999), "false [] 1"},
		{search(10, 5009, 10), fmt.Sprint("true ", listOf(10, 10, 500), 0)}, {search(10, 5010, 10), "false [] 1"}, {search(1, 499, 1), fmt.Sprint("true ", listOf(1, 1, 499), 0)},
		// Fields beside their ranges.
		{search(0, 400, 100), "false [] 1"}, {search(-100, 400, 100), "false [] 1"}, {search(401, 400, 100), "false [] 1"}, {search(100, 99, 100), "false [] 1"}, {search(100, 0, 100), "false [] 1"}, {search(999990, 1000001, 2), "false [] 1"},
		{search(1000001, 1000001, 2), "false [] 1"}, {search(100, 400, 0), "false [] 1"}, {search(100, 400, -100), "false [] 1"}, {search(100, 400, 1000001), "false [] 1"}, {search(400, 100, -100), "false [] 1"}, {impl.Search{}, "false [] 1"},
		{search(math.MinInt64, math.MaxInt64, math.MaxInt64), "false [] 1"}, {search(1, math.MaxInt64, math.MaxInt64), "false [] 1"}, {search(math.MinInt64, 1, 1), "false [] 1"}, {search(1, 5, math.MinInt64), "false [] 1"},
	} {
		periods, code := impl.PeriodsOf(x.x)
		same(t, fmt.Sprint("search ", x.x), x.want, impl.ValidSearch(x.x), periods, code)
	}
}

func TestPeriodsOfForAllArguments(t *testing.T) {
	check := func(x impl.Search, valid bool) {
		want := "false [] 1"
		if valid {
			want = fmt.Sprint("true ", periodsWanted(x), 0)
		}
		same(t, fmt.Sprint("search ", x), want, twice(t, "search", func() []any {
			periods, code := impl.PeriodsOf(x)
			return []any{impl.ValidSearch(x), periods, code}
		})...)
	}
	for _, from := range edgeSearchNumbers {
		for _, to := range edgeSearchNumbers {
			for _, step := range edgeSearchNumbers {
				check(search(from, to, step), isSearch(search(from, to, step)))
			}
		}
	}
	for _, x := range goodSearches() {
		check(x, true)
	}
	for _, x := range badSearches() {
		check(x, false)
	}
}

func TestStringLength(t *testing.T) {
	curve, mixed := foldedCurve(), points(0, 0, 10, 100, 20, 30, 25, 200, 35, 70)
	for _, x := range []struct {
		curve  []impl.Point
		period int64
		want   string
	}{
		{curve, 200, "1000 0"}, {curve, 100, "2000 0"}, {curve, 150, "2000 0"}, {curve, 250, "1000 0"}, {curve, 300, "1000 0"}, {curve, 301, "2000 0"}, {curve, 400, "2000 0"}, {curve, 175, "1000 0"},
		// Periods that are longer than the whole curve, and the least and the greatest one.
		{curve, 1000, "2000 0"}, {curve, 1000000, "2000 0"}, {curve, 1, "2000 0"}, {mixed, 36, "540 0"}, {mixed, 1000000, "540 0"}, {points(0, 5, 1, -5, 999998, 7, 999999, 8), 1000000, "26 0"},
		// Points with equal phases stay in their order.
		{mixed, 10, "540 0"}, {mixed, 5, "540 0"}, {mixed, 1, "540 0"}, {mixed, 20, "400 0"}, {points(0, 1, 7, 9, 14, 4, 21, 6), 7, "20 0"}, {points(0, 5, 1, -5, 2000000, 7, 2000001, 8), 1000000, "30 0"},
		// The epoch is 0, wherever the curve begins.
		{points(150, 9000, 250, 9500, 350, 9000, 450, 9500), 200, "1000 0"}, {points(150, 0, 160, 5, 290, 100, 310, 205, 320, 105), 200, "410 0"}, {points(9999997, 1, 9999998, 5, 9999999, 2, 10000000, 9), 10000000, "0 2"},
		// No points, one, two and three.
		{nil, 1, "0 0"}, {[]impl.Point{}, 1000000, "0 0"}, {points(5, 9000), 3, "0 0"}, {points(5, -2000), 1000000, "0 0"}, {points(0, 9000, 5, 9100), 7, "200 0"}, {points(0, 9100, 5, 9000), 5, "200 0"},
		{points(0, -2000, 10000000, 20000), 1000000, "44000 0"}, {points(4, 7, 5, 7), 2, "0 0"}, {points(0, 1, 1, 5, 2, 3), 2, "8 0"}, {points(0, 1, 1, 5, 2, 3), 3, "8 0"},
		// Magnitudes below 0.
		{curveOfMags(-5, 5, -7, 7), 2, "28 0"}, {curveOfMags(-5, 5, -7, 7), 1, "48 0"}, {curveOfMags(-2000, -1999, -1990, -1), 9, "3998 0"}, {curveOfMags(0, -1, 0, -1), 2, "2 0"},
		// Just as many points as there may be, and one less.
		{zigzag(40), 1000000, "880000 0"}, {zigzag(40), 1, "880000 0"}, {zigzag(40), 2, "44000 0"}, {zigzag(40), 40, "880000 0"}, {zigzag(39), 100, "836000 0"}, {zigzag(39), 2, "44000 0"},
		// Errors, and their order.
		{zigzag(41), 2, "0 5"}, {zigzag(41), 1000000, "0 5"}, {zigzag(100), 2, "0 5"}, {zigzag(41), 0, "0 2"}, {zigzag(100), 1000001, "0 2"}, {zigzag(101), 2, "0 1"}, {zigzag(101), 0, "0 1"},
		{curve, 0, "0 2"}, {curve, -1, "0 2"}, {curve, -200, "0 2"}, {curve, 1000001, "0 2"}, {curve, math.MaxInt64, "0 2"}, {curve, math.MinInt64, "0 2"}, {nil, 0, "0 2"}, {nil, 1000001, "0 2"},
		{points(5, 1, 5, 1), 3, "0 1"}, {points(6, 1, 5, 1), 0, "0 1"}, {points(-1, 1), 3, "0 1"}, {points(10000001, 1), 3, "0 1"}, {points(5, 20001), 3, "0 1"}, {points(5, -2001), -3, "0 1"},
	} {
		length, code := impl.StringLength(x.curve, x.period)
		same(t, fmt.Sprint("StringLength ", x.curve, x.period), x.want, length, code)
	}
}

// lengthWanted takes, again and again, the first point with the least phase of those that are left.
func lengthWanted(curve []impl.Point, period int64) int64 {
	left := slices.Clone(curve)
	var mags []int64
	for len(left) > 0 {
		first := 0
		for i, p := range left {
			if p.Time%period < left[first].Time%period {
				first = i
			}
		}
		mags = append(mags, left[first].Mag)
		left = slices.Delete(left, first, first+1)
	}
	length := int64(0)
	for i := range mags {
		before := mags[(i+len(mags)-1)%len(mags)]
		length += max(mags[i], before) - min(mags[i], before)
	}
	return length
}

func TestStringLengthForAllArguments(t *testing.T) {
	for _, curve := range append(goodCurves(), zigzag(40), zigzag(41), zigzag(100), foldedCurve()) {
		for _, period := range append(edgePeriods, 4, 5, 8, 12, 100, 200, 300, 1234) {
			want := "0 2"
			switch {
			case !between(period, 1, 1_000_000):
			case len(curve) > 40:
				want = "0 5"
			default:
				want = fmt.Sprint(lengthWanted(curve, period), 0)
			}
			checkCurve(t, fmt.Sprint("StringLength ", period), curve, want, func(curve []impl.Point) []any {
				length, code := impl.StringLength(curve, period)
				return []any{length, code}
			})
		}
	}
	for _, curve := range badCurves() {
		for _, period := range edgePeriods {
			length, code := impl.StringLength(curve, period)
			same(t, fmt.Sprint("StringLength ", curve, period), "0 1", length, code)
		}
	}
}

// searchesOf returns what the functions of a curve and a search return: all lengths, the best and the second period.
func searchesOf(curve []impl.Point, x impl.Search) []any {
	lengths, one := impl.StringLengths(curve, x)
	best, two := impl.BestPeriod(curve, x)
	second, three := impl.SecondPeriod(curve, x)
	return []any{lengths, one, best, two, second, three}
}

func TestLengthsAndBestPeriods(t *testing.T) {
	curve, three := foldedCurve(), points(0, 1, 1, 5, 2, 3)
	for _, x := range []struct {
		curve []impl.Point
		x     impl.Search
		want  string // the lengths, the best and the second period, each with its code
	}{
		{curve, search(100, 400, 100), "[2000 1000 1000 2000] 0 200 0 400 0"},
		// The best period at the beginning, in the middle and at the end, alone and beside others of equal length.
		{curve, search(200, 400, 100), "[1000 1000 2000] 0 200 0 400 0"}, {curve, search(200, 400, 200), "[1000 2000] 0 200 0 0 3"}, {curve, search(200, 300, 50), "[1000 1000 1000] 0 200 0 300 0"},
		{curve, search(150, 350, 50), "[2000 1000 1000 1000 2000] 0 200 0 300 0"}, {curve, search(50, 200, 50), "[2000 2000 2000 1000] 0 200 0 50 0"}, {curve, search(100, 200, 50), "[2000 2000 1000] 0 200 0 100 0"},
		{curve, search(100, 300, 200), "[2000 1000] 0 300 0 0 3"}, {curve, search(1, 401, 100), "[2000 2000 1000 2000 2000] 0 201 0 1 0"}, {curve, search(50, 150, 50), "[2000 2000 2000] 0 50 0 150 0"},
		{curve, search(301, 303, 1), "[2000 2000 2000] 0 301 0 303 0"}, {curve, search(100, 375, 50), "[2000 2000 1000 1000 1000 2000] 0 200 0 300 0"},
		// Second periods that differ by a step, and by one more; above the best one, below it, and the least one on both sides.
		{curve, search(200, 250, 50), "[1000 1000] 0 200 0 0 3"}, {curve, search(200, 301, 50), "[1000 1000 1000] 0 200 0 300 0"}, {curve, search(150, 250, 50), "[2000 1000 1000] 0 200 0 0 3"},
		{curve, search(100, 250, 50), "[2000 2000 1000 1000] 0 200 0 100 0"}, {curve, search(50, 350, 75), "[2000 2000 1000 1000 2000] 0 200 0 50 0"}, {curve, search(50, 300, 50), "[2000 2000 2000 1000 1000 1000] 0 200 0 300 0"},
		// A single period has no second one.
		{curve, search(200, 200, 1), "[1000] 0 200 0 0 3"}, {curve, search(200, 300, 101), "[1000] 0 200 0 0 3"}, {curve, search(1, 1, 1), "[2000] 0 1 0 0 3"}, {curve, search(1000000, 1000000, 1000000), "[2000] 0 1000000 0 0 3"},
		{curve, search(1, 1000000, 1000000), "[2000] 0 1 0 0 3"}, {curve, search(1, 1000000, 999999), "[2000 2000] 0 1 0 0 3"}, {curve, search(1, 1000000, 499999), "[2000 2000 2000] 0 1 0 999999 0"},
		// Three points have the same string for all periods; of fewer ones there are lengths only.
		{three, search(1, 3, 1), "[8 8 8] 0 1 0 3 0"}, {three, search(7, 8, 1), "[8 8] 0 7 0 0 3"}, {three, search(9, 9, 1), "[8] 0 9 0 0 3"}, {three, search(2, 14, 4), "[8 8 8 8] 0 2 0 10 0"},
		{three[:2], search(1, 3, 1), "[8 8 8] 0 0 3 0 3"}, {three[:1], search(1, 3, 1), "[0 0 0] 0 0 3 0 3"}, {nil, search(1, 3, 1), "[0 0 0] 0 0 3 0 3"}, {[]impl.Point{}, search(5, 5, 1), "[0] 0 0 3 0 3"},
		// Magnitudes below 0, and just as many points as there may be.
		{curveOfMags(-5, 5, -7, 7), search(1, 3, 1), "[48 28 28] 0 2 0 0 3"}, {curveOfMags(-2000, -1000, -2000, -1000), search(1, 4, 1), "[4000 2000 2000 4000] 0 2 0 4 0"},
		{zigzag(40), search(1, 2, 1), "[880000 44000] 0 2 0 0 3"}, {zigzag(40), search(2, 1000000, 499999), "[44000 880000 880000] 0 2 0 1000000 0"}, {zigzag(40), search(1, 40, 39), "[880000 880000] 0 1 0 0 3"},
		// Errors, and their order.
		{zigzag(41), search(1, 2, 1), "[] 5 0 5 0 5"}, {zigzag(100), search(5, 5, 1), "[] 5 0 5 0 5"}, {zigzag(41), search(1, 501, 1), "[] 1 0 1 0 1"}, {zigzag(101), search(1, 2, 1), "[] 1 0 1 0 1"},
		{curve, impl.Search{}, "[] 1 0 1 0 1"}, {curve, search(1, 501, 1), "[] 1 0 1 0 1"}, {curve, search(0, 5, 1), "[] 1 0 1 0 1"}, {curve, search(6, 5, 1), "[] 1 0 1 0 1"}, {curve, search(1, 1000001, 5000), "[] 1 0 1 0 1"},
		{nil, impl.Search{}, "[] 1 0 1 0 1"}, {three[:2], search(1, 5, 0), "[] 1 0 1 0 1"}, {points(5, 1, 5, 1), search(1, 2, 1), "[] 1 0 1 0 1"}, {points(5, 20001), search(1, 2, 1), "[] 1 0 1 0 1"}, {points(-1, 1), impl.Search{}, "[] 1 0 1 0 1"},
		{curve, search(math.MinInt64, math.MaxInt64, 1), "[] 1 0 1 0 1"}, {curve, search(1, math.MaxInt64, math.MaxInt64), "[] 1 0 1 0 1"}, {zigzag(101), impl.Search{}, "[] 1 0 1 0 1"},
	} {
		same(t, fmt.Sprint("lengths and periods ", x.curve, x.x), x.want, searchesOf(x.curve, x.x)...)
	}
}

// shortestFirst are the periods of a search by the lengths of their strings, those with equal ones in ascending order.
func shortestFirst(curve []impl.Point, x impl.Search) []int64 {
	lengths := map[int64]int64{}
	for _, period := range periodsWanted(x) {
		lengths[period] = lengthWanted(curve, period)
	}
	periods := periodsWanted(x)
	slices.SortFunc(periods, func(a, b int64) int {
		if lengths[a] != lengths[b] {
			return int(lengths[a] - lengths[b])
		}
		return int(a - b)
	})
	return periods
}

// searchesWanted is for good curves and searches.
func searchesWanted(curve []impl.Point, x impl.Search) string {
	if len(curve) > 40 {
		return "[] 5 0 5 0 5"
	}
	var lengths []int64
	for _, period := range periodsWanted(x) {
		lengths = append(lengths, lengthWanted(curve, period))
	}
	if len(curve) < 3 {
		return fmt.Sprint(lengths, 0, 0, 3, 0, 3)
	}
	periods := shortestFirst(curve, x)
	for _, period := range periods {
		if period > periods[0]+x.Step || period < periods[0]-x.Step {
			return fmt.Sprint(lengths, 0, periods[0], 0, period, 0)
		}
	}
	return fmt.Sprint(lengths, 0, periods[0], 0, 0, 3)
}

// stringCurves are good curves with strings, and some with too many points.
func stringCurves() [][]impl.Point {
	list := [][]impl.Point{foldedCurve(), zigzag(3), zigzag(39), zigzag(40), zigzag(41), fullCurve()[:40], fullCurve()[60:], fullCurve()[:41], upsideDown(fullCurve()[:40]), steepCurve()[30:70]}
	for i, curve := range goodCurves() {
		if len(curve) <= 40 || i%9 == 0 {
			list = append(list, curve)
		}
	}
	r := rand.New(rand.NewPCG(10, 2))
	for range 20 {
		// Stars that change with a period, so that the searches find more than chance.
		period, time := 3+r.Int64N(40), r.Int64N(9)
		var curve []impl.Point
		for range 3 + r.Int64N(38) {
			curve = append(curve, impl.Point{Time: time, Mag: 9000 - 500*(time%period)/period})
			time += 1 + r.Int64N(20)
		}
		list = append(list, curve)
	}
	return list
}

func TestLengthsAndBestPeriodsForAllArguments(t *testing.T) {
	searches := goodSearches()
	for i, curve := range stringCurves() {
		for k, x := range searches {
			// Searches with many periods for some of the curves only.
			if len(periodsWanted(x)) < 30 || (i+k)%6 == 0 {
				checkCurve(t, fmt.Sprint("lengths and periods ", x), curve, searchesWanted(curve, x), func(curve []impl.Point) []any { return searchesOf(curve, x) })
			}
		}
	}
	for _, curve := range append(stringCurves()[:20], badCurves()[:20]...) {
		for _, x := range badSearches() {
			checkCurve(t, fmt.Sprint("lengths and periods ", x), curve, "[] 1 0 1 0 1", func(curve []impl.Point) []any { return searchesOf(curve, x) })
		}
	}
	for _, curve := range badCurves() {
		for _, x := range searches[:20] {
			checkCurve(t, fmt.Sprint("lengths and periods ", x), curve, "[] 1 0 1 0 1", func(curve []impl.Point) []any { return searchesOf(curve, x) })
		}
	}
}

// TestLengthsAreThoseOfThePeriods compares a search with its single periods.
func TestLengthsAreThoseOfThePeriods(t *testing.T) {
	for _, curve := range stringCurves() {
		for _, x := range goodSearches() {
			periods, one := impl.PeriodsOf(x)
			lengths, two := impl.StringLengths(curve, x)
			if len(curve) > 40 {
				same(t, fmt.Sprint("lengths ", curve, x), "0 [] 5", one, lengths, two)
				continue
			}
			if one != impl.OK || two != impl.OK || len(lengths) != len(periods) {
				t.Fatalf("%v for %v: got %d periods %d and %d lengths %d", curve, x, len(periods), one, len(lengths), two)
			}
			for i, period := range periods {
				if length, code := impl.StringLength(curve, period); code != impl.OK || length != lengths[i] {
					t.Fatalf("%v for %v, period %d: got %d %d and %d", curve, x, period, length, code, lengths[i])
				}
			}
		}
	}
}

// TestSecondPeriodIsNotNear is the second half of promise 10, with what the periods are the best ones of.
func TestSecondPeriodIsNotNear(t *testing.T) {
	found, equal, below := 0, 0, 0
	for _, curve := range stringCurves() {
		for _, x := range goodSearches() {
			second, code := impl.SecondPeriod(curve, x)
			best, _ := impl.BestPeriod(curve, x)
			if code != impl.OK {
				continue
			}
			one, _ := impl.StringLength(curve, best)
			two, _ := impl.StringLength(curve, second)
			if max(best, second)-min(best, second) <= x.Step {
				t.Fatalf("%v for %v: got %d near to %d", curve, x, second, best)
			}
			periods, _ := impl.PeriodsOf(x)
			lengths, _ := impl.StringLengths(curve, x)
			for i, period := range periods {
				near := max(best, period)-min(best, period) <= x.Step
				if lengths[i] < one || lengths[i] == one && period < best || !near && (lengths[i] < two || lengths[i] == two && period < second) {
					t.Fatalf("%v for %v: %d is better than %d or %d", curve, x, period, best, second)
				}
			}
			found++
			if one == two {
				equal++
			}
			if second < best {
				below++
			}
		}
	}
	if found < 1000 || equal < 100 || found-equal < 100 || below < 100 {
		t.Errorf("only %d second periods, %d with equal lengths, %d below the best one", found, equal, below)
	}
}

func TestRefineSearch(t *testing.T) {
	curve, three := foldedCurve(), points(0, 1, 1, 5, 2, 3)
	for _, x := range []struct {
		curve []impl.Point
		x     impl.Search
		parts int64
		want  string
	}{
		{curve, search(100, 400, 100), 4, "{100 300 25} 0"},
		// The least and the greatest number of parts, and steps that are not divided without a rest.
		{curve, search(100, 400, 100), 2, "{100 300 50} 0"}, {curve, search(100, 400, 100), 20, "{100 300 5} 0"}, {curve, search(100, 400, 100), 3, "{100 300 33} 0"}, {curve, search(100, 400, 100), 7, "{100 300 14} 0"},
		{curve, search(151, 400, 50), 20, "{101 201 2} 0"}, {curve, search(101, 400, 99), 2, "{101 299 49} 0"},
		// Steps that are less than parts, as many, and more.
		{curve, search(190, 220, 19), 20, "{171 209 1} 0"}, {curve, search(190, 220, 20), 20, "{170 210 1} 0"}, {curve, search(190, 220, 21), 20, "{169 211 1} 0"}, {curve, search(190, 220, 39), 20, "{151 229 1} 0"},
		{curve, search(190, 220, 40), 20, "{150 230 2} 0"}, {curve, search(190, 220, 1), 2, "{189 191 1} 0"}, {curve, search(190, 220, 2), 2, "{188 192 1} 0"}, {curve, search(190, 220, 3), 2, "{187 193 1} 0"}, {curve, search(190, 220, 4), 2, "{186 194 2} 0"},
		{curve, search(190, 220, 1), 20, "{189 191 1} 0"}, {curve, search(190, 220, 3), 4, "{187 193 1} 0"},
		// Refined searches that begin at 1.
		{three, search(1, 3, 1), 2, "{1 2 1} 0"}, {three, search(2, 3, 1), 2, "{1 3 1} 0"}, {three, search(3, 3, 1), 2, "{2 4 1} 0"}, {three, search(100, 400, 100), 2, "{1 200 50} 0"}, {three, search(101, 400, 100), 2, "{1 201 50} 0"},
		{three, search(102, 400, 100), 2, "{2 202 50} 0"}, {three, search(99, 400, 100), 20, "{1 199 5} 0"}, {three, search(5, 5, 1000), 10, "{1 1005 100} 0"},
		// Refined searches that end at MaxPeriod.
		{three, search(1000000, 1000000, 1), 2, "{999999 1000000 1} 0"}, {three, search(999999, 1000000, 1), 2, "{999998 1000000 1} 0"}, {three, search(999998, 1000000, 1), 2, "{999997 999999 1} 0"}, {three, search(999900, 1000000, 100), 2, "{999800 1000000 50} 0"},
		{three, search(999901, 1000000, 100), 2, "{999801 1000000 50} 0"}, {three, search(999899, 1000000, 100), 2, "{999799 999999 50} 0"}, {three, search(1000000, 1000000, 5), 2, "{999995 1000000 2} 0"},
		// Those that do both.
		{three, search(1, 1000000, 1000000), 20, "{1 1000000 50000} 0"}, {three, search(1000000, 1000000, 1000000), 2, "{1 1000000 500000} 0"}, {three, search(1, 1000000, 999999), 20, "{1 1000000 49999} 0"}, {three, search(500000, 500000, 600000), 3, "{1 1000000 200000} 0"},
		// Errors, and their order.
		{curve, search(100, 400, 100), 1, "{0 0 0} 2"}, {curve, search(100, 400, 100), 21, "{0 0 0} 2"}, {curve, search(100, 400, 100), 0, "{0 0 0} 2"}, {curve, search(100, 400, 100), -2, "{0 0 0} 2"},
		{curve, search(100, 400, 100), math.MaxInt64, "{0 0 0} 2"}, {curve, search(100, 400, 100), math.MinInt64, "{0 0 0} 2"}, {zigzag(41), search(1, 2, 1), 1, "{0 0 0} 2"}, {three[:2], search(1, 2, 1), 21, "{0 0 0} 2"},
		{zigzag(41), search(1, 2, 1), 2, "{0 0 0} 5"}, {zigzag(100), search(1, 2, 1), 20, "{0 0 0} 5"}, {three[:2], search(1, 2, 1), 2, "{0 0 0} 3"}, {three[:1], search(1, 2, 1), 2, "{0 0 0} 3"}, {nil, search(1, 2, 1), 20, "{0 0 0} 3"},
		{nil, search(1, 2, 1), 21, "{0 0 0} 2"}, {curve, impl.Search{}, 4, "{0 0 0} 1"}, {curve, search(1, 501, 1), 1, "{0 0 0} 1"}, {nil, impl.Search{}, 4, "{0 0 0} 1"}, {zigzag(41), impl.Search{}, 1, "{0 0 0} 1"},
		{zigzag(101), search(1, 2, 1), 2, "{0 0 0} 1"}, {zigzag(101), search(1, 2, 1), 1, "{0 0 0} 1"}, {points(5, 1, 5, 1), search(1, 2, 1), 2, "{0 0 0} 1"}, {points(5, 20001), search(1, 2, 1), 21, "{0 0 0} 1"},
		{curve, search(math.MinInt64, math.MaxInt64, 1), 4, "{0 0 0} 1"}, {curve, search(1, math.MaxInt64, math.MaxInt64), math.MaxInt64, "{0 0 0} 1"},
	} {
		finer, code := impl.RefineSearch(x.curve, x.x, x.parts)
		same(t, fmt.Sprint("RefineSearch ", x.curve, x.x, x.parts), x.want, finer, code)
	}
}

// refinedWanted is for good curves and searches.
func refinedWanted(curve []impl.Point, x impl.Search, parts int64) string {
	switch {
	case !between(parts, 2, 20):
		return "{0 0 0} 2"
	case len(curve) > 40:
		return "{0 0 0} 5"
	case len(curve) < 3:
		return "{0 0 0} 3"
	}
	best := shortestFirst(curve, x)[0]
	from, to, step := best-x.Step, best+x.Step, int64(1)
	if from < 1 {
		from = 1
	}
	if to > 1_000_000 {
		to = 1_000_000
	}
	for (step+1)*parts <= x.Step {
		step++
	}
	return fmt.Sprintf("%v 0", search(from, to, step))
}

func TestRefineSearchForAllArguments(t *testing.T) {
	searches := append(goodSearches(), search(3, 3, 19), search(3, 3, 20), search(3, 100, 39), search(999990, 1000000, 7), search(40, 41, 41))
	for i, curve := range stringCurves() {
		for k, x := range searches {
			for n, parts := range edgeParts {
				if len(periodsWanted(x)) < 20 && (i+k+n)%3 == 0 || (i+k*3+n)%40 == 0 {
					checkCurve(t, fmt.Sprint("RefineSearch ", x, parts), curve, refinedWanted(curve, x, parts), func(curve []impl.Point) []any {
						finer, code := impl.RefineSearch(curve, x, parts)
						return []any{finer, code}
					})
				}
			}
		}
	}
	for _, parts := range edgeParts {
		for _, x := range badSearches() {
			for _, curve := range [][]impl.Point{nil, foldedCurve(), zigzag(41), points(5, 20001)} {
				finer, code := impl.RefineSearch(curve, x, parts)
				same(t, fmt.Sprint("RefineSearch ", curve, x, parts), "{0 0 0} 1", finer, code)
			}
		}
		for _, curve := range badCurves() {
			finer, code := impl.RefineSearch(curve, search(100, 400, 100), parts)
			same(t, fmt.Sprint("RefineSearch ", curve, parts), "{0 0 0} 1", finer, code)
		}
	}
}

// TestRefinedSearchesAreValid shows that ErrState is stated for what never happens: a refined search has at most 79 periods.
func TestRefinedSearchesAreValid(t *testing.T) {
	curve, most := points(0, 1, 1, 5, 2, 3), 0
	check := func(period, step int64) {
		for parts := int64(2); parts <= 20; parts++ {
			finer, code := impl.RefineSearch(curve, search(period, period, step), parts)
			periods, valid := impl.PeriodsOf(finer)
			if code != impl.OK || valid != impl.OK || !slices.Equal(periods, periodsWanted(finer)) {
				t.Fatalf("period %d, step %d, parts %d: got %v %d with %d periods %d", period, step, parts, finer, code, len(periods), valid)
			}
			most = max(most, len(periods))
		}
	}
	for step := int64(1); step <= 1000; step++ {
		for _, period := range []int64{1, 2, step, step + 1, 500_000, 999_999 - step, 1_000_000 - step, 1_000_000} {
			check(period, step)
		}
	}
	r := rand.New(rand.NewPCG(10, 3))
	for range 2000 {
		check(1+r.Int64N(1_000_000), 1+r.Int64N(1_000_000))
	}
	check(1, 1_000_000)
	check(1_000_000, 1_000_000)
	same(t, "most periods", "79", most)
}

func TestShortestString(t *testing.T) {
	for _, x := range []struct {
		curve []impl.Point
		want  string
	}{
		{foldedCurve(), "1000 0"}, {nil, "0 0"}, {[]impl.Point{}, "0 0"}, {points(5, 9000), "0 0"}, {points(5, -2000), "0 0"}, {points(0, 9000, 5, 9100), "200 0"}, {points(0, 9100, 5, 9000), "200 0"}, {points(4, 7, 5, 7), "0 0"},
		{curveOfMags(1, 5, 3), "8 0"}, {curveOfMags(5, 1, 3, 5, 1), "8 0"}, {curveOfMags(3, 5, 1), "8 0"}, {curveOfMags(-5, 5, -7, 7), "28 0"}, {curveOfMags(-2000, -1999, -1990, -1), "3998 0"}, {curveOfMags(-1, -1, -1), "0 0"},
		{points(0, -2000, 10000000, 20000), "44000 0"}, {zigzag(39), "44000 0"}, {zigzag(40), "44000 0"}, {curveOfMags(make([]int64, 40)...), "0 0"},
		// Errors, and their order.
		{zigzag(41), "0 5"}, {zigzag(100), "0 5"}, {curveOfMags(make([]int64, 41)...), "0 5"}, {zigzag(101), "0 1"}, {points(5, 1, 5, 1), "0 1"}, {points(6, 1, 5, 1), "0 1"}, {points(-1, 1), "0 1"}, {points(10000001, 1), "0 1"},
		{points(5, 20001), "0 1"}, {points(5, -2001), "0 1"}, {append(zigzag(41), points(41, 20001)...), "0 1"}, {points(0, math.MinInt64, 1, math.MaxInt64), "0 1"},
	} {
		length, code := impl.ShortestString(x.curve)
		same(t, fmt.Sprint("ShortestString ", x.curve), x.want, length, code)
	}
}

func TestShortestStringForAllArguments(t *testing.T) {
	shortest := func(curve []impl.Point) []any {
		length, code := impl.ShortestString(curve)
		return []any{length, code}
	}
	for _, curve := range append(goodCurves(), stringCurves()...) {
		want := "0 0"
		if len(curve) > 40 {
			want = "0 5"
		} else if mags := magsWanted(curve); len(mags) > 0 {
			slices.Sort(mags)
			want = fmt.Sprint(2*mags[len(mags)-1]-2*mags[0], 0)
		}
		checkCurve(t, "ShortestString", curve, want, shortest)
	}
	for _, curve := range badCurves() {
		checkCurve(t, "ShortestString", curve, "0 1", shortest)
	}
}

// TestNoStringIsShorter is the first half of promise 10.
func TestNoStringIsShorter(t *testing.T) {
	just, longer := 0, 0
	for _, curve := range stringCurves() {
		least, code := impl.ShortestString(curve)
		if len(curve) > 40 {
			continue
		}
		for period := int64(1); period <= 400; period++ {
			length, one := impl.StringLength(curve, period)
			if code != impl.OK || one != impl.OK || length < least {
				t.Fatalf("%v with the period %d: got %d %d, and the shortest string %d %d", curve, period, length, one, least, code)
			}
			if length == least {
				just++
			} else {
				longer++
			}
		}
	}
	if just < 1000 || longer < 1000 {
		t.Errorf("only %d strings that are as short as they can be, and %d longer ones", just, longer)
	}
}

// TestSearchesAtTheSameTime asks for the same searches in several goroutines, with one thread and with many.
func TestSearchesAtTheSameTime(t *testing.T) {
	curve := fullCurve()[:40]
	searches := []impl.Search{search(1, 500, 1), search(1, 101, 1), search(100, 400, 100), search(999501, 1000000, 1), search(3, 900, 2)}
	var want []string
	for _, x := range searches {
		want = append(want, searchesWanted(curve, x))
	}
	for _, threads := range []int{1, 2, 16} {
		before := runtime.GOMAXPROCS(threads)
		var group sync.WaitGroup
		for range 16 {
			group.Go(func() {
				for i, x := range searches {
					same(t, fmt.Sprint("lengths and periods ", x), want[i], searchesOf(curve, x)...)
				}
			})
		}
		group.Wait()
		runtime.GOMAXPROCS(before)
	}
}

// TestSearchesLeaveNoGoroutines looks at what is left after searches, also after those with an error.
func TestSearchesLeaveNoGoroutines(t *testing.T) {
	before := runtime.NumGoroutine()
	for range 50 {
		for _, curve := range [][]impl.Point{nil, foldedCurve(), zigzag(2), zigzag(40), zigzag(41), points(5, 20001)} {
			for _, x := range []impl.Search{search(1, 500, 1), search(100, 400, 100), search(7, 7, 1), search(1, 501, 1)} {
				searchesOf(curve, x)
				impl.RefineSearch(curve, x, 3)
			}
		}
	}
	// A goroutine that has closed its channel may need a moment to end.
	for deadline := time.Now().Add(10 * time.Second); runtime.NumGoroutine() > before && time.Now().Before(deadline); {
		time.Sleep(time.Millisecond)
	}
	if left := runtime.NumGoroutine() - before; left > 0 {
		t.Errorf("%d goroutines are left", left)
	}
}

// TestResultsOfStringsAreNewSlices changes each result with its unused capacity, and asks again.
func TestResultsOfStringsAreNewSlices(t *testing.T) {
	x, curve := search(100, 400, 50), foldedCurve()
	for i, call := range []func() []int64{
		func() []int64 { periods, _ := impl.PeriodsOf(x); return periods },
		func() []int64 { lengths, _ := impl.StringLengths(curve, x); return lengths },
	} {
		first := call()
		want := fmt.Sprint(first)
		clear(first[:cap(first)])
		same(t, fmt.Sprint("call ", i), fmt.Sprint(want+" ", foldedCurve()), call(), curve)
		if len(first) < 2 {
			t.Errorf("call %d: only %s", i, want)
		}
	}
}

// TestStringsForAllArguments is promise 1 for chapter 10: each call returns, and returns the same again.
func TestStringsForAllArguments(t *testing.T) {
	curves := slices.Concat(stringCurves()[:25], badCurves())
	odd := numbers(-1, 0, 1, 2, 3, 20, 21, 40, 41, 499, 500, 501, 2000, 999999, 1000000, 1000001)
	for i, from := range odd {
		for k, to := range odd {
			for n, step := range odd {
				x, number := search(from, to, step), odd[(i+k*5+n*3)%len(odd)]
				keepPoints(t, "strings", curves[(i*67+k*13+n)%len(curves)], func(curve []impl.Point) {
					twice(t, "strings", func() []any {
						periods, one := impl.PeriodsOf(x)
						length, two := impl.StringLength(curve, number)
						finer, three := impl.RefineSearch(curve, x, number)
						least, four := impl.ShortestString(curve)
						return append(searchesOf(curve, x), impl.ValidSearch(x), periods, one, length, two, finer, three, least, four)
					})
				})
			}
		}
	}
}
