package tests

import (
	"fmt"
	"math"
	"math/big"
	"slices"
	"testing"

	"loop.example/g01026/impl"
)

// edgeBins are numbers at and beside the limits of bins.
var edgeBins = numbers(-20, -2, -1, 0, 1, 2, 3, 4, 7, 19, 20, 21, 22, 50)

// fractionText is a fraction in lowest terms with its code; for nil it is the zero Fraction with ErrNotFound.
func fractionText(x *big.Rat) string {
	if x == nil {
		return "{0 0} 3"
	}
	return fmt.Sprintf("{%v %v} 0", x.Num(), x.Denom())
}

// evenCurve has count points with the same magnitude.
func evenCurve(count int, mag int64) []impl.Point {
	return curveOfMags(slices.Repeat([]int64{mag}, count)...)
}

// halvesOf has count magnitudes, one half of them the least and the other half the greatest one.
func halvesOf(count int) []int64 {
	return slices.Concat(slices.Repeat([]int64{-2000}, count/2), slices.Repeat([]int64{20000}, count-count/2))
}

func TestConstantsOfDispersions(t *testing.T) { same(t, "constants", "20", impl.MaxBins) }

// pairsOf returns what the functions of magnitudes return.
func pairsOf(mags []int64) []any {
	squares, one := impl.PairSquares(mags)
	variance, two := impl.VarianceOf(mags)
	return []any{squares, one, variance, two}
}

func TestPairsOfMagnitudes(t *testing.T) {
	for _, x := range []struct {
		mags []int64
		want string
	}{
		{[]int64{1, 2, 4}, "14 0 {14 9} 0"}, {[]int64{4, 1, 2}, "14 0 {14 9} 0"}, {[]int64{-1, -2, -4}, "14 0 {14 9} 0"},
		// No magnitudes, one, and two.
		{nil, "0 0 {0 0} 3"}, {[]int64{}, "0 0 {0 0} 3"}, {[]int64{9000}, "0 0 {0 1} 0"}, {[]int64{-2000}, "0 0 {0 1} 0"}, {[]int64{0}, "0 0 {0 1} 0"},
		{[]int64{1, 2}, "1 0 {1 4} 0"}, {[]int64{2, 0}, "4 0 {1 1} 0"}, {[]int64{-1, 2}, "9 0 {9 4} 0"}, {[]int64{-2000, 20000}, "484000000 0 {121000000 1} 0"}, {[]int64{20000, -2000}, "484000000 0 {121000000 1} 0"},
		// Equal magnitudes, alone and beside others.
		{[]int64{7, 7}, "0 0 {0 1} 0"}, {[]int64{-2000, -2000, -2000}, "0 0 {0 1} 0"}, {[]int64{20000, 20000, 20000, 20000}, "0 0 {0 1} 0"}, {[]int64{7, 8, 7}, "2 0 {2 9} 0"}, {[]int64{7, 7, 8, 8}, "4 0 {1 4} 0"}, {[]int64{5, 5, 5, 6}, "3 0 {3 16} 0"},
		// Variances before and in lowest terms.
		{[]int64{0, 3, 6}, "54 0 {6 1} 0"}, {[]int64{0, 0, 3}, "18 0 {2 1} 0"}, {[]int64{0, 1, 2, 3}, "20 0 {5 4} 0"}, {[]int64{0, 0, 0, 2}, "12 0 {3 4} 0"},
		// Just MaxMags, and one more.
		{make([]int64, 100), "0 0 {0 1} 0"}, {make([]int64, 101), "0 2 {0 0} 2"}, {halvesOf(100), "1210000000000 0 {121000000 1} 0"}, {halvesOf(99), "1185800000000 0 {9800000000 81} 0"}, {halvesOf(101), "0 2 {0 0} 2"},
		{append(make([]int64, 99), 1), "99 0 {99 10000} 0"}, {append(make([]int64, 100), 1), "0 2 {0 0} 2"},
		// Numbers that are no magnitudes.
		{[]int64{-2001}, "0 2 {0 0} 2"}, {[]int64{20001}, "0 2 {0 0} 2"}, {[]int64{1, 2, 20001}, "0 2 {0 0} 2"}, {[]int64{-2001, 5, 5}, "0 2 {0 0} 2"}, {[]int64{math.MaxInt64, math.MinInt64}, "0 2 {0 0} 2"}, {append(make([]int64, 100), -2001), "0 2 {0 0} 2"},
	} {
		keepList(t, "pairs", x.mags, func(mags []int64) {
			same(t, fmt.Sprint("pairs ", mags), x.want, pairsOf(mags)...)
		})
	}
}

// pairsWanted takes all pairs one by one, and forms the variance as the mean square of the differences from the mean.
func pairsWanted(mags []int64) string {
	squares, mean, variance := int64(0), new(big.Rat), new(big.Rat)
	share := big.NewRat(1, int64(len(mags)))
	for i, m := range mags {
		for _, n := range mags[:i] {
			squares += (m - n) * (m - n)
		}
		mean.Add(mean, new(big.Rat).Mul(share, big.NewRat(m, 1)))
	}
	for _, m := range mags {
		d := new(big.Rat).Sub(big.NewRat(m, 1), mean)
		variance.Add(variance, d.Mul(d, d).Mul(d, share))
	}
	return fmt.Sprint(squares, " 0 ", fractionText(variance))
}

func TestPairsOfAllLists(t *testing.T) {
	check := func(mags []int64, want string) {
		keepList(t, "pairs", mags, func(mags []int64) {
			same(t, fmt.Sprint("pairs ", mags), want, twice(t, "pairs", func() []any { return pairsOf(mags) })...)
		})
	}
	for _, mags := range goodLists() {
		check(mags, pairsWanted(mags))
	}
	for _, curve := range goodCurves()[3:] {
		check(magsWanted(curve), pairsWanted(magsWanted(curve)))
	}
	for count := 1; count <= 100; count++ {
		check(halvesOf(count), pairsWanted(halvesOf(count)))
	}
	for _, mags := range badLists() {
		check(mags, "0 2 {0 0} 2")
	}
	for _, m := range edgeMags {
		want := "0 2 {0 0} 2"
		if isMag(m) {
			want = pairsWanted([]int64{m, 9000})
		}
		check([]int64{m, 9000}, want)
	}
}

// foldedOf returns what the functions of a curve, a period and bins return: the bins, how many are filled, the dispersion and theta.
func foldedOf(curve []impl.Point, period, bins int64) []any {
	list, one := impl.BinOfPoints(curve, period, bins)
	filled, two := impl.FilledBins(curve, period, bins)
	dispersion, three := impl.DispersionOf(curve, period, bins)
	theta, four := impl.ThetaOf(curve, period, bins)
	return []any{list, one, filled, two, dispersion, three, theta, four}
}

func TestFoldedBins(t *testing.T) {
	curve, pair := foldedCurve(), points(0, 9000, 10, 9003)
	example := points(0, 9000, 500, 9100, 1000, 9010, 1500, 9100)
	invalid, beyond := "[] 1 0 1 {0 0} 1 {0 0} 1", "[] 2 0 2 {0 0} 2 {0 0} 2"
	for _, x := range []struct {
		curve        []impl.Point
		period, bins int64
		want         string // the bins, how many are filled, the dispersion and theta, each with its code
	}{
		{example, 1000, 2, "[0 1 0 1] 0 2 0 {50 1} 0 {1 121} 0"}, {example, 1000, 4, "[0 2 0 2] 0 2 0 {50 1} 0 {1 121} 0"}, {example, 1000, 3, "[0 1 0 1] 0 2 0 {50 1} 0 {1 121} 0"},
		{curve, 200, 2, "[0 1 0 1] 0 2 0 {0 1} 0 {0 1} 0"}, {curve, 400, 2, "[0 0 1 1] 0 2 0 {250000 1} 0 {3 2} 0"}, {curve, 300, 3, "[0 1 2 0] 0 3 0 {250000 1} 0 {3 2} 0"}, {curve, 400, 3, "[0 0 1 2] 0 3 0 {250000 1} 0 {3 2} 0"},
		// A single bin, and as many as there may be; the least and the greatest period.
		{curve, 200, 1, "[0 0 0 0] 0 1 0 {500000 3} 0 {1 1} 0"}, {curve, 1, 20, "[0 0 0 0] 0 1 0 {500000 3} 0 {1 1} 0"}, {curve, 1, 1, "[0 0 0 0] 0 1 0 {500000 3} 0 {1 1} 0"}, {curve, 1000000, 1, "[0 0 0 0] 0 1 0 {500000 3} 0 {1 1} 0"},
		{curve, 1000000, 20, "[0 0 0 0] 0 1 0 {500000 3} 0 {1 1} 0"}, {curve, 400, 20, "[0 5 10 15] 0 4 0 {0 0} 3 {0 0} 3"}, {curve, 150, 20, "[0 13 6 0] 0 3 0 {250000 1} 0 {3 2} 0"}, {curve, 301, 20, "[0 6 13 19] 0 4 0 {0 0} 3 {0 0} 3"},
		// Points whose time modulo the period is 0, and the last ones below the period.
		{points(0, 1, 999, 5, 1000, 3, 1999, 5, 2000, 1), 1000, 20, "[0 19 0 19 0] 0 2 0 {2 1} 0 {1 4} 0"}, {points(7, 1, 13, 2, 14, 3, 20, 5, 21, 9), 7, 20, "[0 17 0 17 0] 0 2 0 {113 4} 0 {113 80} 0"},
		{points(999999, 1, 1000000, 2, 1999999, 4, 2000000, 7), 1000000, 20, "[19 0 19 0] 0 2 0 {17 1} 0 {17 14} 0"}, {points(9999999, 1, 10000000, 2), 1000000, 20, "[19 0] 0 2 0 {0 0} 3 {0 0} 3"}, {points(9999999, 1, 10000000, 2), 1, 20, "[0 0] 0 1 0 {1 1} 0 {1 1} 0"},
		{points(4, 1, 5, 2, 6, 3, 7, 4), 2, 2, "[0 1 0 1] 0 2 0 {4 1} 0 {6 5} 0"}, {points(0, 1, 1, 2, 2, 3, 3, 4), 3, 2, "[0 0 1 0] 0 2 0 {14 3} 0 {7 5} 0"},
		// Points at the ends of bins, and beside them.
		{points(0, 0, 49, 1, 50, 3, 99, 6), 100, 2, "[0 0 1 1] 0 2 0 {5 1} 0 {5 14} 0"}, {points(0, 0, 33, 1, 34, 3, 66, 6, 67, 10), 100, 3, "[0 0 1 1 2] 0 3 0 {5 1} 0 {5 33} 0"}, {points(0, 0, 4, 1, 5, 3, 9, 6), 10, 20, "[0 8 10 18] 0 4 0 {0 0} 3 {0 0} 3"},
		// More bins than phases.
		{points(0, 0, 1, 1, 2, 3, 3, 6), 2, 20, "[0 10 0 10] 0 2 0 {17 1} 0 {17 14} 0"}, {points(0, 0, 1, 1, 2, 3), 3, 7, "[0 2 4] 0 3 0 {0 0} 3 {0 0} 3"},
		// No points, one and two.
		{nil, 5, 3, "[] 0 0 0 {0 0} 3 {0 0} 3"}, {[]impl.Point{}, 1000000, 20, "[] 0 0 0 {0 0} 3 {0 0} 3"}, {points(9, 9000), 10, 10, "[9] 0 1 0 {0 0} 3 {0 0} 3"}, {points(9, 9000), 1, 1, "[0] 0 1 0 {0 0} 3 {0 0} 3"},
		{pair, 20, 2, "[0 1] 0 2 0 {0 0} 3 {0 0} 3"}, {pair, 21, 2, "[0 0] 0 1 0 {9 1} 0 {1 1} 0"}, {pair, 10, 20, "[0 0] 0 1 0 {9 1} 0 {1 1} 0"}, {pair, 20, 1, "[0 0] 0 1 0 {9 1} 0 {1 1} 0"},
		// A whole dispersion of 0: in bins with pairs, and without.
		{points(0, 1, 1, 1), 1000, 1, "[0 0] 0 1 0 {0 1} 0 {0 0} 6"}, {points(0, 1, 1, 1), 2, 2, "[0 1] 0 2 0 {0 0} 3 {0 0} 3"}, {evenCurve(5, -2000), 2, 2, "[0 1 0 1 0] 0 2 0 {0 1} 0 {0 0} 6"}, {evenCurve(3, 20000), 3, 3, "[0 1 2] 0 3 0 {0 0} 3 {0 0} 3"}, {evenCurve(3, 0), 1, 1, "[0 0 0] 0 1 0 {0 1} 0 {0 0} 6"},
		// A dispersion of 0 beside a whole one that is not.
		{points(0, 5, 1, 7, 2, 5), 2, 2, "[0 1 0] 0 2 0 {0 1} 0 {0 1} 0"},
		// Magnitudes below 0.
		{curveOfMags(-5, 5, -7, 7), 2, 2, "[0 1 0 1] 0 2 0 {4 1} 0 {3 74} 0"},
		// Errors, and their order.
		{curve, 0, 2, beyond}, {curve, 1000001, 2, beyond}, {curve, -200, 2, beyond}, {curve, 200, 0, beyond}, {curve, 200, 21, beyond}, {curve, 200, -2, beyond}, {curve, 0, 0, beyond}, {curve, 1000001, 21, beyond},
		{curve, math.MinInt64, 2, beyond}, {curve, math.MaxInt64, 2, beyond}, {curve, 200, math.MinInt64, beyond}, {curve, 200, math.MaxInt64, beyond}, {curve, math.MinInt64, math.MinInt64, beyond}, {curve, math.MaxInt64, math.MaxInt64, beyond},
		{nil, 0, 2, beyond}, {nil, 5, 0, beyond}, {points(9, 9000), 5, 21, beyond}, {evenCurve(3, 0), 0, 1, beyond}, {fullCurve(), 5, 21, beyond},
		{points(5, 1, 5, 1), 3, 3, invalid}, {points(6, 1, 5, 1), 0, 3, invalid}, {points(-1, 1), 3, 0, invalid}, {points(10000001, 1), 3, 21, invalid}, {points(5, 20001), 3, 3, invalid}, {points(5, -2001), -3, -3, invalid}, {evenCurve(101, 0), 3, 3, invalid}, {evenCurve(101, 0), 0, 21, invalid},
	} {
		checkCurve(t, fmt.Sprint("folded ", x.period, x.bins), x.curve, x.want, func(curve []impl.Point) []any { return foldedOf(curve, x.period, x.bins) })
	}
}

// binWanted counts the bins that end at a phase or before it.
func binWanted(time, period, bins int64) int64 {
	bin := int64(0)
	for (bin+1)*period <= bins*(time%period) {
		bin++
	}
	return bin
}

// dispersionWanted takes all pairs one by one; it is nil if there are none.
func dispersionWanted(curve []impl.Point, period, bins int64) *big.Rat {
	squares, pairs := int64(0), int64(0)
	own := make([]int64, len(curve))
	for i, p := range curve {
		own[i] = binWanted(p.Time, period, bins)
		for k, x := range curve[:i] {
			if own[i] == own[k] {
				squares += (p.Mag - x.Mag) * (p.Mag - x.Mag)
				pairs++
			}
		}
	}
	if pairs == 0 {
		return nil
	}
	return big.NewRat(squares, pairs)
}

// foldedWanted is for good curves.
func foldedWanted(curve []impl.Point, period, bins int64) string {
	if !between(period, 1, 1_000_000) || !between(bins, 1, 20) {
		return "[] 2 0 2 {0 0} 2 {0 0} 2"
	}
	list, filled := []int64{}, map[int64]bool{}
	for _, p := range curve {
		list = append(list, binWanted(p.Time, period, bins))
		filled[list[len(list)-1]] = true
	}
	own, whole := dispersionWanted(curve, period, bins), dispersionWanted(curve, 1, 1)
	theta := "{0 0} 6"
	if own == nil {
		theta = "{0 0} 3"
	} else if whole.Sign() != 0 {
		theta = fractionText(new(big.Rat).Quo(own, whole))
	}
	return fmt.Sprint(list, " 0 ", len(filled), " 0 ", fractionText(own), " ", theta)
}

// binCurves are good curves of all lengths, among them those with the greatest sums and with none.
func binCurves() [][]impl.Point {
	list := append(goodCurves(), evenCurve(2, 20000), evenCurve(40, -2000), evenCurve(41, 0), evenCurve(100, 20000), foldedCurve(), zigzag(2), zigzag(40), zigzag(41), zigzag(99), zigzag(100))
	return append(list, curveOfMags(halvesOf(100)...), curveOfMags(halvesOf(40)...), curveOfMags(halvesOf(3)...))
}

func TestFoldedBinsForAllArguments(t *testing.T) {
	for i, curve := range binCurves() {
		for k, period := range append(edgePeriods, 4, 5, 8, 12, 100, 200, 300, 1234, 37, 12345) {
			for n, bins := range append(edgeBins, 5, 10, 11, 17) {
				if (i+k+n)%3 == 0 {
					checkCurve(t, fmt.Sprint("folded ", period, bins), curve, foldedWanted(curve, period, bins), func(curve []impl.Point) []any { return foldedOf(curve, period, bins) })
				}
			}
		}
	}
	for _, curve := range badCurves() {
		for k, period := range edgePeriods {
			bins := edgeBins[k%len(edgeBins)]
			checkCurve(t, fmt.Sprint("folded ", period, bins), curve, "[] 1 0 1 {0 0} 1 {0 0} 1", func(curve []impl.Point) []any { return foldedOf(curve, period, bins) })
		}
	}
}

func TestWholeDispersion(t *testing.T) {
	whole := func(curve []impl.Point) []any {
		f, code := impl.WholeDispersion(curve)
		return []any{f, code}
	}
	for _, x := range []struct {
		curve []impl.Point
		want  string
	}{
		{points(0, 9000, 500, 9100, 1000, 9010, 1500, 9100), "{6050 1} 0"}, {foldedCurve(), "{500000 3} 0"}, {nil, "{0 0} 3"}, {[]impl.Point{}, "{0 0} 3"}, {points(5, 9000), "{0 0} 3"}, {points(5, 0), "{0 0} 3"},
		{points(0, 9000, 5, 9003), "{9 1} 0"}, {points(0, -2000, 10000000, 20000), "{484000000 1} 0"}, {points(4, 7, 5, 7), "{0 1} 0"}, {curveOfMags(1, 2, 4), "{14 3} 0"}, {evenCurve(100, 20000), "{0 1} 0"},
		{zigzag(100), "{2200000000 9} 0"}, {zigzag(101), "{0 0} 1"}, {evenCurve(101, 0), "{0 0} 1"}, {points(5, 1, 5, 1), "{0 0} 1"}, {points(5, 20001), "{0 0} 1"}, {points(-1, 1, 5, 1), "{0 0} 1"}, {points(0, math.MinInt64, 1, math.MaxInt64), "{0 0} 1"},
	} {
		checkCurve(t, "WholeDispersion", x.curve, x.want, whole)
	}
	for _, curve := range binCurves() {
		checkCurve(t, "WholeDispersion", curve, fractionText(dispersionWanted(curve, 1, 1)), whole)
	}
	for _, curve := range badCurves() {
		checkCurve(t, "WholeDispersion", curve, "{0 0} 1", whole)
	}
}

// TestSingleBinsHaveAllPairs compares single bins with the whole curve and with the magnitudes alone.
func TestSingleBinsHaveAllPairs(t *testing.T) {
	for _, curve := range binCurves() {
		count := int64(len(curve))
		if count < 2 {
			continue
		}
		squares, one := impl.PairSquares(magsWanted(curve))
		want := fractionText(big.NewRat(2*squares, count*(count-1)))
		whole, two := impl.WholeDispersion(curve)
		same(t, fmt.Sprint("whole ", curve), want+" 0", whole, two, one)
		for _, period := range []int64{1, 2, 77, 999, 1000000} {
			single, code := impl.DispersionOf(curve, period, 1)
			same(t, fmt.Sprint("single bin ", curve, period), want, single, code)
			theta, code := impl.ThetaOf(curve, period, 1)
			if whole.Num != 0 {
				same(t, fmt.Sprint("theta ", curve, period), "{1 1} 0", theta, code)
			} else {
				same(t, fmt.Sprint("theta ", curve, period), "{0 0} 6", theta, code)
			}
		}
	}
}

// binSearchesOf returns what the functions of a curve, a search and bins return.
func binSearchesOf(curve []impl.Point, x impl.Search, bins int64) []any {
	list, one := impl.DispersionsOf(curve, x, bins)
	best, two := impl.BestByBins(curve, x, bins)
	agree, three := impl.AgreeingPeriods(curve, x, bins)
	return []any{list, one, best, two, agree, three}
}

func TestSearchesByBins(t *testing.T) {
	curve, example, three := foldedCurve(), points(0, 9000, 500, 9100, 1000, 9010, 1500, 9100), points(0, 1, 1, 5, 2, 3)
	invalid, beyond, full := "[] 1 0 1 false 1", "[] 2 0 2 false 2", "[] 5 0 5 false 5"
	for _, x := range []struct {
		curve []impl.Point
		x     impl.Search
		bins  int64
		want  string // the dispersions, the best period, and whether it agrees, each with its code
	}{
		{example, search(600, 1000, 200), 2, "[{5400 1} {50 1} {50 1}] 0 800 0 true 0"},
		{curve, search(100, 400, 100), 2, "[{500000 3} {0 1} {500000 3} {250000 1}] 0 200 0 true 0"}, {curve, search(100, 400, 100), 1, "[{500000 3} {500000 3} {500000 3} {500000 3}] 0 100 0 true 0"},
		// The best period at the beginning, in the middle, at the end, and alone.
		{curve, search(200, 300, 100), 2, "[{0 1} {500000 3}] 0 200 0 true 0"}, {curve, search(150, 250, 50), 2, "[{500000 3} {0 1} {500000 3}] 0 200 0 true 0"}, {curve, search(100, 200, 100), 2, "[{500000 3} {0 1}] 0 200 0 true 0"}, {curve, search(300, 300, 7), 3, "[{250000 1}] 0 300 0 true 0"},
		// Equal dispersions: 250000 of one pair, and 500000 of two; beside a lesser one of 500000 and three.
		{curve, search(600, 800, 200), 4, "[{250000 1} {250000 1}] 0 600 0 true 0"}, {curve, search(300, 700, 200), 4, "[{250000 1} {250000 1} {250000 1}] 0 300 0 true 0"}, {curve, search(700, 900, 100), 4, "[{250000 1} {250000 1} {500000 3}] 0 900 0 false 0"},
		{curve, search(1000, 1400, 400), 4, "[{500000 3} {500000 3}] 0 1000 0 true 0"}, {curveOfMags(0, 10, 0, 10, 0, 10), search(4, 6, 1), 3, "[{200 3} {75 1} {100 1}] 0 4 0 true 0"},
		// No pairs for the first, for the last and for all periods, where the string still has a best one.
		{curve, search(400, 500, 100), 4, "[{0 0} {250000 1}] 0 500 0 true 0"}, {curve, search(300, 400, 100), 4, "[{250000 1} {0 0}] 0 300 0 true 0"}, {curve, search(400, 400, 1), 4, "[{0 0}] 0 0 3 false 3"}, {curve, search(400, 410, 5), 20, "[{0 0} {0 0} {0 0}] 0 0 3 false 3"},
		{curve, search(200, 400, 100), 4, "[{0 1} {250000 1} {0 0}] 0 200 0 true 0"}, {curve, search(1, 400, 399), 4, "[{500000 3} {0 0}] 0 1 0 true 0"},
		// A dispersion of 0 is less than all others, but none at all is not.
		{points(0, 5, 1, 7, 2, 5), search(2, 4, 1), 3, "[{0 1} {0 0} {4 1}] 0 2 0 true 0"}, {points(0, 5, 1, 7, 2, 5), search(3, 4, 1), 3, "[{0 0} {4 1}] 0 4 0 true 0"},
		// No points, one and two, of which strings have no best period.
		{nil, search(1, 3, 1), 2, "[{0 0} {0 0} {0 0}] 0 0 3 false 3"}, {[]impl.Point{}, search(5, 5, 1), 20, "[{0 0}] 0 0 3 false 3"}, {three[:1], search(1, 3, 1), 1, "[{0 0} {0 0} {0 0}] 0 0 3 false 3"},
		{three[:2], search(1, 3, 1), 2, "[{16 1} {0 0} {16 1}] 0 1 0 false 3"}, {three[:2], search(2, 2, 1), 2, "[{0 0}] 0 0 3 false 3"}, {points(4, 7, 5, 7), search(1, 2, 1), 1, "[{0 1} {0 1}] 0 1 0 false 3"}, {three, search(1, 3, 1), 2, "[{8 1} {4 1} {16 1}] 0 2 0 true 0"},
		// Best periods that differ by just a step, and by more: all strings of three points are equal.
		{three, search(1, 2, 1), 2, "[{8 1} {4 1}] 0 2 0 true 0"}, {curveOfMags(1, 3, 5), search(1, 3, 1), 2, "[{8 1} {16 1} {4 1}] 0 3 0 false 0"}, {curveOfMags(1, 3, 5), search(1, 3, 2), 2, "[{8 1} {4 1}] 0 3 0 true 0"}, {curveOfMags(1, 3, 5), search(2, 3, 1), 2, "[{16 1} {4 1}] 0 3 0 true 0"},
		// Just as many points as there may be, the least and the greatest bins and periods.
		{zigzag(40), search(1, 2, 1), 2, "[{9680000000 39} {0 1}] 0 2 0 true 0"}, {zigzag(40), search(1, 1000000, 999999), 1, "[{9680000000 39} {9680000000 39}] 0 1 0 true 0"}, {zigzag(40), search(1, 1000000, 999999), 20, "[{9680000000 39} {9680000000 39}] 0 1 0 true 0"},
		{evenCurve(40, 20000), search(1, 1000000, 499999), 20, "[{0 1} {0 1} {0 1}] 0 1 0 true 0"},
		// Errors, and their order.
		{zigzag(41), search(1, 2, 1), 2, full}, {zigzag(100), search(5, 5, 1), 20, full}, {evenCurve(41, 0), search(5, 5, 1), 1, full}, {zigzag(41), search(1, 2, 1), 0, beyond}, {zigzag(100), search(1, 2, 1), 21, beyond},
		{curve, search(100, 400, 100), 0, beyond}, {curve, search(100, 400, 100), 21, beyond}, {curve, search(100, 400, 100), -2, beyond}, {curve, search(100, 400, 100), math.MaxInt64, beyond}, {curve, search(100, 400, 100), math.MinInt64, beyond}, {nil, search(1, 3, 1), 0, beyond}, {three[:2], search(1, 3, 1), 21, beyond},
		{curve, impl.Search{}, 2, invalid}, {curve, search(1, 501, 1), 2, invalid}, {curve, search(1, 501, 1), 0, invalid}, {curve, search(6, 5, 1), 2, invalid}, {zigzag(41), impl.Search{}, 2, invalid}, {zigzag(41), search(0, 5, 1), 21, invalid}, {nil, impl.Search{}, 2, invalid},
		{zigzag(101), search(1, 2, 1), 2, invalid}, {zigzag(101), search(1, 2, 1), 0, invalid}, {zigzag(101), impl.Search{}, 0, invalid}, {points(5, 1, 5, 1), search(1, 2, 1), 2, invalid}, {points(5, 20001), search(1, 2, 1), 21, invalid}, {points(-1, 1), impl.Search{}, 0, invalid},
		{curve, search(math.MinInt64, math.MaxInt64, 1), 2, invalid}, {curve, search(1, math.MaxInt64, math.MaxInt64), math.MaxInt64, invalid},
	} {
		checkCurve(t, fmt.Sprint("searches by bins ", x.x, x.bins), x.curve, x.want, func(curve []impl.Point) []any { return binSearchesOf(curve, x.x, x.bins) })
	}
}

// bestByBinsWanted goes through the periods; it is 0 if there are no pairs for any of them.
func bestByBinsWanted(curve []impl.Point, x impl.Search, bins int64) int64 {
	best, least := int64(0), (*big.Rat)(nil)
	for _, period := range periodsWanted(x) {
		if own := dispersionWanted(curve, period, bins); own != nil && (least == nil || own.Cmp(least) < 0) {
			best, least = period, own
		}
	}
	return best
}

// binSearchesWanted is for good curves and searches.
func binSearchesWanted(curve []impl.Point, x impl.Search, bins int64) string {
	if !between(bins, 1, 20) {
		return "[] 2 0 2 false 2"
	}
	if len(curve) > 40 {
		return "[] 5 0 5 false 5"
	}
	var list []impl.Fraction
	for _, period := range periodsWanted(x) {
		f := impl.Fraction{}
		if own := dispersionWanted(curve, period, bins); own != nil {
			f = impl.Fraction{Num: own.Num().Int64(), Den: own.Denom().Int64()}
		}
		list = append(list, f)
	}
	best := bestByBinsWanted(curve, x, bins)
	if best == 0 {
		return fmt.Sprint(list, " 0 0 3 false 3")
	}
	if len(curve) < 3 {
		return fmt.Sprint(list, " 0 ", best, " 0 false 3")
	}
	byString := shortestFirst(curve, x)[0]
	return fmt.Sprint(list, " 0 ", best, " 0 ", between(best, byString-x.Step, byString+x.Step), " 0")
}

func TestSearchesByBinsForAllArguments(t *testing.T) {
	searches := goodSearches()
	for i, curve := range append(stringCurves(), evenCurve(2, 20000), evenCurve(40, -2000), evenCurve(41, 0)) {
		for k, x := range searches {
			for n, bins := range edgeBins {
				// Searches with many periods for some of the curves only.
				if len(periodsWanted(x)) < 30 && (i+k+n)%5 == 0 || (i+k*3+n)%60 == 0 {
					checkCurve(t, fmt.Sprint("searches by bins ", x, bins), curve, binSearchesWanted(curve, x, bins), func(curve []impl.Point) []any { return binSearchesOf(curve, x, bins) })
				}
			}
		}
	}
	for i, curve := range append(stringCurves()[:12], badCurves()...) {
		for k, x := range badSearches() {
			bins := edgeBins[(i+k)%len(edgeBins)]
			checkCurve(t, fmt.Sprint("searches by bins ", x, bins), curve, "[] 1 0 1 false 1", func(curve []impl.Point) []any { return binSearchesOf(curve, x, bins) })
		}
	}
	for i, curve := range badCurves() {
		for k, x := range searches[:20] {
			bins := edgeBins[(i+k)%len(edgeBins)]
			checkCurve(t, fmt.Sprint("searches by bins ", x, bins), curve, "[] 1 0 1 false 1", func(curve []impl.Point) []any { return binSearchesOf(curve, x, bins) })
		}
	}
}

// TestNoPeriodHasALesserDispersion is promise 11.
func TestNoPeriodHasALesserDispersion(t *testing.T) {
	found, equal, without := 0, 0, 0
	for i, curve := range stringCurves() {
		for k, x := range goodSearches() {
			bins := int64(1 + (i*7+k)%20)
			best, code := impl.BestByBins(curve, x, bins)
			if code != impl.OK {
				continue
			}
			least, code := impl.DispersionOf(curve, best, bins)
			if code != impl.OK {
				t.Fatalf("%v for %v with %d bins: got %d, which has no dispersion: %d", curve, x, bins, best, code)
			}
			found++
			periods, _ := impl.PeriodsOf(x)
			list, _ := impl.DispersionsOf(curve, x, bins)
			for n, period := range periods {
				own, code := impl.DispersionOf(curve, period, bins)
				if own != list[n] {
					t.Fatalf("%v for %v with %d bins: got %v of %d, and %v alone", curve, x, bins, list[n], period, own)
				}
				if code == impl.ErrNotFound {
					without++
					continue
				}
				order := big.NewRat(own.Num, own.Den).Cmp(big.NewRat(least.Num, least.Den))
				if code != impl.OK || order < 0 || order == 0 && period < best {
					t.Fatalf("%v for %v with %d bins: %d with %v %d is better than %d with %v", curve, x, bins, period, own, code, best, least)
				}
				if order == 0 && period > best {
					equal++
				}
			}
		}
	}
	if found < 1000 || equal < 1000 || without < 100 {
		t.Errorf("only %d best periods, %d equal ones, %d without pairs", found, equal, without)
	}
}

// TestAgreeingPeriodsDifferByAStep holds AgreeingPeriods against both best periods.
func TestAgreeingPeriodsDifferByAStep(t *testing.T) {
	cases := map[string]int{}
	for i, curve := range stringCurves() {
		for k, x := range goodSearches() {
			bins := int64(1 + (i*3+k)%20)
			agree, code := impl.AgreeingPeriods(curve, x, bins)
			if code != impl.OK {
				continue
			}
			byBins, one := impl.BestByBins(curve, x, bins)
			byString, two := impl.BestPeriod(curve, x)
			apart := max(byBins, byString) - min(byBins, byString)
			if one != impl.OK || two != impl.OK || agree != (apart <= x.Step) {
				t.Fatalf("%v for %v with %d bins: got %v, for %d %d and %d %d", curve, x, bins, agree, byBins, one, byString, two)
			}
			switch {
			case apart == 0:
				cases["equal"]++
			case apart == x.Step && byBins < byString:
				cases["a step less"]++
			case apart == x.Step:
				cases["a step more"]++
			case byBins < byString:
				cases["less"]++
			default:
				cases["more"]++
			}
		}
	}
	for _, name := range []string{"equal", "a step less", "a step more", "less", "more"} {
		if cases[name] < 10 {
			t.Errorf("only %d best periods by bins that are %s: %v", cases[name], name, cases)
		}
	}
}

// TestResultsOfDispersionsAreNewSlices changes each result with its unused capacity, and asks again.
func TestResultsOfDispersionsAreNewSlices(t *testing.T) {
	curve, x := foldedCurve(), search(100, 400, 100)
	bins, _ := impl.BinOfPoints(curve, 200, 2)
	clear(bins[:cap(bins)])
	again, _ := impl.BinOfPoints(curve, 200, 2)
	same(t, "BinOfPoints", fmt.Sprint("[0 1 0 1] ", foldedCurve()), again, curve)
	list, _ := impl.DispersionsOf(curve, x, 2)
	clear(list[:cap(list)])
	other, _ := impl.DispersionsOf(curve, x, 2)
	same(t, "DispersionsOf", fmt.Sprint("[{500000 3} {0 1} {500000 3} {250000 1}] ", foldedCurve()), other, curve)
}

// TestDispersionsForAllArguments is promise 1 for chapter 11: each call returns, and returns the same again.
func TestDispersionsForAllArguments(t *testing.T) {
	curves := slices.Concat(binCurves()[:30], badCurves(), binCurves()[120:])
	odd := numbers(-1, 0, 1, 2, 19, 20, 21, 499, 1000000, 1000001)
	for i, from := range odd {
		for k, to := range odd {
			for n, step := range odd {
				x, bins := search(from, to, step), odd[(i+k*5+n*3)%len(odd)]
				keepPoints(t, "dispersions", curves[(i*67+k*13+n)%len(curves)], func(curve []impl.Point) {
					twice(t, "dispersions", func() []any {
						whole, code := impl.WholeDispersion(curve)
						mags := append(pairsOf(magsWanted(curve)), pairsOf(odd[:i])...)
						return slices.Concat(mags, foldedOf(curve, step, bins), binSearchesOf(curve, x, bins), []any{whole, code})
					})
				})
			}
		}
	}
}
