package tests

import (
	"fmt"
	"maps"
	"math"
	"math/big"
	"math/rand/v2"
	"reflect"
	"slices"
	"testing"

	"loop.example/g01026/impl"
)

// edgeBinWidths are numbers at and beside the limits of the widths of bins.
var edgeBinWidths = numbers(-1000000, -1, 0, 1, 2, 3, 7, 10, 100, 4999, 9999, 10000, 10001, 500000, 999999, 1000000, 1000001, 10000000)

// edgeMedianSides are numbers at and beside the limits of the sides of running medians.
var edgeMedianSides = numbers(-10, -2, -1, 0, 1, 2, 3, 5, 9, 10, 11, 12, 100)

// points are points of a Time and a Mag each.
func points(numbers ...int64) []impl.Point {
	var list []impl.Point
	for two := range slices.Chunk(numbers, 2) {
		list = append(list, impl.Point{Time: two[0], Mag: two[1]})
	}
	return list
}

// curveOfMags has points of these magnitudes at the times 0, 1, 2 and so on.
func curveOfMags(mags ...int64) []impl.Point {
	list := make([]impl.Point, len(mags))
	for i, m := range mags {
		list[i] = impl.Point{Time: int64(i), Mag: m}
	}
	return list
}

func exampleCurve() []impl.Point { return points(0, 9000, 10000, 9100, 20000, 9500) }

// edgeCurve has times and magnitudes at both ends of their ranges.
func edgeCurve() []impl.Point {
	return points(0, -2000, 1, 20000, 2, 0, 999999, -1, 1000000, -1999, 1000001, 19999, 1999999, 1, 2000000, -2, 9999999, 20000, 10000000, -2000)
}

// fullCurve has as many points as there may be.
func fullCurve() []impl.Point {
	list := make([]impl.Point, 100)
	for i := range list {
		n := int64(i)
		list[i] = impl.Point{Time: n*n*1000 + n, Mag: n*n*711%22001 - 2000}
	}
	return list
}

// steepCurve has the points that make the sums of a slope as great as they can be.
func steepCurve() []impl.Point {
	var list []impl.Point
	for i := range int64(100) {
		p := impl.Point{Time: i, Mag: -2000}
		if i >= 50 {
			p = impl.Point{Time: 10_000_000 - 99 + i, Mag: 20000}
		}
		list = append(list, p)
	}
	return list
}

// upsideDown has the magnitudes of a curve the other way round.
func upsideDown(curve []impl.Point) []impl.Point {
	list := slices.Clone(curve)
	for i := range list {
		list[i].Mag = 18000 - list[i].Mag
	}
	return list
}

// diceCurve is a curve by chance, the same one in every run.
func diceCurve(seed uint64) []impl.Point {
	r := rand.New(rand.NewPCG(8, seed))
	pick := func(list ...int64) int64 { return list[r.IntN(len(list))] }
	most := pick(1, 2, 3, 5, 12, 25, 60, 100)
	step := pick(1, 2, 9, 1000, 100_000)
	mag, wide := pick(-2000, -1000, -10, 0, 9000), pick(1, 2, 5, 300, 11000)
	time := pick(0, 0, 17, 9_999_000)
	var list []impl.Point
	for range 1 + r.Int64N(most) {
		if time > 10_000_000 {
			break
		}
		list = append(list, impl.Point{Time: time, Mag: mag + r.Int64N(wide)})
		time += 1 + r.Int64N(step)
	}
	return list
}

func isPoint(p impl.Point) bool { return isTime(p.Time) && isMag(p.Mag) }

func goodCurves() [][]impl.Point {
	list := [][]impl.Point{
		nil, {}, make([]impl.Point, 1), exampleCurve(), edgeCurve(), fullCurve(), fullCurve()[1:], fullCurve()[:99], fullCurve()[:20], fullCurve()[:21], fullCurve()[:22],
		steepCurve(), upsideDown(steepCurve()), upsideDown(fullCurve()), points(5, 9000, 6, 9001), points(10000000, 20000), points(0, -2000, 10000000, 20000),
		curveOfMags(0, 0, 0), curveOfMags(0, -1, -1, 0), curveOfMags(-2000, 20000, -2000, 20000, -2000),
	}
	for seed := range uint64(100) {
		list = append(list, diceCurve(seed))
	}
	return list
}

// badPoints are none by just one of their fields, but for the first ones.
func badPoints() []impl.Point {
	list := points(-1, -2001, 10000001, 20001)
	for _, n := range numbers(-10000, -2, -1, 10000001, 10000002) {
		list = append(list, points(n, 9000)...)
	}
	for _, n := range numbers(-20000, -2002, -2001, 20001, 20002) {
		list = append(list, points(5, n)...)
	}
	return list
}

// badCurves are those with a point that is none, with times that are equal or out of order, or with too many points.
func badCurves() [][]impl.Point {
	list := [][]impl.Point{
		points(5, 9000, 5, 9000), points(5, 9000, 5, 9001), points(6, 9000, 5, 9001), points(0, 1, 2, 1, 1, 1), points(2, 1, 0, 1, 3, 1), points(10000000, 1, 0, 1),
		points(0, 1, 0, 2, 3, 1), points(0, 1, 3, 1, 3, 1), points(10000000, 1, 10000000, 1), append(fullCurve()[:99], fullCurve()[98]), append(fullCurve()[:99], fullCurve()[0]),
		append(fullCurve(), points(10000000, 9000)...), append(fullCurve(), fullCurve()[99]), append(fullCurve(), impl.Point{Time: -1}), slices.Insert(fullCurve(), 1, points(1, 9000)...),
		make([]impl.Point, 2), make([]impl.Point, 100), make([]impl.Point, 101), make([]impl.Point, 5000), curveOfMags(make([]int64, 101)...), curveOfMags(make([]int64, 300)...),
	}
	for _, p := range badPoints() {
		list = append(list, []impl.Point{p}, append(exampleCurve(), p), append([]impl.Point{p}, exampleCurve()[1:]...), append(fullCurve()[:99], p), []impl.Point{p, p})
	}
	return append(list, points(-1, 9000, 0, 9000, 1, 9000), points(9999999, 1, 10000000, 1, 10000001, 1), points(math.MinInt64, 0, math.MaxInt64, 0), points(0, 1, 1, 20001, 2, 1))
}

// keepPoints is keep for curves.
func keepPoints(t *testing.T, name string, curve []impl.Point, f func(curve []impl.Point)) {
	t.Helper()
	keep(t, name, curve, impl.Point{Time: spare, Mag: spare}, f)
}

// checkCurve checks the results of f for a curve, which f may not change.
func checkCurve(t *testing.T, name string, curve []impl.Point, want string, f func(curve []impl.Point) []any) {
	t.Helper()
	keepPoints(t, name, curve, func(curve []impl.Point) {
		t.Helper()
		same(t, fmt.Sprint(name, " ", curve), want, twice(t, name, func() []any { return f(curve) })...)
	})
}

// timesOf are the times of the points and times beside and between them.
func timesOf(curve []impl.Point) []int64 {
	var list []int64
	for i, p := range curve {
		list = append(list, p.Time-1, p.Time, p.Time+1)
		if i > 0 {
			before := curve[i-1].Time
			list = append(list, (before+p.Time)/2, (before+p.Time+1)/2, before+(p.Time-before)/3)
		}
	}
	return list
}

func TestConstantsOfCurves(t *testing.T) { same(t, "constants", "100", impl.MaxCurve) }

func TestValidCurve(t *testing.T) {
	valid := func(curve []impl.Point) []any { return []any{impl.ValidCurve(curve)} }
	for _, curve := range goodCurves() {
		checkCurve(t, "ValidCurve", curve, "true", valid)
	}
	for _, curve := range badCurves() {
		checkCurve(t, "ValidCurve", curve, "false", valid)
	}
}

// TestPointsAtTheirLimits holds each field at and beside its limits.
func TestPointsAtTheirLimits(t *testing.T) {
	list := badPoints()
	for _, time := range edgeTimes {
		for _, mag := range edgeMags {
			list = append(list, impl.Point{Time: time, Mag: mag})
		}
	}
	for _, p := range list {
		want := fmt.Sprintf("true [%v] 0 [%v] 0 %d 0 0 0", p, p, p.Mag)
		if !isPoint(p) {
			want = "false [] 1 [] 1 0 1 0 1"
		}
		checkCurve(t, "a single point", []impl.Point{p}, want, func(curve []impl.Point) []any {
			bins, one := impl.BinCurve(curve, 3)
			smooth, two := impl.SmoothCurve(curve, 10)
			mag, three := impl.MagAt(curve, p.Time)
			path, four := impl.PathOf(curve)
			return []any{impl.ValidCurve(curve), bins, one, smooth, two, mag, three, path, four}
		})
	}
}

// TestCurvesOutOfOrder swaps each two points of a curve, and puts each point to the time of each other one.
func TestCurvesOutOfOrder(t *testing.T) {
	for _, curve := range [][]impl.Point{exampleCurve(), edgeCurve(), fullCurve()} {
		for i := range curve {
			for k := range curve {
				swapped, moved := slices.Clone(curve), slices.Clone(curve)
				swapped[i], swapped[k] = swapped[k], swapped[i]
				moved[i].Time = moved[k].Time
				same(t, fmt.Sprint("points ", i, k), fmt.Sprint(i == k, i == k), impl.ValidCurve(swapped), impl.ValidCurve(moved))
			}
		}
	}
}

func TestSameCurve(t *testing.T) {
	lists := append(goodCurves(), badCurves()...)
	for i, a := range lists {
		for k, b := range lists {
			want := len(a) == 0 && len(b) == 0 || reflect.DeepEqual(a, b)
			if got := impl.SameCurve(a, b); got != want {
				t.Fatalf("SameCurve of lists %d and %d: got %v", i, k, got)
			}
		}
	}
	for _, curve := range [][]impl.Point{exampleCurve(), fullCurve(), make([]impl.Point, 150), badPoints()} {
		for i := range curve {
			for field, change := range []func(p *impl.Point){func(p *impl.Point) {}, func(p *impl.Point) { p.Time++ }, func(p *impl.Point) { p.Mag-- }} {
				other := slices.Clone(curve)
				change(&other[i])
				keepPoints(t, "SameCurve", other, func(other []impl.Point) {
					same(t, fmt.Sprint("SameCurve of change ", field), fmt.Sprint(field == 0, field == 0), impl.SameCurve(curve, other), impl.SameCurve(other, curve))
				})
			}
		}
	}
	same(t, "another order", "false", impl.SameCurve(points(1, 2, 3, 4), points(3, 4, 1, 2)))
}

func TestCurveOf(t *testing.T) {
	for _, x := range []struct {
		list []string
		want string
	}{
		{nil, "[] 0"},
		{[]string{"5 m a 9000"}, "[{5 9000}] 0"},
		{[]string{"0 m a -2000", "10000000 m a 20000"}, "[{0 -2000} {10000000 20000}] 0"},
		{[]string{"5 l a 9000", "5 n a 9000", "6 mm a 9000", "7 a m 9000"}, "[] 0"},
		{[]string{"5 l a 1", "5 m a 2", "5 n a 3", "6 l a 4", "6 n a 5", "7 m a 6"}, "[{5 2} {7 6}] 0"},
		// Limits are left out, alone at their times or beside others.
		{[]string{"5 m a <9000"}, "[] 0"},
		{[]string{"5 m a <9000", "6 m a <9000", "6 m b <9000"}, "[] 0"},
		{[]string{"5 m a <9000", "6 m a 8000", "7 m a <9000"}, "[{6 8000}] 0"},
		{[]string{"5 m a <9000", "5 m b 8000", "5 m c <7000"}, "[{5 8000}] 0"},
		{[]string{"5 m a 8000", "5 m b <9000", "5 m c 8002"}, "[{5 8001}] 0"},
		// Several at a time: the nearest integer of the mean, a half up.
		{[]string{"5 m a 1", "5 m b 2"}, "[{5 2}] 0"},
		{[]string{"5 m a -1", "5 m b -2"}, "[{5 -1}] 0"},
		{[]string{"5 m a 0", "5 m b -1"}, "[{5 0}] 0"},
		{[]string{"5 m a 1", "5 m b 1", "5 m c 2"}, "[{5 1}] 0"},
		{[]string{"5 m a 1", "5 m b 2", "5 m c 2"}, "[{5 2}] 0"},
		{[]string{"5 m a -1", "5 m b -1", "5 m c -2"}, "[{5 -1}] 0"},
		{[]string{"5 m a -1", "5 m b -2", "5 m c -2"}, "[{5 -2}] 0"},
		{[]string{"5 m a 0", "5 m b 0", "5 m c 90"}, "[{5 30}] 0"}, // the mean, and not the median
		{[]string{"5 m a 1", "5 m b 3", "6 m a 5", "6 m b 8", "8 m a 2", "9 m c 4"}, "[{5 2} {6 7} {8 2} {9 4}] 0"},
		{[]string{"5 m a 1", "5 n b 30", "6 m a 5", "6 n b 80"}, "[{5 1} {6 5}] 0"},
		{[]string{"0 m a 20000", "0 m b 20000", "0 m c 19999", "0 m d 19999"}, "[{0 20000}] 0"},
		{[]string{"0 m a -2000", "0 m b -2000", "0 m c -1999", "0 m d -1999"}, "[{0 -1999}] 0"},
		// Lists that are not valid.
		{[]string{"6 m a 9000", "5 m a 9000"}, "[] 1"},
		{[]string{"5 m a 9000", "5 m a 9000"}, "[] 1"},
		{[]string{"5 m a 20001"}, "[] 1"},
		{[]string{"5 m a <20001"}, "[] 1"},
		{[]string{"-1 m a 9000"}, "[] 1"},
		{[]string{"5 l A 9000", "6 m a 9000"}, "[] 1"},
	} {
		curve, code := impl.CurveOf(estimates(x.list...), "m")
		same(t, fmt.Sprint("CurveOf ", x.list), x.want, curve, code)
	}
	for _, name := range append(slices.Clone(oddTexts), "M", "m ", "9m", "abcdefghijklm", "m\x00") {
		none, one := impl.CurveOf(exampleEstimates(), name)
		empty, two := impl.CurveOf(nil, name)
		bad, three := impl.CurveOf(estimates("6 m a 1", "5 m a 1"), name)
		same(t, fmt.Sprintf("CurveOf %q", name), "[] 2 [] 2 [] 1", none, one, empty, two, bad, three)
	}
}

// meanWanted is the nearest integer of the mean.
func meanWanted(list []int64) int64 {
	sum := new(big.Rat)
	for _, n := range list {
		sum.Add(sum, big.NewRat(n, 1))
	}
	return nearestOf(sum.Mul(sum, big.NewRat(1, int64(len(list)))))
}

// curveWanted has a point for each time of which seen has magnitudes.
func curveWanted(list []impl.Estimate, star string) []impl.Point {
	seen := map[int64][]int64{}
	for _, e := range list {
		if e.Star == star && !e.Fainter {
			seen[e.Time] = append(seen[e.Time], e.Mag)
		}
	}
	var curve []impl.Point
	for _, time := range slices.Sorted(maps.Keys(seen)) {
		curve = append(curve, impl.Point{Time: time, Mag: meanWanted(seen[time])})
	}
	return curve
}

func TestCurveOfForAllArguments(t *testing.T) {
	full := make([]impl.Estimate, 100) // a point of each estimate, and one point of all
	crowd := make([]impl.Estimate, 100)
	for i := range full {
		full[i] = impl.Estimate{Time: int64(i), Star: "m", Observer: "a", Mag: int64(i * i)}
		crowd[i] = impl.Estimate{Time: 10_000_000, Star: "m", Observer: fmt.Sprintf("o%02d", i), Mag: 20000 - int64(i%2)}
	}
	several := 0
	for _, list := range append(goodEstimateLists(), full, crowd) {
		for _, star := range namesFor(list) {
			want, wantCode := []impl.Point(nil), int64(impl.ErrRange)
			if impl.IsName(star) {
				want, wantCode = curveWanted(list, star), impl.OK
			}
			keepEstimates(t, "CurveOf", list, func(list []impl.Estimate) {
				got := twice(t, "CurveOf", func() []any {
					curve, code := impl.CurveOf(list, star)
					return []any{curve, code, impl.ValidCurve(curve)}
				})
				same(t, fmt.Sprintf("CurveOf %v %q", list, star), fmt.Sprint(want, wantCode, true), got...)
			})
			if len(want) > 1 {
				several++
			}
		}
	}
	if several < 50 {
		t.Errorf("only %d curves have several points", several)
	}
	for _, list := range badEstimateLists() {
		for _, star := range []string{"m", "a", "nobody", "", "No Name"} {
			curve, code := impl.CurveOf(list, star)
			same(t, fmt.Sprint("CurveOf ", list, star), "[] 1", curve, code)
		}
	}
}

func TestBinCurve(t *testing.T) {
	for _, x := range []struct {
		curve []impl.Point
		width int64
		want  string
	}{
		{exampleCurve(), 15000, "[{5000 9050} {20000 9500}] 0"},
		{nil, 1, "[] 0"},
		{[]impl.Point{}, 1000000, "[] 0"},
		// Bins with one point have just this point.
		{points(7, -9), 5, "[{7 -9}] 0"},
		{points(0, 9000), 1000000, "[{0 9000}] 0"},
		{points(10000000, 20000), 1000000, "[{10000000 20000}] 0"},
		{points(9999999, 1, 10000000, -1), 1000000, "[{9999999 1} {10000000 -1}] 0"},
		{points(9000000, 1, 9999999, 4), 1000000, "[{9500000 3}] 0"},
		{exampleCurve(), 1, "[{0 9000} {10000 9100} {20000 9500}] 0"},
		{exampleCurve(), 10000, "[{0 9000} {10000 9100} {20000 9500}] 0"},
		{exampleCurve(), 10001, "[{5000 9050} {20000 9500}] 0"},
		{exampleCurve(), 20000, "[{5000 9050} {20000 9500}] 0"},
		{exampleCurve(), 20001, "[{10000 9200}] 0"},
		{exampleCurve(), 1000000, "[{10000 9200}] 0"},
		{points(0, 5, 1, 7, 2, 5, 3, 7), 1, "[{0 5} {1 7} {2 5} {3 7}] 0"},
		{points(1, 10, 5, 20, 9, 60, 17, 40), 5, "[{1 10} {7 40} {17 40}] 0"}, // one point, two, none, and one
		// At k * width, and just before it.
		{points(99, 10, 100, 20), 100, "[{99 10} {100 20}] 0"},
		{points(100, 10, 199, 20), 100, "[{150 15}] 0"},
		{points(199, 10, 200, 20), 100, "[{199 10} {200 20}] 0"},
		{points(0, 10, 99, 20, 100, 30, 199, 40, 200, 50), 100, "[{50 15} {150 35} {200 50}] 0"},
		// The bins begin at 0, and not at the first point.
		{points(50, 10, 120, 20), 100, "[{50 10} {120 20}] 0"},
		{points(150, 10, 160, 20, 240, 30), 100, "[{155 15} {240 30}] 0"},
		// Means half between two integers, and others.
		{points(0, 1, 1, 2), 2, "[{1 2}] 0"},
		{points(0, 2, 1, 1), 10, "[{1 2}] 0"},
		{points(0, -1, 1, -2), 10, "[{1 -1}] 0"},
		{points(2, 0, 5, -1), 10, "[{4 0}] 0"},
		{points(0, 1, 1, 1, 3, 2), 10, "[{1 1}] 0"},
		{points(0, -1, 2, -1, 3, -2), 10, "[{2 -1}] 0"},
		{points(0, 1, 1, 2, 4, 2), 10, "[{2 2}] 0"},
		{points(0, -2, 1, -2, 4, -1), 10, "[{2 -2}] 0"},
		{points(0, -3, 1, -3, 2, -2, 3, -2), 4, "[{2 -2}] 0"},
		{points(0, 0, 1, 0, 2, 0, 9, 100), 10, "[{3 25}] 0"}, // the means, and not the medians
		{points(0, -2000, 1, -2000), 10, "[{1 -2000}] 0"},
		{points(9999998, 20000, 9999999, 20000), 2, "[{9999999 20000}] 0"},
		// Errors, and their order.
		{exampleCurve(), 0, "[] 2"},
		{exampleCurve(), -1, "[] 2"},
		{exampleCurve(), 1000001, "[] 2"},
		{exampleCurve(), math.MinInt64, "[] 2"},
		{exampleCurve(), math.MaxInt64, "[] 2"},
		{nil, 0, "[] 2"},
		{points(5, 1, 5, 1), 10, "[] 1"},
		{points(5, 1, 5, 1), 0, "[] 1"},
		{points(5, 20001), 0, "[] 1"},
		{points(-1, 1), 10, "[] 1"},
		{append(fullCurve(), points(10000000, 1)...), 1000001, "[] 1"},
	} {
		bins, code := impl.BinCurve(x.curve, x.width)
		same(t, fmt.Sprint("BinCurve ", x), x.want, bins, code)
	}
}

// binsWanted puts each point to those with the same number k.
func binsWanted(curve []impl.Point, width int64) string {
	if !between(width, 1, 1_000_000) {
		return "[] 2"
	}
	times, mags := map[int64][]int64{}, map[int64][]int64{}
	for _, p := range curve {
		var k int64
		for step := int64(1 << 30); step > 0; step /= 2 { // the greatest k with k * width <= Time
			if (k+step)*width <= p.Time {
				k += step
			}
		}
		times[k], mags[k] = append(times[k], p.Time), append(mags[k], p.Mag)
	}
	var bins []impl.Point
	for _, k := range slices.Sorted(maps.Keys(times)) {
		bins = append(bins, impl.Point{Time: meanWanted(times[k]), Mag: meanWanted(mags[k])})
	}
	return fmt.Sprint(bins, 0)
}

func TestBinCurveForAllArguments(t *testing.T) {
	for _, curve := range goodCurves() {
		for _, width := range edgeBinWidths {
			checkCurve(t, fmt.Sprint("BinCurve ", width), curve, binsWanted(curve, width), func(curve []impl.Point) []any {
				bins, code := impl.BinCurve(curve, width)
				return []any{bins, code}
			})
		}
	}
	for _, curve := range badCurves() {
		for _, width := range edgeBinWidths {
			bins, code := impl.BinCurve(curve, width)
			same(t, fmt.Sprint("BinCurve ", curve, width), "[] 1", bins, code)
		}
	}
}

// TestBinsHaveTheirPoints is the first half of promise 8: a bin lies among its points, and each point has a bin.
func TestBinsHaveTheirPoints(t *testing.T) {
	alone, together := 0, 0
	for _, curve := range goodCurves() {
		for _, width := range []int64{1, 2, 3, 10, 99, 100, 4999, 10_000, 10_001, 999_999, 1_000_000} {
			bins, code := impl.BinCurve(curve, width)
			if code != impl.OK || !impl.ValidCurve(bins) {
				t.Fatalf("BinCurve(%v, %d): got %v %d", curve, width, bins, code)
			}
			binned := 0
			for i, bin := range bins {
				k := bin.Time / width
				var own []impl.Point
				for _, p := range curve {
					if k*width <= p.Time && p.Time < (k+1)*width {
						own = append(own, p)
					}
				}
				low, high, one := impl.RangeOfMags(magsWanted(own))
				if one != impl.OK || !between(bin.Mag, low, high) || !between(bin.Time, own[0].Time, own[len(own)-1].Time) || i > 0 && bins[i-1].Time/width >= k {
					t.Fatalf("BinCurve(%v, %d): got %v with %v in bin %d", curve, width, bins, own, i)
				}
				if len(own) == 1 {
					same(t, "a bin with one point", fmt.Sprint(own[0]), bin)
					alone++
				} else {
					together++
				}
				binned += len(own)
			}
			if binned != len(curve) {
				t.Fatalf("BinCurve(%v, %d): got %v, which have %d points", curve, width, bins, binned)
			}
		}
	}
	if alone < 1000 || together < 1000 {
		t.Errorf("only %d bins with one point, and %d with several", alone, together)
	}
}

func magsWanted(curve []impl.Point) []int64 {
	var mags []int64
	for _, p := range curve {
		mags = append(mags, p.Mag)
	}
	return mags
}

func TestSmoothCurve(t *testing.T) {
	for _, x := range []struct {
		mags []int64
		side int64
		want string // the magnitudes, and the code
	}{
		{nil, 0, "[] 0"},
		{nil, 10, "[] 0"},
		{[]int64{9000}, 0, "[9000] 0"},
		{[]int64{-9}, 10, "[-9] 0"},
		{[]int64{9000, 9100, 9500}, 1, "[9050 9100 9300] 0"},
		{[]int64{9000, 9100, 9500}, 0, "[9000 9100 9500] 0"},
		{[]int64{9000, 9100, 9500}, 2, "[9100 9100 9100] 0"},
		{[]int64{9000, 9100, 9500}, 10, "[9100 9100 9100] 0"}, // fewer points than the side
		{[]int64{5, 1, 4, 2, 3}, 1, "[3 4 2 3 3] 0"},
		{[]int64{5, 1, 4, 2, 3}, 2, "[4 3 3 3 3] 0"},
		{[]int64{5, 1, 4, 2, 3}, 3, "[3 3 3 3 3] 0"},
		{[]int64{5, 1, 4, 2, 3}, 4, "[3 3 3 3 3] 0"},
		{[]int64{9, 0, 0, 0, 0, 0, 9}, 1, "[5 0 0 0 0 0 5] 0"}, // just the points that there are at both ends
		{[]int64{9, 9, 0, 0, 0, 9, 9}, 2, "[9 5 0 0 0 5 9] 0"},
		{[]int64{0, 100, 0, 100, 0}, 1, "[50 0 100 0 50] 0"},
		// The mean of both in the middle, a half up.
		{[]int64{1, 2}, 1, "[2 2] 0"},
		{[]int64{2, 1}, 5, "[2 2] 0"},
		{[]int64{-1, -2}, 1, "[-1 -1] 0"},
		{[]int64{0, -1}, 1, "[0 0] 0"},
		{[]int64{-2000, 20000}, 10, "[9000 9000] 0"},
		{[]int64{-1, 0, 7, -8}, 2, "[0 0 0 0] 0"},
		{[]int64{-3, -2, 7, -8}, 3, "[-2 -2 -2 -2] 0"},
		{[]int64{-3, -2, 7, -8}, 2, "[-2 -2 -2 -2] 0"},
		{[]int64{-3, -2, -1, -8}, 1, "[-2 -2 -2 -4] 0"},
		// Side 10 at the first point has 11 points; at the point 10 it has 21.
		{[]int64{0, 0, 0, 0, 0, 0, 1, 1, 1, 1, 1, 1}, 10, "[0 1 1 1 1 1 1 1 1 1 1 1] 0"},
		{[]int64{9000}, -1, "[] 2"},
		{[]int64{9000}, 11, "[] 2"},
		{nil, 11, "[] 2"},
		{[]int64{9000}, math.MaxInt64, "[] 2"},
		{[]int64{9000}, math.MinInt64, "[] 2"},
		{[]int64{9000, 20001}, 1, "[] 1"},
		{[]int64{9000, 20001}, -1, "[] 1"},
		{[]int64{-2001}, 11, "[] 1"},
	} {
		smooth, code := impl.SmoothCurve(curveOfMags(x.mags...), x.side)
		same(t, fmt.Sprint("SmoothCurve ", x), x.want, magsWanted(smooth), code)
	}
	smooth, code := impl.SmoothCurve(exampleCurve(), 1)
	same(t, "the times stay", "[{0 9050} {10000 9100} {20000 9300}] 0", smooth, code)
}

// mediansWanted takes the median of the points whose index is near enough.
func mediansWanted(curve []impl.Point, side int64) []int64 {
	var medians []int64
	for i := range curve {
		var near []int64
		for k, p := range curve {
			if between(int64(i-k), -side, side) {
				near = append(near, p.Mag)
			}
		}
		slices.Sort(near)
		n := len(near)
		// For an odd number, both in the middle are the same one.
		medians = append(medians, nearestOf(big.NewRat(near[(n-1)/2]+near[n/2], 2)))
	}
	return medians
}

func TestSmoothCurveForAllArguments(t *testing.T) {
	for _, curve := range goodCurves() {
		for _, side := range edgeMedianSides {
			want := "[] 2"
			if between(side, 0, 10) {
				smooth := slices.Clone(curve)
				for i, median := range mediansWanted(curve, side) {
					smooth[i].Mag = median
				}
				want = fmt.Sprint(smooth, 0)
			}
			checkCurve(t, fmt.Sprint("SmoothCurve ", side), curve, want, func(curve []impl.Point) []any {
				smooth, code := impl.SmoothCurve(curve, side)
				return []any{smooth, code}
			})
		}
	}
	for _, curve := range badCurves() {
		for _, side := range edgeMedianSides {
			smooth, code := impl.SmoothCurve(curve, side)
			same(t, fmt.Sprint("SmoothCurve ", curve, side), "[] 1", smooth, code)
		}
	}
}

func TestLongestGap(t *testing.T) {
	for _, x := range []struct {
		curve []impl.Point
		want  string
	}{
		{exampleCurve(), "0 10000 0"},
		{points(5, 1, 9, 1), "5 9 0"},
		{points(0, 1, 1, 1), "0 1 0"},
		{points(0, 1, 10000000, 1), "0 10000000 0"},
		{points(0, 1, 4, 1, 9, 1), "4 9 0"},
		{points(0, 1, 5, 1, 9, 1), "0 5 0"},
		{points(1, 1, 3, 1, 6, 1, 9, 1), "3 6 0"}, // the first one of two
		{points(1, 1, 4, 1, 6, 1, 9, 1), "1 4 0"}, // and so with a shorter one between
		{points(1, 1, 2, 1, 3, 1, 4, 1), "1 2 0"}, // all of them
		{points(1, 1, 3, 1, 5, 1, 8, 1, 10, 1, 13, 1), "5 8 0"},
		{points(1, 1, 2, 1, 4, 1, 7, 1), "4 7 0"},
		{points(9999999, 1, 10000000, 1), "9999999 10000000 0"},
		{edgeCurve(), "2000000 9999999 0"},
		{nil, "0 0 3"},
		{[]impl.Point{}, "0 0 3"},
		{points(5, 9000), "0 0 3"},
		{points(10000000, 9000), "0 0 3"},
		{points(5, 1, 5, 1), "0 0 1"},
		{points(6, 1, 5, 1), "0 0 1"},
		{points(5, 20001), "0 0 1"},
		{points(-1, 1), "0 0 1"},
		{append(fullCurve(), points(10000000, 1)...), "0 0 1"},
	} {
		from, to, code := impl.LongestGap(x.curve)
		same(t, fmt.Sprint("LongestGap ", x), x.want, from, to, code)
	}
}

// gapWanted is a pair such that none is longer, and none before it as long.
func gapWanted(curve []impl.Point) string {
	for i := range len(curve) - 1 {
		from, to := curve[i].Time, curve[i+1].Time
		best := true
		for k := range len(curve) - 1 {
			gap := curve[k+1].Time - curve[k].Time
			if gap > to-from || gap == to-from && k < i {
				best = false
			}
		}
		if best {
			return fmt.Sprint(from, to, 0)
		}
	}
	return "0 0 3"
}

func TestMagAt(t *testing.T) {
	curve := points(10, 9000, 20, 9100, 30, 9500, 33, 9500, 35, -2000, 1000, 20000)
	for _, x := range []struct {
		time int64
		want string
	}{
		// At a point, the first and the last one among them, and beside them.
		{10, "9000 0"}, {20, "9100 0"}, {30, "9500 0"}, {33, "9500 0"}, {35, "-2000 0"}, {1000, "20000 0"},
		{9, "0 3"}, {0, "0 3"}, {1001, "0 3"}, {10000000, "0 3"},
		{11, "9010 0"}, {15, "9050 0"}, {19, "9090 0"}, {21, "9140 0"}, {29, "9460 0"}, {31, "9500 0"}, {32, "9500 0"},
		{34, "3750 0"}, {36, "-1977 0"}, {999, "19977 0"}, {517, "8989 0"}, {518, "9011 0"},
		{-1, "0 2"}, {10000001, "0 2"}, {math.MinInt64, "0 2"}, {math.MaxInt64, "0 2"},
	} {
		m, code := impl.MagAt(curve, x.time)
		same(t, fmt.Sprint("MagAt ", x.time), x.want, m, code)
	}
	for _, x := range []struct {
		curve []impl.Point
		time  int64
		want  string
	}{
		{exampleCurve(), 5000, "9050 0"}, {exampleCurve(), 30000, "0 3"},
		{points(0, -2000, 10000000, 20000), 1, "-2000 0"}, {points(0, -2000, 10000000, 20000), 227, "-2000 0"}, {points(0, -2000, 10000000, 20000), 228, "-1999 0"},
		{points(0, -2000, 10000000, 20000), 9999999, "20000 0"}, {points(0, 20000, 10000000, -2000), 9999999, "-2000 0"}, {points(0, 20000, 10000000, -2000), 5000000, "9000 0"},
		// A half is rounded up, for fainter and for brighter points, and below 0.
		{points(0, 0, 2, 1), 1, "1 0"}, {points(0, 1, 2, 0), 1, "1 0"}, {points(0, 0, 2, -1), 1, "0 0"}, {points(0, -1, 2, 0), 1, "0 0"},
		{points(0, -1, 2, -2), 1, "-1 0"}, {points(0, -2, 2, -1), 1, "-1 0"}, {points(0, 0, 3, 1), 1, "0 0"}, {points(0, 0, 3, 1), 2, "1 0"},
		{points(0, 0, 3, -1), 1, "0 0"}, {points(0, 0, 3, -1), 2, "-1 0"}, {points(0, 1, 4, 0), 2, "1 0"}, {points(0, 1, 4, 0), 3, "0 0"},
		{points(0, -7, 4, -7), 2, "-7 0"},
		{nil, 0, "0 3"}, {nil, 10000000, "0 3"}, {nil, -1, "0 2"}, {nil, 10000001, "0 2"},
		{points(5, -7), 5, "-7 0"}, {points(5, -7), 4, "0 3"}, {points(5, -7), 6, "0 3"}, {points(0, 0), 0, "0 0"}, {points(10000000, 3), 10000000, "3 0"},
		{points(5, 1, 5, 1), 5, "0 1"}, {points(5, 1, 5, 1), -1, "0 1"}, {points(5, 1, 5, 1), 9, "0 1"}, {points(-1, 1), -1, "0 1"}, {points(5, 20001), 5, "0 1"},
		{points(10000000, 1, 10000001, 1), 10000001, "0 1"},
	} {
		m, code := impl.MagAt(x.curve, x.time)
		same(t, fmt.Sprint("MagAt ", x), x.want, m, code)
	}
}

// magAtWanted is a point's own magnitude, or that on the straight line between two points.
func magAtWanted(curve []impl.Point, time int64) string {
	if !isTime(time) {
		return "0 2"
	}
	for i, p := range curve {
		if p.Time == time {
			return fmt.Sprint(p.Mag, 0)
		}
		if i > 0 && curve[i-1].Time < time && time < p.Time {
			before := curve[i-1]
			m := big.NewRat(p.Mag-before.Mag, p.Time-before.Time)
			m.Mul(m, big.NewRat(time-before.Time, 1))
			return fmt.Sprint(nearestOf(m.Add(m, big.NewRat(before.Mag, 1))), 0)
		}
	}
	return "0 3"
}

func TestMagAtForAllArguments(t *testing.T) {
	for _, curve := range goodCurves() {
		for _, time := range append(timesOf(curve), edgeTimes...) {
			checkCurve(t, fmt.Sprint("MagAt ", time), curve, magAtWanted(curve, time), func(curve []impl.Point) []any {
				m, code := impl.MagAt(curve, time)
				return []any{m, code}
			})
		}
	}
	for _, curve := range badCurves() {
		for _, time := range edgeTimes {
			m, code := impl.MagAt(curve, time)
			same(t, fmt.Sprint("MagAt ", curve, time), "0 1", m, code)
		}
	}
}

// TestMagsAreBetweenTheirs is the second half of promise 8: between two points no magnitude lies outside theirs, or turns back.
func TestMagsAreBetweenTheirs(t *testing.T) {
	for _, curve := range goodCurves() {
		for i := 1; i < len(curve); i++ {
			a, b := curve[i-1], curve[i]
			last := a.Mag
			for time := a.Time; time <= b.Time; time += max((b.Time-a.Time)/97, 1) {
				m, code := impl.MagAt(curve, time)
				inside := between(m, last, b.Mag) || between(m, b.Mag, last)
				if code != impl.OK || !inside {
					t.Fatalf("MagAt(%v, %d): got %d %d between %d and %d", curve, time, m, code, last, b.Mag)
				}
				last = m
			}
		}
	}
}

func TestOutliersOf(t *testing.T) {
	peak := []int64{100, 100, 100, 150, 100, 100, 100}
	for _, x := range []struct {
		mags     []int64
		side, by int64
		want     string
	}{
		{[]int64{9000, 9100, 9500}, 1, 150, "[2] 0"},
		{[]int64{9000, 9100, 9500}, 1, 199, "[2] 0"},
		{[]int64{9000, 9100, 9500}, 1, 200, "[] 0"},
		{[]int64{9000, 9100, 9500}, 1, 50, "[2] 0"},
		{[]int64{9000, 9100, 9500}, 1, 49, "[0 2] 0"},
		{[]int64{9000, 9100, 9500}, 2, 99, "[0 2] 0"},
		{[]int64{9000, 9100, 9500}, 2, 100, "[2] 0"},
		{[]int64{9000, 9100, 9500}, 0, 1, "[] 0"},
		// Just by, and one more, fainter and brighter.
		{peak, 1, 49, "[3] 0"}, {peak, 1, 50, "[] 0"}, {peak, 10, 49, "[3] 0"}, {peak, 10, 50, "[] 0"},
		{[]int64{100, 100, 50, 100, 100}, 1, 49, "[2] 0"}, {[]int64{100, 100, 50, 100, 100}, 1, 50, "[] 0"},
		{[]int64{-100, -100, -150, -100, -100}, 2, 49, "[2] 0"}, {[]int64{-100, -100, -150, -100, -100}, 2, 50, "[] 0"},
		{[]int64{-5, -5, 5, -5, -5}, 2, 9, "[2] 0"}, {[]int64{-5, -5, 5, -5, -5}, 2, 10, "[] 0"},
		{[]int64{0, 1}, 1, 1, "[] 0"}, {[]int64{0, 2}, 1, 1, "[] 0"}, {[]int64{0, 3}, 1, 1, "[0] 0"}, {[]int64{0, 4}, 1, 1, "[0 1] 0"}, // the median of 0 and 3 is 2
		{[]int64{-2000, 20000}, 10, 10999, "[0 1] 0"}, {[]int64{-2000, 20000}, 10, 11000, "[] 0"},
		{[]int64{-2000, -2000, 20000}, 2, 20000, "[2] 0"}, {[]int64{20000, 20000, -2000}, 10, 20000, "[2] 0"}, {[]int64{0, 0, 20000}, 2, 20000, "[] 0"},
		{[]int64{0, 100, 0, 100, 0}, 1, 99, "[1 2 3] 0"}, {[]int64{0, 100, 0, 100, 0}, 1, 49, "[0 1 2 3 4] 0"},
		{nil, 0, 1, "[] 0"}, {nil, 10, 20000, "[] 0"}, {[]int64{9000}, 10, 1, "[] 0"},
		// Errors, and their order.
		{peak, -1, 49, "[] 2"}, {peak, 11, 49, "[] 2"}, {peak, 1, 0, "[] 2"}, {peak, 1, -1, "[] 2"}, {peak, 1, 20001, "[] 2"}, {peak, -1, 0, "[] 2"}, {nil, 11, 1, "[] 2"}, {nil, 1, 0, "[] 2"},
		{peak, math.MaxInt64, 49, "[] 2"}, {peak, math.MinInt64, 49, "[] 2"}, {peak, 1, math.MaxInt64, "[] 2"}, {peak, 1, math.MinInt64, "[] 2"},
		{[]int64{20001}, 1, 49, "[] 1"}, {[]int64{20001}, -1, 49, "[] 1"}, {[]int64{20001}, 1, 0, "[] 1"}, {[]int64{9000, -2001}, 11, 20001, "[] 1"},
	} {
		outliers, code := impl.OutliersOf(curveOfMags(x.mags...), x.side, x.by)
		same(t, fmt.Sprint("OutliersOf ", x), x.want, outliers, code)
	}
}

func outliersWanted(curve []impl.Point, side, by int64) string {
	if !between(side, 0, 10) || !between(by, 1, 20000) {
		return "[] 2"
	}
	var outliers []int
	for i, median := range mediansWanted(curve, side) {
		if !between(curve[i].Mag, median-by, median+by) {
			outliers = append(outliers, i)
		}
	}
	return fmt.Sprint(outliers, 0)
}

func TestOutliersOfForAllArguments(t *testing.T) {
	for _, curve := range goodCurves() {
		for _, side := range edgeMedianSides {
			for _, by := range edgeBy {
				checkCurve(t, fmt.Sprint("OutliersOf ", side, by), curve, outliersWanted(curve, side, by), func(curve []impl.Point) []any {
					outliers, code := impl.OutliersOf(curve, side, by)
					return []any{outliers, code}
				})
			}
		}
	}
	for _, curve := range badCurves() {
		for _, side := range edgeMedianSides {
			one, oneCode := impl.OutliersOf(curve, side, 1)
			two, twoCode := impl.OutliersOf(curve, 1, side)
			same(t, fmt.Sprint("OutliersOf ", curve, side), "[] 1 [] 1", one, oneCode, two, twoCode)
		}
	}
}

// TestOutliersAtTheirLimit takes each distance of a point from its running median, and one less.
func TestOutliersAtTheirLimit(t *testing.T) {
	limits := 0
	for _, curve := range goodCurves() {
		for side := range int64(11) {
			for i, median := range mediansWanted(curve, side) {
				by := max(curve[i].Mag-median, median-curve[i].Mag)
				if !between(by, 2, 20000) {
					continue
				}
				without, one := impl.OutliersOf(curve, side, by)
				with, two := impl.OutliersOf(curve, side, by-1)
				if one != impl.OK || two != impl.OK || slices.Contains(without, int64(i)) || !slices.Contains(with, int64(i)) {
					t.Fatalf("OutliersOf(%v, %d, %d) of the point %d: got %v %d, then %v %d", curve, side, by, i, without, one, with, two)
				}
				limits++
			}
		}
	}
	if limits < 1000 {
		t.Errorf("only %d points differ", limits)
	}
}

func TestAmplitudeAndPath(t *testing.T) {
	for _, x := range []struct {
		mags []int64
		want string // the amplitude and the path, each with its code
	}{
		{[]int64{9000, 9100, 9500}, "500 0 500 0"},
		{[]int64{9500, 9100, 9000}, "500 0 500 0"},
		{[]int64{9000, 9500, 9100}, "500 0 900 0"},
		{[]int64{9100, 9000, 9500}, "500 0 600 0"},
		{[]int64{-5, 5, -5, 5}, "10 0 30 0"},
		{[]int64{-2000, 20000}, "22000 0 22000 0"},
		{[]int64{20000, -2000, 20000, -2000}, "22000 0 66000 0"},
		{[]int64{7, 7, 7}, "0 0 0 0"},
		{[]int64{-9, -4, -7}, "5 0 8 0"},
		{[]int64{9000}, "0 0 0 0"},
		{[]int64{-2000}, "0 0 0 0"},
		{nil, "0 3 0 0"},
		{[]int64{9000, 20001}, "0 1 0 1"},
		{[]int64{-2001, 9000}, "0 1 0 1"},
		{make([]int64, 100), "0 0 0 0"},
		{make([]int64, 101), "0 1 0 1"},
	} {
		amplitude, one := impl.AmplitudeOf(curveOfMags(x.mags...))
		path, two := impl.PathOf(curveOfMags(x.mags...))
		same(t, fmt.Sprint("amplitude and path ", x), x.want, amplitude, one, path, two)
	}
}

// TestLongestPath has the greatest path that there is.
func TestLongestPath(t *testing.T) {
	mags := make([]int64, 100)
	for i := range mags {
		mags[i] = -2000 + int64(i%2)*22000
	}
	path, code := impl.PathOf(curveOfMags(mags...))
	same(t, "PathOf", "2178000 0", path, code)
}

// amplitudeWanted is the greatest difference of any two points.
func amplitudeWanted(curve []impl.Point) string {
	if len(curve) == 0 {
		return "0 3"
	}
	var amplitude int64
	for _, a := range curve {
		for _, b := range curve {
			amplitude = max(amplitude, a.Mag-b.Mag)
		}
	}
	return fmt.Sprint(amplitude, 0)
}

func pathWanted(curve []impl.Point) string {
	var path int64
	for i := range curve {
		if i == 0 {
			continue
		}
		if curve[i].Mag > curve[i-1].Mag {
			path += curve[i].Mag - curve[i-1].Mag
		} else {
			path += curve[i-1].Mag - curve[i].Mag
		}
	}
	return fmt.Sprint(path, 0)
}

func TestSlopeOf(t *testing.T) {
	for _, x := range []struct {
		curve []impl.Point
		want  string
	}{
		{points(0, 9000, 10000, 9100), "{100 1} 0"},
		{exampleCurve(), "{250 1} 0"},
		{points(0, 9100, 10000, 9000), "{-100 1} 0"},
		{points(5, 9100, 10005, 9000), "{-100 1} 0"},
		{points(0, -1000, 10000, -1100), "{-100 1} 0"},
		{points(0, -50, 10000, 50), "{100 1} 0"},
		{points(0, 9000, 10000, 9000), "{0 1} 0"},
		{points(0, -5, 17, -5, 999, -5), "{0 1} 0"},
		{points(0, 0, 1, 7, 2, 0), "{0 1} 0"}, // up and down again
		{points(0, 0, 1, 1), "{10000 1} 0"},
		{points(0, 0, 3, 1), "{10000 3} 0"},
		{points(0, 1, 3, 0), "{-10000 3} 0"},
		{points(0, 0, 6, 2), "{10000 3} 0"}, // in lowest terms
		{points(0, 0, 20000, 1), "{1 2} 0"},
		{points(0, 0, 20000, 2), "{1 1} 0"},
		{points(0, 0, 30000, 2), "{2 3} 0"},
		{points(0, 3, 80000, 1), "{-1 4} 0"},
		{points(0, 0, 1, 0, 3, 1), "{25000 7} 0"},
		{points(0, 0, 1, 1, 3, 1), "{20000 7} 0"},
		{points(0, 0, 1, 2, 2, 1), "{5000 1} 0"},
		{points(100, 0, 101, 0, 103, 1), "{25000 7} 0"},
		{points(0, 0, 9999999, 1), "{10000 9999999} 0"},
		{points(0, 0, 10000000, 1), "{1 1000} 0"},
		{points(0, 0, 10000000, -3), "{-3 1000} 0"},
		{points(0, -2000, 10000000, 20000), "{22 1} 0"},
		{points(9999999, -2000, 10000000, 20000), "{220000000 1} 0"},
		{points(9999999, 20000, 10000000, -2000), "{-220000000 1} 0"},
		{nil, "{0 0} 3"},
		{[]impl.Point{}, "{0 0} 3"},
		{points(0, 0), "{0 0} 3"},
		{points(10000000, 9000), "{0 0} 3"},
		{points(5, 1, 5, 1), "{0 0} 1"},
		{points(5, 1, 5, 2), "{0 0} 1"},
		{points(6, 1, 5, 2), "{0 0} 1"},
		{points(5, 20001), "{0 0} 1"},
		{points(-1, 1), "{0 0} 1"},
		{append(fullCurve(), points(10000000, 1)...), "{0 0} 1"},
	} {
		slope, code := impl.SlopeOf(x.curve)
		same(t, fmt.Sprint("SlopeOf ", x), x.want, slope, code)
	}
}

// slopeWanted forms the sums of the distances from the mean time and the mean magnitude.
func slopeWanted(curve []impl.Point) string {
	if len(curve) < 2 {
		return "{0 0} 3"
	}
	time, mag := new(big.Rat), new(big.Rat)
	share := big.NewRat(1, int64(len(curve)))
	for _, p := range curve {
		time.Add(time, new(big.Rat).Mul(share, big.NewRat(p.Time, 1)))
		mag.Add(mag, new(big.Rat).Mul(share, big.NewRat(p.Mag, 1)))
	}
	rise, run := new(big.Rat), new(big.Rat)
	for _, p := range curve {
		t := new(big.Rat).Sub(big.NewRat(p.Time, 1), time)
		m := new(big.Rat).Sub(big.NewRat(p.Mag, 1), mag)
		rise.Add(rise, m.Mul(m, t))
		run.Add(run, t.Mul(t, t))
	}
	slope := rise.Quo(rise.Mul(rise, big.NewRat(10000, 1)), run)
	return fmt.Sprintf("{%v %v} 0", slope.Num(), slope.Denom())
}

// TestNumbersOfAllCurves holds the functions of a curve alone against what is wanted.
func TestNumbersOfAllCurves(t *testing.T) {
	numbersOf := func(curve []impl.Point) []any {
		from, to, one := impl.LongestGap(curve)
		amplitude, two := impl.AmplitudeOf(curve)
		path, three := impl.PathOf(curve)
		slope, four := impl.SlopeOf(curve)
		return []any{from, to, one, amplitude, two, path, three, slope, four}
	}
	curves := goodCurves()
	for seed := range uint64(1000) {
		curves = append(curves, diceCurve(1000+seed))
	}
	for _, curve := range curves {
		want := gapWanted(curve) + " " + amplitudeWanted(curve) + " " + pathWanted(curve) + " " + slopeWanted(curve)
		checkCurve(t, "numbers", curve, want, numbersOf)
	}
	for _, curve := range badCurves() {
		checkCurve(t, "numbers", curve, "0 0 1 0 1 0 1 {0 0} 1", numbersOf)
	}
}

// TestSlopeIsThatOfLeastSquares turns the line of the slope a little, and finds no lesser sum of squares.
func TestSlopeIsThatOfLeastSquares(t *testing.T) {
	squares := func(curve []impl.Point, slope *big.Rat) *big.Rat {
		rest, sum, least := make([]*big.Rat, len(curve)), new(big.Rat), new(big.Rat)
		for i, p := range curve {
			rest[i] = new(big.Rat).Mul(slope, big.NewRat(p.Time, 10000))
			rest[i].Sub(big.NewRat(p.Mag, 1), rest[i])
			sum.Add(sum, rest[i])
		}
		mean := sum.Mul(sum, big.NewRat(1, int64(len(curve))))
		for _, r := range rest {
			r.Sub(r, mean)
			least.Add(least, r.Mul(r, r))
		}
		return least
	}
	for _, curve := range goodCurves()[:60] {
		slope, code := impl.SlopeOf(curve)
		if code == impl.ErrNotFound {
			continue
		}
		best := big.NewRat(slope.Num, slope.Den)
		least := squares(curve, best)
		for _, turn := range []*big.Rat{big.NewRat(1, 1_000_000), big.NewRat(-1, 1_000_000), big.NewRat(1, 1), big.NewRat(-1, 1)} {
			if squares(curve, turn.Add(turn, best)).Cmp(least) <= 0 {
				t.Fatalf("SlopeOf(%v): got %v, but %v has no greater sum of squares", curve, slope, turn)
			}
		}
	}
}

// TestResultsOfCurvesAreNewSlices changes each result with its unused capacity, and asks again.
func TestResultsOfCurvesAreNewSlices(t *testing.T) {
	curve, list := exampleCurve(), exampleEstimates()
	for i, call := range []func() []impl.Point{
		func() []impl.Point { own, _ := impl.CurveOf(list, "mira"); return own },
		func() []impl.Point { bins, _ := impl.BinCurve(curve, 15000); return bins },
		func() []impl.Point { bins, _ := impl.BinCurve(curve, 1); return bins },
		func() []impl.Point { smooth, _ := impl.SmoothCurve(curve, 1); return smooth },
		func() []impl.Point { smooth, _ := impl.SmoothCurve(curve, 0); return smooth },
	} {
		first := call()
		want := fmt.Sprint(first)
		clear(first[:cap(first)])
		same(t, fmt.Sprint("call ", i), fmt.Sprint(want+" ", exampleCurve(), exampleEstimates()), call(), curve, list)
	}
	outliers, _ := impl.OutliersOf(curve, 1, 49)
	clear(outliers[:cap(outliers)])
	again, _ := impl.OutliersOf(curve, 1, 49)
	same(t, "OutliersOf", fmt.Sprint("[0 2] ", exampleCurve()), again, curve)
}

// TestCurvesForAllArguments is promise 1 for chapter 8: each call returns, and returns the same again.
func TestCurvesForAllArguments(t *testing.T) {
	lists := append(goodCurves()[:25], badCurves()...)
	all := append(goodEstimateLists()[:9], badEstimateLists()...)
	odd := numbers(-2001, -1, 0, 1, 10, 11, 20001, 1000001, 10000001)
	for i, curve := range lists {
		other, list := lists[i*31%len(lists)], all[i%len(all)]
		for k, n := range odd {
			by, star := odd[k*7%len(odd)], oddTexts[(i+k)%len(oddTexts)]
			keepEstimates(t, "curves", list, func(list []impl.Estimate) {
				keepPoints(t, "curves", curve, func(curve []impl.Point) {
					twice(t, "curves", func() []any {
						own, one := impl.CurveOf(list, star)
						named, two := impl.CurveOf(list, "m")
						bins, three := impl.BinCurve(curve, n)
						smooth, four := impl.SmoothCurve(curve, n)
						from, to, five := impl.LongestGap(curve)
						m, six := impl.MagAt(curve, n)
						outliers, seven := impl.OutliersOf(curve, n, by)
						amplitude, eight := impl.AmplitudeOf(curve)
						path, nine := impl.PathOf(curve)
						slope, ten := impl.SlopeOf(curve)
						return []any{impl.ValidCurve(curve), impl.SameCurve(curve, other), own, one, named, two, bins, three, smooth, four,
							from, to, five, m, six, outliers, seven, amplitude, eight, path, nine, slope, ten}
					})
				})
			})
		}
	}
}
