package tests

import (
	"fmt"
	"math"
	"math/big"
	"math/rand/v2"
	"slices"
	"testing"

	"loop.example/g01026/impl"
)

// edgeExtremumSides are numbers at and beside the limits of the sides of extrema.
var edgeExtremumSides = numbers(-10, -2, -1, 0, 1, 2, 3, 5, 9, 10, 11, 12, 49, 50)

// edgeKinds are numbers at and beside the kinds of extrema.
var edgeKinds = numbers(-2, -1, 0, 1, 2, 3, 4)

// edgeHeights are numbers at and beside the limits of how much extrema differ.
var edgeHeights = numbers(-20000, -2, -1, 0, 1, 2, 3, 49, 50, 51, 100, 300, 1000, 11000, 19999, 20000, 20001, 22000)

// extrema are extrema of a Kind and an Index each.
func extrema(numbers ...int64) []impl.Extremum {
	var list []impl.Extremum
	for two := range slices.Chunk(numbers, 2) {
		list = append(list, impl.Extremum{Kind: two[0], Index: two[1]})
	}
	return list
}

// bowl has count points, the middle one of which is the only brightest one.
func bowl(count int64) []impl.Point {
	var mags []int64
	for i := range count {
		mags = append(mags, 9000+10*max(i-count/2, count/2-i))
	}
	return curveOfMags(mags...)
}

func ratOf(n int64) *big.Rat { return big.NewRat(n, 1) }

func TestConstantsOfExtrema(t *testing.T) {
	same(t, "constants", "1 2 100000", impl.ExtremumMax, impl.ExtremumMin, impl.MaxNear)
}

// vertexOf returns the time and the magnitude of a vertex, each with its code.
func vertexOf(list []impl.Point) []any {
	time, one := impl.VertexTime(list[0], list[1], list[2])
	mag, two := impl.VertexMag(list[0], list[1], list[2])
	return []any{time, one, mag, two}
}

func TestVertices(t *testing.T) {
	for _, x := range []struct {
		three []impl.Point
		want  string
	}{
		{points(0, 9000, 100, 8900, 200, 9000), "{100 1} 0 8900 0"}, {points(0, 8900, 100, 9000, 200, 8900), "{100 1} 0 9000 0"}, {points(7, -3, 8, -5, 9, -3), "{8 1} 0 -5 0"},
		// Three points on a line, and just beside one.
		{points(0, 5, 100, 5, 200, 5), "{0 0} 6 0 6"}, {points(0, 9000, 100, 8900, 200, 8800), "{0 0} 6 0 6"}, {points(0, 9000, 100, 9100, 200, 9200), "{0 0} 6 0 6"}, {points(0, 0, 1, 3, 7, 21), "{0 0} 6 0 6"}, {points(0, 21, 6, 3, 7, 0), "{0 0} 6 0 6"}, {points(0, -2000, 1, -1999, 22000, 20000), "{0 0} 6 0 6"},
		{points(0, 0, 1, 3, 7, 22), "{-125 2} 0 -93 0"}, {points(0, 0, 1, 3, 7, 20), "{127 2} 0 96 0"},
		// Vertices before the three points, at each of them, between them and behind them, upright and upside down.
		{points(10, 1, 20, 4, 30, 9), "{0 1} 0 0 0"}, {points(11, 100, 12, 121, 13, 144), "{1 1} 0 0 0"}, {points(11, 900, 12, 879, 13, 856), "{1 1} 0 1000 0"}, {points(3, 7, 4, 8, 5, 11), "{3 1} 0 7 0"}, {points(3, 11, 4, 8, 5, 7), "{5 1} 0 7 0"},
		{points(3, 7, 4, 6, 5, 3), "{3 1} 0 7 0"}, {points(3, 3, 4, 6, 5, 7), "{5 1} 0 7 0"}, {points(0, 400, 1, 361, 2, 324), "{20 1} 0 0 0"}, {points(0, 600, 1, 639, 2, 676), "{20 1} 0 1000 0"}, {points(9999997, 5, 9999999, 1, 10000000, 0), "{10000001 1} 0 0 0"},
		{points(0, 0, 1, 1, 2, 1), "{3 2} 0 1 0"}, {points(0, 1, 1, 1, 2, 0), "{1 2} 0 1 0"}, {points(0, 0, 3, 9, 10, 100), "{0 1} 0 0 0"}, {points(0, 100, 7, 9, 10, 0), "{10 1} 0 0 0"}, {points(2, 25, 3, 16, 9, 4), "{7 1} 0 0 0"}, {points(2, 25, 8, 1, 9, 4), "{7 1} 0 0 0"},
		// Vertices at times below 0, and behind MaxTime.
		{points(0, 100, 1, 121, 2, 144), "{-10 1} 0 0 0"}, {points(0, 900, 1, 879, 2, 856), "{-10 1} 0 1000 0"}, {points(0, 0, 1, 1, 2, 3), "{-1 2} 0 0 0"}, {points(0, 0, 1, 2, 3, 7), "{-11 2} 0 -5 0"}, {points(9999998, 144, 9999999, 121, 10000000, 100), "{10000010 1} 0 0 0"}, {points(9999998, 3, 9999999, 1, 10000000, 0), "{20000001 2} 0 0 0"},
		// Magnitudes just between two integers, and beside that.
		{points(0, 0, 1, 0, 2, 4), "{1 2} 0 0 0"}, {points(0, 0, 1, 0, 2, -4), "{1 2} 0 1 0"}, {points(0, 0, 1, 0, 2, 3), "{1 2} 0 0 0"}, {points(0, 0, 1, 0, 2, -3), "{1 2} 0 0 0"}, {points(0, 0, 1, 0, 2, 5), "{1 2} 0 -1 0"}, {points(0, 0, 1, 0, 2, -5), "{1 2} 0 1 0"},
		{points(0, 9001, 1, 9001, 2, 9005), "{1 2} 0 9001 0"}, {points(0, 9001, 1, 9001, 2, 8997), "{1 2} 0 9002 0"}, {points(0, -7, 1, -7, 2, -3), "{1 2} 0 -7 0"}, {points(0, -7, 1, -7, 2, -11), "{1 2} 0 -6 0"}, {points(0, 0, 10, 0, 20, 12), "{5 1} 0 -1 0"}, {points(0, 0, 10, 0, 20, -12), "{5 1} 0 2 0"},
		// Magnitudes that just are one, and just are none.
		{points(0, 20000, 1, 20000, 2, 19997), "{1 2} 0 20000 0"}, {points(0, 20000, 1, 20000, 2, 19996), "{1 2} 0 0 5"}, {points(0, -2000, 1, -2000, 2, -1996), "{1 2} 0 -2000 0"}, {points(0, -2000, 1, -2000, 2, -1995), "{1 2} 0 0 5"}, {points(0, -2000, 1, -2000, 2, -1997), "{1 2} 0 -2000 0"},
		{points(0, 20000, 1, 19999, 2, 20000), "{1 1} 0 19999 0"}, {points(0, 19999, 1, 20000, 2, 19999), "{1 1} 0 20000 0"}, {points(0, -1999, 1, -2000, 2, -1999), "{1 1} 0 -2000 0"}, {points(0, -1900, 1, -1979, 2, -2000), "{54 29} 0 0 5"},
		// Magnitudes far beyond the range.
		{points(0, -2000, 50000, 9000, 100000, 19999), "{550025000 1} 0 0 5"}, {points(0, 20000, 50000, 9000, 100000, -1999), "{550025000 1} 0 0 5"}, {points(0, -2000, 1, 20000, 100000, 20000), "{100001 2} 0 0 5"}, {points(0, 20000, 1, -2000, 100000, -2000), "{100001 2} 0 0 5"},
		// Times that differ by just MaxNear, and by more.
		{points(0, 9000, 50000, 8900, 100000, 9000), "{50000 1} 0 8900 0"}, {points(0, 9000, 50000, 8900, 100001, 9000), "{0 0} 2 0 2"}, {points(9900000, 9000, 9950000, 8900, 10000000, 9000), "{9950000 1} 0 8900 0"}, {points(9899999, 9000, 9950000, 8900, 10000000, 9000), "{0 0} 2 0 2"},
		{points(0, 0, 1, 1, 100000, 0), "{50000 1} 0 0 5"}, {points(0, 0, 2, 1, 100000, 0), "{50000 1} 0 12500 0"}, {points(0, 0, 99998, 1, 100000, 0), "{50000 1} 0 12500 0"}, {points(0, 12000, 99998, 11999, 100000, 12000), "{50000 1} 0 -500 0"}, {points(0, 9000, 1, 9000, 100001, 9000), "{0 0} 2 0 2"}, {points(0, 1, 5000000, 1, 10000000, 1), "{0 0} 2 0 2"},
		// Points that are no light curve: out of order, at equal times, and with fields beside their ranges; also farther apart than MaxNear, and on a line.
		{points(100, 8900, 0, 9000, 200, 9000), "{0 0} 1 0 1"}, {points(0, 9000, 200, 9000, 100, 8900), "{0 0} 1 0 1"}, {points(200, 9000, 100, 8900, 0, 9000), "{0 0} 1 0 1"}, {points(0, 9000, 0, 8900, 200, 9000), "{0 0} 1 0 1"}, {points(0, 9000, 200, 8900, 200, 9000), "{0 0} 1 0 1"},
		{points(0, 9000, 100, 8900, 0, 9000), "{0 0} 1 0 1"}, {points(0, 1, 0, 1, 0, 1), "{0 0} 1 0 1"}, {points(-1, 9000, 100, 8900, 200, 9000), "{0 0} 1 0 1"}, {points(0, 9000, 100, 8900, 10000001, 9000), "{0 0} 1 0 1"}, {points(0, 9000, 1, 20001, 2, 9000), "{0 0} 1 0 1"}, {points(0, -2001, 1, 0, 2, 9000), "{0 0} 1 0 1"},
		{points(0, 9000, 1, 0, 2, 20001), "{0 0} 1 0 1"}, {points(0, 20001, 1, 20001, 200000, 20001), "{0 0} 1 0 1"}, {points(0, 1, 200000, 1, 200000, 1), "{0 0} 1 0 1"}, {points(200000, 1, 1, 1, 0, 1), "{0 0} 1 0 1"}, {points(math.MinInt64, 0, 0, 5, math.MaxInt64, 0), "{0 0} 1 0 1"}, {points(0, math.MinInt64, 1, math.MaxInt64, 2, math.MinInt64), "{0 0} 1 0 1"},
	} {
		same(t, fmt.Sprint("vertex ", x.three), x.want, vertexOf(x.three)...)
	}
}

// isCurve walks along the points.
func isCurve(curve []impl.Point) bool {
	for i, p := range curve {
		if !isPoint(p) || i > 0 && curve[i-1].Time >= p.Time {
			return false
		}
	}
	return len(curve) <= 100
}

// vertexWanted finds f, p and q by divided differences, at the times as they are.
func vertexWanted(list []impl.Point) string {
	a, b, c := list[0], list[1], list[2]
	switch {
	case !isCurve(list):
		return "{0 0} 1 0 1"
	case c.Time-a.Time > 100_000:
		return "{0 0} 2 0 2"
	}
	first, second := big.NewRat(b.Mag-a.Mag, b.Time-a.Time), big.NewRat(c.Mag-b.Mag, c.Time-b.Time)
	q := new(big.Rat).Sub(second, first)
	q.Quo(q, ratOf(c.Time-a.Time))
	if q.Sign() == 0 {
		return "{0 0} 6 0 6"
	}
	p := new(big.Rat).Sub(first, new(big.Rat).Mul(q, ratOf(a.Time+b.Time)))
	time := new(big.Rat).Quo(p, new(big.Rat).Mul(q, ratOf(-2)))
	// At the time t, the magnitude differs from that of a by (t - a.Time) * (p + q * (t + a.Time)).
	mag := new(big.Rat).Add(time, ratOf(a.Time))
	mag.Mul(mag, q).Add(mag, p).Mul(mag, new(big.Rat).Sub(time, ratOf(a.Time))).Add(mag, ratOf(a.Mag))
	if near := nearestOf(mag); isMag(near) {
		return fmt.Sprint(fractionText(time), " ", near, " 0")
	}
	return fractionText(time) + " 0 5"
}

// threesByChance are points of all distances and heights, the same ones in every run.
func threesByChance(seed uint64, count int) [][]impl.Point {
	r := rand.New(rand.NewPCG(12, seed))
	pick := func(list ...int64) int64 { return list[r.IntN(len(list))] }
	var list [][]impl.Point
	for range count {
		wide, high := pick(1, 2, 9, 300, 49_999, 50_000), pick(1, 2, 5, 300, 11000, 22001)
		low, time := pick(-2000, 0, 9000, 20001-high), pick(0, 1, 17, 5_000_000, 9_900_000)
		var three []impl.Point
		for range 3 {
			three = append(three, impl.Point{Time: time, Mag: min(low+r.Int64N(high), 20000)})
			time += 1 + r.Int64N(wide)
		}
		list = append(list, three)
	}
	return list
}

func TestVerticesForAllArguments(t *testing.T) {
	check := func(list []impl.Point) string {
		want := vertexWanted(list)
		same(t, fmt.Sprint("vertex ", list), want, twice(t, "vertex", func() []any { return vertexOf(list) })...)
		return want[len(want)-1:]
	}
	codes := map[string]int{}
	for _, three := range threesByChance(1, 20000) {
		codes[check(three)]++
	}
	if codes["0"] < 1000 || codes["5"] < 1000 || codes["6"] < 100 {
		t.Errorf("only few vertices of a kind: %v", codes)
	}
	// All small parabolas.
	for i := range 9 * 9 * 9 * 4 * 4 {
		mags, gaps := i/16, i%16
		first, second := int64(1+gaps/4), int64(1+gaps%4)
		check(points(3, int64(mags/81-4), 3+first, int64(mags/9%9-4), 3+first+second, int64(mags%9-4)))
	}
	// The greatest distances and heights.
	for _, gap := range []int64{1, 2, 3, 49_999, 50_000, 50_001, 99_997, 99_998, 99_999, 100_000} {
		for _, all := range []int64{99_999, 100_000, 100_001} {
			for i := range 7 * 7 * 7 {
				heights := []int64{-2000, -1999, 8999, 9000, 9001, 19999, 20000}
				check(points(0, heights[i/49], gap, heights[i/7%7], all, heights[i%7]))
				check(points(10_000_000-all, heights[i/49], 10_000_000-gap, heights[i/7%7], 10_000_000, heights[i%7]))
			}
		}
	}
	for i, time := range edgeTimes {
		for k, mag := range edgeMags {
			three := points(0, 9000, 100, 8900, 200, 9000)
			three[(i+k)%3] = impl.Point{Time: time, Mag: mag}
			check(three)
		}
	}
}

// TestVerticesAreShiftedWithTheTimes is the first half of promise 12.
func TestVerticesAreShiftedWithTheTimes(t *testing.T) {
	found := 0
	for i, three := range threesByChance(2, 3000) {
		time, one := impl.VertexTime(three[0], three[1], three[2])
		mag, two := impl.VertexMag(three[0], three[1], three[2])
		for _, by := range []int64{1, 17, 9999, int64(i), 10_000_000 - three[2].Time, -three[0].Time} {
			moved := slices.Clone(three)
			for k := range moved {
				moved[k].Time += by
			}
			if !isCurve(moved) {
				continue
			}
			want := "{0 0} 6"
			if one == impl.OK {
				want = fractionText(new(big.Rat).Add(big.NewRat(time.Num, time.Den), ratOf(by)))
				found++
			}
			same(t, fmt.Sprint("vertex ", moved), fmt.Sprint(want, " ", mag, " ", two), vertexOf(moved)...)
		}
	}
	if found < 5000 {
		t.Errorf("only %d vertices", found)
	}
}

func TestExtremaOf(t *testing.T) {
	example := points(0, 9200, 100, 9000, 200, 9200, 300, 9500, 400, 9300, 500, 9100, 600, 9100, 700, 9150)
	for _, x := range []struct {
		curve []impl.Point
		side  int64
		want  string
	}{
		{example, 1, "[{1 1} {2 3} {1 5}] 0"}, {example, 2, "[{2 3} {1 5}] 0"}, {example, 3, "[{2 3}] 0"}, {example, 4, "[] 0"},
		{curveOfMags(2, 1, 2), 1, "[{1 1}] 0"}, {curveOfMags(1, 2, 1), 1, "[{2 1}] 0"}, {curveOfMags(1, 2, 3), 1, "[] 0"}, {curveOfMags(3, 2, 1), 1, "[] 0"}, {curveOfMags(-1, -2, -1), 1, "[{1 1}] 0"}, {curveOfMags(20000, -2000, 20000), 1, "[{1 1}] 0"},
		// Equal magnitudes behind a point, before it, on both sides, and several of them.
		{curveOfMags(2, 1, 1), 1, "[{1 1}] 0"}, {curveOfMags(1, 2, 2), 1, "[{2 1}] 0"}, {curveOfMags(1, 1, 2), 1, "[] 0"}, {curveOfMags(1, 1, 0), 1, "[] 0"}, {curveOfMags(1, 1, 1), 1, "[] 0"}, {curveOfMags(2, 1, 1, 2), 1, "[{1 1}] 0"}, {curveOfMags(1, 2, 2, 1), 1, "[{2 1}] 0"},
		{curveOfMags(2, 1, 1, 1, 2), 1, "[{1 1}] 0"}, {curveOfMags(1, 2, 2, 2, 1), 1, "[{2 1}] 0"}, {curveOfMags(3, 2, 2, 1), 1, "[{1 1}] 0"}, {curveOfMags(1, 2, 2, 3), 1, "[{2 1}] 0"}, {curveOfMags(2, 2, 1, 1, 2, 2, 1, 1), 1, "[{1 2} {2 4} {1 6}] 0"},
		// The same with two points on each side.
		{curveOfMags(3, 2, 1, 2, 3), 2, "[{1 2}] 0"}, {curveOfMags(3, 2, 1, 1, 3), 2, "[{1 2}] 0"}, {curveOfMags(3, 2, 1, 1, 1), 2, "[{1 2}] 0"}, {curveOfMags(3, 2, 1, 2, 1), 2, "[{1 2}] 0"}, {curveOfMags(3, 2, 1, 1, 0), 2, "[] 0"}, {curveOfMags(3, 2, 1, 0, 2), 2, "[] 0"},
		{curveOfMags(3, 1, 1, 2, 3), 2, "[] 0"}, {curveOfMags(1, 2, 1, 2, 3), 2, "[] 0"}, {curveOfMags(0, 2, 1, 2, 3), 2, "[] 0"}, {curveOfMags(3, 0, 1, 2, 3), 2, "[] 0"}, {curveOfMags(2, 3, 1, 2, 3), 2, "[{1 2}] 0"}, {curveOfMags(2, 2, 1, 2, 2), 2, "[{1 2}] 0"}, {curveOfMags(3, 2, 1, 5, 4), 2, "[{1 2}] 0"},
		{curveOfMags(1, 2, 3, 2, 1), 2, "[{2 2}] 0"}, {curveOfMags(1, 2, 3, 3, 1), 2, "[{2 2}] 0"}, {curveOfMags(1, 2, 3, 2, 3), 2, "[{2 2}] 0"}, {curveOfMags(1, 2, 3, 3, 4), 2, "[] 0"}, {curveOfMags(1, 3, 3, 2, 1), 2, "[] 0"}, {curveOfMags(3, 2, 3, 2, 1), 2, "[] 0"}, {curveOfMags(4, 2, 3, 2, 1), 2, "[] 0"}, {curveOfMags(2, 1, 3, 1, 2), 2, "[{2 2}] 0"},
		{curveOfMags(4, 3, 2, 1, 1, 1, 2, 3, 3, 3, 2, 1), 2, "[{1 3} {2 7}] 0"}, {curveOfMags(4, 2, 1, 0, 2, 2, 3), 2, "[{1 3}] 0"},
		// Extrema of the same kind that follow one another.
		{curveOfMags(1, 3, 3, 5, 4), 1, "[{2 1} {2 3}] 0"}, {curveOfMags(5, 3, 3, 1, 2), 1, "[{1 1} {1 3}] 0"}, {curveOfMags(1, 2, 2, 3, 3, 4, 4), 1, "[{2 1} {2 3} {2 5}] 0"},
		// Each point but the first and the last one.
		{curveOfMags(1, 2, 1, 2, 1, 2), 1, "[{2 1} {1 2} {2 3} {1 4}] 0"}, {curveOfMags(1, 2, 1, 2, 1, 2), 2, "[] 0"},
		// Just as many points as are needed, and one less; the least and the greatest side.
		{curveOfMags(2, 1), 1, "[] 0"}, {curveOfMags(2), 1, "[] 0"}, {nil, 1, "[] 0"}, {[]impl.Point{}, 10, "[] 0"}, {curveOfMags(3, 2, 1, 2), 2, "[] 0"}, {bowl(21), 10, "[{1 10}] 0"}, {bowl(21)[1:], 10, "[] 0"}, {bowl(21)[:20], 10, "[] 0"}, {bowl(21), 9, "[{1 10}] 0"}, {bowl(21), 1, "[{1 10}] 0"},
		{upsideDown(bowl(21)), 10, "[{2 10}] 0"}, {upsideDown(bowl(21))[1:], 10, "[] 0"}, {bowl(23), 10, "[{1 11}] 0"}, {bowl(100), 10, "[{1 50}] 0"}, {bowl(19), 9, "[{1 9}] 0"}, {bowl(18), 9, "[] 0"}, {evenCurve(100, 9000), 1, "[] 0"}, {evenCurve(100, 9000), 10, "[] 0"},
		// Errors, and their order.
		{example, 0, "[] 2"}, {example, -1, "[] 2"}, {example, 11, "[] 2"}, {bowl(100), 11, "[] 2"}, {example, math.MinInt64, "[] 2"}, {example, math.MaxInt64, "[] 2"}, {nil, 0, "[] 2"}, {nil, 11, "[] 2"},
		{points(5, 1, 5, 1, 6, 1), 1, "[] 1"}, {points(6, 1, 5, 2, 7, 1), 0, "[] 1"}, {points(0, 1, 1, 20001, 2, 1), 1, "[] 1"}, {points(-1, 1, 1, 2, 2, 1), 11, "[] 1"}, {evenCurve(101, 9000), 1, "[] 1"}, {evenCurve(101, 9000), math.MaxInt64, "[] 1"}, {points(math.MinInt64, 1), math.MinInt64, "[] 1"},
	} {
		checkCurve(t, fmt.Sprint("ExtremaOf ", x.side), x.curve, x.want, func(curve []impl.Point) []any {
			list, code := impl.ExtremaOf(curve, x.side)
			return []any{list, code}
		})
	}
}

// stepsOf are the signs of the differences of some points from a magnitude.
func stepsOf(mag int64, list []impl.Point) []int64 {
	var steps []int64
	for _, p := range list {
		steps = append(steps, max(-1, min(1, p.Mag-mag)))
	}
	return steps
}

// extremaWanted holds each point against both lists of signs; it is for good curves and sides.
func extremaWanted(curve []impl.Point, side int64) []impl.Extremum {
	list := []impl.Extremum{}
	for i, p := range curve {
		at := int64(i)
		if at < side || at+side >= int64(len(curve)) {
			continue
		}
		before, behind := stepsOf(p.Mag, curve[at-side:at]), stepsOf(p.Mag, curve[at+1:at+1+side])
		if slices.Min(before) == 1 && slices.Min(behind) >= 0 {
			list = append(list, impl.Extremum{Kind: 1, Index: at})
		}
		if slices.Max(before) == -1 && slices.Max(behind) <= 0 {
			list = append(list, impl.Extremum{Kind: 2, Index: at})
		}
	}
	return list
}

// wavesByChance are curves with many extrema and many equal magnitudes, the same ones in every run.
func wavesByChance() [][]impl.Point {
	r := rand.New(rand.NewPCG(12, 3))
	var list [][]impl.Point
	for i := range 120 {
		slow, time, mag := 1+r.Int64N(8), r.Int64N(100), 8000+r.Int64N(2000)
		var curve []impl.Point
		for k := range r.Int64N(101) {
			curve = append(curve, impl.Point{Time: time, Mag: mag})
			time += 1 + r.Int64N(2000)
			rises := int64(1)
			if k/slow%2 == 1 {
				rises = -1
			}
			mag += (rises*10 + r.Int64N(3) - 1) / (1 + int64(i)%12)
		}
		list = append(list, curve)
	}
	return list
}

// extremumCurves are good curves with and without extrema.
func extremumCurves() [][]impl.Point {
	return slices.Concat(goodCurves(), wavesByChance(), [][]impl.Point{foldedCurve(), bowl(20), bowl(21), bowl(100), upsideDown(bowl(21)), zigzag(3), zigzag(100), evenCurve(100, 20000), evenCurve(21, -2000)})
}

// cyclesOf returns what the functions of a curve, a side and a kind return: the extrema, the rises and the mean cycle.
func cyclesOf(curve []impl.Point, side, kind int64) []any {
	list, one := impl.ExtremaOf(curve, side)
	rises, two := impl.RiseTimes(curve, side)
	cycle, three := impl.MeanCycle(curve, side, kind)
	return []any{list, one, rises, two, cycle, three}
}

// cyclesWanted is for good curves.
func cyclesWanted(curve []impl.Point, side, kind int64) string {
	if !between(side, 1, 10) {
		return "[] 2 [] 2 {0 0} 2"
	}
	list, rises := extremaWanted(curve, side), []int64{}
	var own []int64 // the times of this kind
	for i, x := range list {
		if x.Kind == 2 && i < len(list)-1 && list[i+1].Kind == 1 {
			rises = append(rises, curve[list[i+1].Index].Time-curve[x.Index].Time)
		}
		if x.Kind == kind {
			own = append(own, curve[x.Index].Time)
		}
	}
	cycle := "{0 0} 3"
	if !between(kind, 1, 2) {
		cycle = "{0 0} 2"
	} else if len(own) > 1 {
		cycle = fractionText(big.NewRat(own[len(own)-1]-own[0], int64(len(own)-1)))
	}
	return fmt.Sprint(list, " 0 ", rises, " 0 ", cycle)
}

func TestRisesAndCycles(t *testing.T) {
	example := points(0, 9200, 100, 9000, 200, 9200, 300, 9500, 400, 9300, 500, 9100, 600, 9100, 700, 9150)
	waves := points(0, 1, 10, 2, 13, 1, 20, 2, 41, 0, 50, 3, 60, 1)
	for _, x := range []struct {
		curve      []impl.Point
		side, kind int64
		want       string // the rises and the mean cycle, each with its code
	}{
		{example, 1, 1, "[200] 0 {400 1} 0"}, {example, 1, 2, "[200] 0 {0 0} 3"}, {example, 2, 1, "[200] 0 {0 0} 3"}, {example, 3, 2, "[] 0 {0 0} 3"}, {example, 4, 1, "[] 0 {0 0} 3"},
		// Minima followed by a maximum, and by nothing; kinds with two extrema and more.
		{waves, 1, 1, "[3 21] 0 {28 1} 0"}, {waves, 1, 2, "[3 21] 0 {20 1} 0"}, {waves[:6], 1, 2, "[3 21] 0 {10 1} 0"}, {waves[:5], 1, 2, "[3] 0 {10 1} 0"}, {waves[:5], 1, 1, "[3] 0 {0 0} 3"}, {waves[:4], 1, 1, "[3] 0 {0 0} 3"}, {waves[:3], 1, 2, "[] 0 {0 0} 3"}, {waves[:3], 1, 1, "[] 0 {0 0} 3"}, {waves[1:], 1, 1, "[21] 0 {28 1} 0"},
		{waves[2:], 1, 2, "[21] 0 {30 1} 0"}, {points(0, 1, 3, 5, 4, 1, 8, 5, 9, 1, 10, 5, 11, 1), 1, 2, "[1 1] 0 {7 2} 0"}, {points(0, 5, 3, 1, 4, 5, 8, 1, 9, 5, 10, 1, 11, 5), 1, 1, "[4 1] 0 {7 2} 0"}, {curveOfMags(1, 5, 1, 5, 1, 5, 1, 5, 1), 1, 2, "[1 1 1] 0 {2 1} 0"}, {points(0, 1, 3, 5, 4, 1, 8, 5, 9, 1, 10, 5, 12, 1, 14, 5, 15, 1), 1, 2, "[1 1 2] 0 {11 3} 0"},
		// Minima followed by a minimum, and maxima by a maximum.
		{curveOfMags(1, 3, 3, 5, 4), 1, 2, "[] 0 {2 1} 0"}, {curveOfMags(1, 3, 3, 5, 4, 6), 1, 2, "[1] 0 {2 1} 0"}, {points(0, 1, 7, 3, 8, 3, 20, 5, 35, 4, 99, 6), 1, 2, "[15] 0 {13 1} 0"}, {points(0, 9, 7, 8, 8, 8, 20, 5, 35, 6), 1, 1, "[] 0 {13 1} 0"}, {points(0, 7, 1, 9, 7, 8, 9, 8, 20, 5, 35, 6), 1, 1, "[6] 0 {13 1} 0"},
		// No points, few of them, and no extrema.
		{nil, 1, 1, "[] 0 {0 0} 3"}, {[]impl.Point{}, 10, 2, "[] 0 {0 0} 3"}, {points(5, 1), 1, 1, "[] 0 {0 0} 3"}, {points(5, 1, 6, 2), 1, 2, "[] 0 {0 0} 3"}, {evenCurve(100, 5), 1, 1, "[] 0 {0 0} 3"}, {bowl(21), 10, 1, "[] 0 {0 0} 3"}, {bowl(21), 10, 2, "[] 0 {0 0} 3"},
		{zigzag(100), 1, 1, fmt.Sprint(slices.Repeat([]int64{1}, 49), " 0 {2 1} 0")}, {zigzag(100), 2, 1, "[] 0 {0 0} 3"}, {points(0, 1, 4999999, 0, 5000000, 9, 9999999, 0, 10000000, 1), 1, 1, "[4999999] 0 {5000000 1} 0"},
		// Errors, and their order.
		{example, 1, 0, "[200] 0 {0 0} 2"}, {example, 1, 3, "[200] 0 {0 0} 2"}, {example, 1, -1, "[200] 0 {0 0} 2"}, {example, 1, math.MinInt64, "[200] 0 {0 0} 2"}, {example, 1, math.MaxInt64, "[200] 0 {0 0} 2"}, {nil, 1, 3, "[] 0 {0 0} 2"},
		{example, 0, 1, "[] 2 {0 0} 2"}, {example, 11, 1, "[] 2 {0 0} 2"}, {example, -1, 0, "[] 2 {0 0} 2"}, {nil, 0, 3, "[] 2 {0 0} 2"}, {example, math.MinInt64, 1, "[] 2 {0 0} 2"}, {example, math.MaxInt64, 2, "[] 2 {0 0} 2"},
		{points(5, 1, 5, 1, 6, 1), 1, 1, "[] 1 {0 0} 1"}, {points(5, 20001), 0, 1, "[] 1 {0 0} 1"}, {points(-1, 1), 1, 0, "[] 1 {0 0} 1"}, {evenCurve(101, 5), 11, 3, "[] 1 {0 0} 1"},
	} {
		checkCurve(t, fmt.Sprint("rises and cycles ", x.side, x.kind), x.curve, x.want, func(curve []impl.Point) []any {
			return cyclesOf(curve, x.side, x.kind)[2:]
		})
	}
}

func TestExtremaAndCyclesForAllArguments(t *testing.T) {
	equal := 0
	for _, curve := range extremumCurves() {
		for i, side := range edgeExtremumSides {
			for k, kind := range edgeKinds {
				if between(kind, 1, 2) || (i+k)%3 == 0 {
					checkCurve(t, fmt.Sprint("extrema ", side, kind), curve, cyclesWanted(curve, side, kind), func(curve []impl.Point) []any { return cyclesOf(curve, side, kind) })
				}
			}
			list, _ := impl.ExtremaOf(curve, side)
			for _, x := range list {
				if curve[x.Index].Mag == curve[x.Index+1].Mag {
					equal++
				}
			}
		}
	}
	if equal < 300 {
		t.Errorf("only %d extrema before an equal magnitude", equal)
	}
	for _, curve := range badCurves() {
		for i, side := range edgeExtremumSides {
			kind := edgeKinds[i%len(edgeKinds)]
			checkCurve(t, fmt.Sprint("extrema ", side, kind), curve, "[] 1 [] 1 {0 0} 1", func(curve []impl.Point) []any { return cyclesOf(curve, side, kind) })
		}
	}
	// All curves of five points with four magnitudes.
	for i := range 4 * 4 * 4 * 4 * 4 {
		n := int64(i)
		curve := curveOfMags(n/256, n/64%4, n/16%4, n/4%4, n%4)
		for side := int64(1); side <= 3; side++ {
			same(t, fmt.Sprint("extrema ", curve, side), cyclesWanted(curve, side, 1), cyclesOf(curve, side, 1)...)
		}
	}
}

// keepExtrema is keep for extrema and their curve.
func keepExtrema(t *testing.T, name string, curve []impl.Point, list []impl.Extremum, f func(curve []impl.Point, list []impl.Extremum)) {
	t.Helper()
	keepPoints(t, name, curve, func(curve []impl.Point) {
		t.Helper()
		keep(t, name, list, impl.Extremum{Kind: spare, Index: spare}, func(list []impl.Extremum) {
			t.Helper()
			f(curve, list)
		})
	})
}

// checkDeep checks DeepEnough, which may change neither the curve nor the list.
func checkDeep(t *testing.T, curve []impl.Point, list []impl.Extremum, by int64, want string) {
	t.Helper()
	name := fmt.Sprint("DeepEnough ", curve, list, by)
	keepExtrema(t, name, curve, list, func(curve []impl.Point, list []impl.Extremum) {
		t.Helper()
		same(t, name, want, twice(t, name, func() []any {
			deep, code := impl.DeepEnough(curve, list, by)
			return []any{deep, code}
		})...)
	})
}

func TestDeepEnough(t *testing.T) {
	curve := points(0, 9200, 100, 9000, 200, 9200, 300, 9500, 400, 9300, 500, 9100, 600, 9100, 700, 9150)
	own, deep := extrema(1, 1, 2, 3, 1, 5), zigzag(3)
	for _, x := range []struct {
		curve []impl.Point
		list  []impl.Extremum
		by    int64
		want  string
	}{
		{curve, own, 450, "[{1 1}] 0"}, {curve, own, 400, "[{1 1} {2 3} {1 5}] 0"}, {curve, own, 401, "[{1 1}] 0"}, {curve, own, 500, "[{1 1}] 0"}, {curve, own, 501, "[] 0"}, {curve, own, 0, "[{1 1} {2 3} {1 5}] 0"}, {curve, own, 20000, "[] 0"},
		// An element that differs enough from one of both only, on each side, and an element that is not looked at again when its neighbour is left out.
		{curve, extrema(1, 1, 2, 2, 1, 5), 150, "[{1 1}] 0"}, {curve, extrema(1, 1, 2, 2, 1, 5), 100, "[{1 1} {2 2} {1 5}] 0"}, {curve, extrema(1, 1, 2, 2, 1, 5), 200, "[{1 1}] 0"}, {curve, extrema(1, 1, 2, 2, 1, 5), 201, "[] 0"},
		{curve, extrema(1, 5, 2, 7), 50, "[{1 5} {2 7}] 0"}, {curve, extrema(1, 5, 2, 7), 51, "[] 0"}, {curve, extrema(2, 2, 1, 5), 100, "[{2 2} {1 5}] 0"}, {curve, extrema(2, 2, 1, 5), 101, "[] 0"}, {curve, extrema(2, 0, 1, 1, 2, 2, 1, 5, 2, 7), 101, "[{2 0} {1 1}] 0"},
		// Lists with no element, with one, and with two.
		{curve, nil, 0, "[] 0"}, {curve, []impl.Extremum{}, 20000, "[] 0"}, {nil, nil, 5, "[] 0"}, {curve, own[:1], 20000, "[{1 1}] 0"}, {curve, own[1:2], 20000, "[{2 3}] 0"}, {curve, extrema(1, 0), 0, "[{1 0}] 0"}, {curve, extrema(2, 7), 20000, "[{2 7}] 0"}, {points(5, 1), extrema(2, 0), 20000, "[{2 0}] 0"},
		{curve, own[:2], 500, "[{1 1} {2 3}] 0"}, {curve, own[:2], 501, "[] 0"}, {curve, own[1:], 400, "[{2 3} {1 5}] 0"}, {curve, own[1:], 401, "[] 0"},
		// Kinds in any order, at points that are no extrema.
		{curve, extrema(1, 1, 1, 3), 1, "[{1 1}] 0"}, {curve, extrema(2, 1, 2, 3), 1, "[{2 3}] 0"}, {curve, extrema(2, 1, 1, 3), 1, "[] 0"}, {curve, extrema(2, 1, 1, 3), 0, "[] 0"}, {curve, extrema(1, 1, 1, 3, 1, 5), 100, "[{1 1} {1 5}] 0"}, {curve, extrema(2, 1, 2, 3, 2, 5), 400, "[{2 3}] 0"},
		{curve, extrema(1, 3, 1, 4, 1, 5), 200, "[{1 5}] 0"}, {curve, extrema(2, 3, 2, 4, 2, 5), 200, "[{2 3}] 0"}, {curve, extrema(1, 4, 2, 5), 0, "[] 0"},
		// Equal magnitudes.
		{curve, extrema(1, 0, 2, 2), 0, "[{1 0} {2 2}] 0"}, {curve, extrema(1, 0, 2, 2), 1, "[] 0"}, {curve, extrema(2, 5, 2, 6), 0, "[{2 5} {2 6}] 0"}, {curve, extrema(1, 5, 1, 6), 1, "[] 0"}, {curve, extrema(1, 5, 1, 6), 0, "[{1 5} {1 6}] 0"},
		// By MaxMag.
		{deep, extrema(1, 0, 2, 1, 1, 2), 20000, "[{1 0} {2 1} {1 2}] 0"}, {points(0, 0, 1, 20000), extrema(1, 0, 2, 1), 20000, "[{1 0} {2 1}] 0"}, {points(0, 1, 1, 20000), extrema(1, 0, 2, 1), 20000, "[] 0"}, {points(0, -2000, 1, 18000, 2, -1999), extrema(1, 0, 2, 1, 1, 2), 20000, "[{1 0}] 0"},
		// Elements with no Kind or no Index, Indices that do not increase, and by beside its range.
		{curve, extrema(0, 1), 5, "[] 2"}, {curve, extrema(3, 1), 5, "[] 2"}, {curve, extrema(-1, 1), 5, "[] 2"}, {curve, extrema(1, -1), 5, "[] 2"}, {curve, extrema(1, 8), 5, "[] 2"}, {curve, extrema(1, 1, 2, 8), 5, "[] 2"}, {curve, extrema(1, 1, 2, 3, 0, 5), 5, "[] 2"}, {curve, extrema(0, 0), 0, "[] 2"},
		{nil, extrema(1, 0), 5, "[] 2"}, {nil, extrema(1, -1), 5, "[] 2"}, {points(5, 1), extrema(1, 1), 5, "[] 2"}, {curve, extrema(1, 1, 2, 1), 5, "[] 2"}, {curve, extrema(1, 1, 1, 1), 5, "[] 2"}, {curve, extrema(1, 3, 2, 1), 5, "[] 2"}, {curve, extrema(1, 1, 2, 5, 1, 3), 5, "[] 2"}, {curve, extrema(1, 1, 2, 5, 1, 5), 0, "[] 2"},
		{curve, extrema(math.MinInt64, 1), 5, "[] 2"}, {curve, extrema(math.MaxInt64, 1), 5, "[] 2"}, {curve, extrema(1, math.MinInt64), 5, "[] 2"}, {curve, extrema(1, math.MaxInt64), 5, "[] 2"}, {curve, make([]impl.Extremum, 500), 5, "[] 2"}, {curve, slices.Repeat(own, 40), 5, "[] 2"},
		{curve, own, -1, "[] 2"}, {curve, own, 20001, "[] 2"}, {curve, own, math.MinInt64, "[] 2"}, {curve, own, math.MaxInt64, "[] 2"}, {curve, nil, -1, "[] 2"}, {nil, nil, 20001, "[] 2"}, {curve, own[:1], 20001, "[] 2"}, {curve, extrema(0, 9), -1, "[] 2"},
		// Curves that are none, also with other faults.
		{points(5, 1, 5, 1), nil, 5, "[] 1"}, {points(5, 1, 5, 1), extrema(1, 0), 5, "[] 1"}, {points(5, 20001), extrema(1, 0), -1, "[] 1"}, {points(-1, 1), extrema(0, 5), 5, "[] 1"}, {evenCurve(101, 5), own, 5, "[] 1"}, {evenCurve(101, 5), extrema(1, 100), 5, "[] 1"}, {evenCurve(101, 5), extrema(3, 101), 20001, "[] 1"},
	} {
		checkDeep(t, x.curve, x.list, x.by, x.want)
	}
}

// deepWanted is for good curves.
func deepWanted(curve []impl.Point, list []impl.Extremum, by int64) string {
	last := int64(-1)
	for _, x := range list {
		if !between(x.Kind, 1, 2) || !between(x.Index, last+1, int64(len(curve))-1) {
			return "[] 2"
		}
		last = x.Index
	}
	if !between(by, 0, 20000) {
		return "[] 2"
	}
	deep := []impl.Extremum{}
	for i, x := range list {
		near := slices.Concat(list[max(i-1, 0):i], list[i+1:min(i+2, len(list))])
		shallow := slices.ContainsFunc(near, func(y impl.Extremum) bool {
			if x.Kind == 1 {
				return curve[x.Index].Mag+by > curve[y.Index].Mag
			}
			return curve[x.Index].Mag-by < curve[y.Index].Mag
		})
		if !shallow {
			deep = append(deep, x)
		}
	}
	return fmt.Sprint(deep, 0)
}

func TestDeepEnoughForAllArguments(t *testing.T) {
	r := rand.New(rand.NewPCG(12, 4))
	left, all := 0, 0
	for i, curve := range extremumCurves() {
		var list, faulty []impl.Extremum
		for k := range curve {
			if r.IntN(3) == 0 {
				list = append(list, impl.Extremum{Kind: 1 + r.Int64N(2), Index: int64(k)})
			}
		}
		faulty = append(slices.Clone(list), impl.Extremum{Kind: edgeKinds[i%len(edgeKinds)], Index: edgeExtremumSides[i*7%len(edgeExtremumSides)]})
		for k, by := range edgeHeights {
			own := extremaWanted(curve, int64(1+k%4))
			for _, x := range [][]impl.Extremum{own, list, faulty} {
				checkDeep(t, curve, x, by, deepWanted(curve, x, by))
			}
			deep, _ := impl.DeepEnough(curve, own, by)
			left, all = left+len(deep), all+len(own)
		}
	}
	if left < 1000 || all-left < 1000 {
		t.Errorf("only %d of %d extrema are deep enough", left, all)
	}
	for i, curve := range badCurves() {
		for k, by := range edgeHeights {
			for _, list := range [][]impl.Extremum{nil, extrema(1, 0), extrema(edgeKinds[k%len(edgeKinds)], int64(i))} {
				checkDeep(t, curve, list, by, "[] 1")
			}
		}
	}
}

// crossedOf returns the crossings of a level and the middles of its chords, each with its code.
func crossedOf(curve []impl.Point, level int64) []any {
	times, one := impl.CrossingsOf(curve, level)
	middles, two := impl.ChordMiddles(curve, level)
	return []any{times, one, middles, two}
}

func TestCrossings(t *testing.T) {
	curve := points(0, 9200, 100, 9000, 200, 9200, 300, 9500)
	for _, x := range []struct {
		curve []impl.Point
		level int64
		want  string // the crossings and the middles, each with its code
	}{
		{curve, 9100, "[{50 1} {150 1}] 0 [{100 1}] 0"}, {curve, 9300, "[{700 3}] 0 [] 0"}, {curve, 9001, "[{199 2} {201 2}] 0 [{100 1}] 0"}, {curve, 9067, "[{133 2} {267 2}] 0 [{100 1}] 0"},
		{points(0, 0, 7, 3), 1, "[{7 3}] 0 [] 0"}, {points(0, 3, 7, 0), 1, "[{14 3}] 0 [] 0"}, {points(3, 1, 10, 4), 2, "[{16 3}] 0 [] 0"}, {points(3, -1, 10, -4), -2, "[{16 3}] 0 [] 0"}, {points(0, 0, 7, 3, 9, 0), 1, "[{7 3} {25 3}] 0 [{16 3}] 0"}, {points(0, 0, 2, 3, 9, 0, 10, 2), 1, "[{2 3} {20 3} {19 2}] 0 [{11 3} {97 12}] 0"},
		// Levels that points have: at the first one, at the last one, at both, and at one between them.
		{curve, 9200, "[{0 1} {200 1}] 0 [{100 1}] 0"}, {curve, 9500, "[{300 1}] 0 [] 0"}, {curve, 9000, "[] 0 [] 0"}, {points(5, 9, 6, 8), 9, "[{5 1}] 0 [] 0"}, {points(5, 8, 6, 9), 9, "[{6 1}] 0 [] 0"}, {points(5, 8, 6, 9), 8, "[] 0 [] 0"}, {points(5, 9, 6, 8), 8, "[] 0 [] 0"},
		{points(5, 9, 6, 8, 9, 9), 9, "[{5 1} {9 1}] 0 [{7 1}] 0"}, {points(5, 8, 6, 9, 9, 8), 9, "[{6 1} {6 1}] 0 [{6 1}] 0"}, {points(5, 9, 6, 8, 9, 9), 8, "[] 0 [] 0"}, {points(5, 7, 6, 8, 9, 9), 8, "[{6 1}] 0 [] 0"}, {points(5, 9, 6, 8, 9, 7), 8, "[{6 1}] 0 [] 0"},
		// At points that follow one another.
		{points(5, 8, 6, 9, 9, 9, 11, 8), 9, "[{6 1} {9 1}] 0 [{15 2}] 0"}, {points(5, 8, 6, 9, 9, 9, 11, 10), 9, "[{6 1}] 0 [] 0"}, {points(5, 10, 6, 9, 9, 9, 11, 8), 9, "[{9 1}] 0 [] 0"}, {points(5, 10, 6, 9, 9, 9, 11, 10), 9, "[] 0 [] 0"}, {evenCurve(5, 9), 9, "[] 0 [] 0"}, {points(5, 9, 6, 9, 9, 8), 9, "[{6 1}] 0 [] 0"}, {points(5, 8, 6, 9, 9, 9), 9, "[{6 1}] 0 [] 0"},
		// Levels that no point has, below all of them and above all of them; the least and the greatest level.
		{curve, 8999, "[] 0 [] 0"}, {curve, 9501, "[] 0 [] 0"}, {curve, -2000, "[] 0 [] 0"}, {curve, 20000, "[] 0 [] 0"}, {zigzag(3), -2000, "[] 0 [] 0"}, {zigzag(3), 20000, "[{1 1} {1 1}] 0 [{1 1}] 0"}, {zigzag(3), 9000, "[{1 2} {3 2}] 0 [{1 1}] 0"}, {zigzag(3), -1999, "[{1 22000} {43999 22000}] 0 [{1 1}] 0"},
		{points(0, -2000, 10000000, 20000), 19999, "[{109995000 11}] 0 [] 0"}, {points(0, 20000, 10000000, -2000), -1999, "[{109995000 11}] 0 [] 0"}, {points(0, 0, 1, -1, 2, 0), 0, "[{0 1} {2 1}] 0 [{1 1}] 0"},
		// No points, one, and two.
		{nil, 9000, "[] 0 [] 0"}, {[]impl.Point{}, 0, "[] 0 [] 0"}, {points(5, 9000), 9000, "[] 0 [] 0"}, {points(5, 9000), 9001, "[] 0 [] 0"}, {points(5, 9000, 6, 9000), 9000, "[] 0 [] 0"}, {points(5, 8999, 6, 9001), 9000, "[{11 2}] 0 [] 0"},
		// Errors, and their order.
		{curve, -2001, "[] 2 [] 2"}, {curve, 20001, "[] 2 [] 2"}, {curve, math.MinInt64, "[] 2 [] 2"}, {curve, math.MaxInt64, "[] 2 [] 2"}, {nil, 20001, "[] 2 [] 2"}, {points(5, 1, 5, 1), 1, "[] 1 [] 1"}, {points(5, 20001), 1, "[] 1 [] 1"}, {points(-1, 1), -2001, "[] 1 [] 1"}, {points(6, 1, 5, 2), 20001, "[] 1 [] 1"}, {evenCurve(101, 5), 5, "[] 1 [] 1"}, {evenCurve(101, 5), math.MaxInt64, "[] 1 [] 1"},
	} {
		checkCurve(t, fmt.Sprint("crossings ", x.level), x.curve, x.want, func(curve []impl.Point) []any { return crossedOf(curve, x.level) })
	}
}

// levelsOf are levels at and beside the magnitudes of a curve, and between them.
func levelsOf(curve []impl.Point) []int64 {
	list := slices.Clone(edgeMags)
	for i := 0; i < len(curve); i += 1 + len(curve)/8 {
		list = append(list, curve[i].Mag-1, curve[i].Mag, curve[i].Mag+1, (curve[i].Mag+curve[len(curve)/2].Mag)/2)
	}
	slices.Sort(list)
	return slices.Compact(list)
}

// crossingsWanted goes the share of the line between two points that lies before the level.
func crossingsWanted(curve []impl.Point, level int64) []*big.Rat {
	var times []*big.Rat
	for i, b := range curve {
		if i == 0 {
			continue
		}
		a := curve[i-1]
		if a.Mag < level && b.Mag >= level || b.Mag < level && a.Mag >= level {
			time := big.NewRat(level-a.Mag, b.Mag-a.Mag)
			times = append(times, time.Mul(time, ratOf(b.Time-a.Time)).Add(time, ratOf(a.Time)))
		}
	}
	return times
}

// fractionsOf are fractions of this package.
func fractionsOf(list []*big.Rat) []impl.Fraction {
	var fractions []impl.Fraction
	for _, x := range list {
		fractions = append(fractions, impl.Fraction{Num: x.Num().Int64(), Den: x.Denom().Int64()})
	}
	return fractions
}

func TestCrossingsForAllArguments(t *testing.T) {
	many := 0
	for _, curve := range extremumCurves() {
		for _, level := range levelsOf(curve) {
			want := "[] 2 [] 2"
			if isMag(level) {
				times := crossingsWanted(curve, level)
				var middles []*big.Rat
				for i := 0; i+1 < len(times); i++ {
					middle := new(big.Rat).Add(times[i], times[i+1])
					middles = append(middles, middle.Quo(middle, ratOf(2)))
				}
				want = fmt.Sprint(fractionsOf(times), 0, fractionsOf(middles), 0)
				many += len(times)
			}
			checkCurve(t, fmt.Sprint("crossings ", level), curve, want, func(curve []impl.Point) []any { return crossedOf(curve, level) })
		}
	}
	if many < 10000 {
		t.Errorf("only %d crossings", many)
	}
	for _, curve := range badCurves() {
		for _, level := range edgeMags {
			checkCurve(t, fmt.Sprint("crossings ", level), curve, "[] 1 [] 1", func(curve []impl.Point) []any { return crossedOf(curve, level) })
		}
	}
}

// TestCrossingsHaveTheLevel is the second half of promise 12.
func TestCrossingsHaveTheLevel(t *testing.T) {
	whole, broken := 0, 0
	for _, curve := range extremumCurves() {
		for _, level := range levelsOf(curve) {
			times, code := impl.CrossingsOf(curve, level)
			for i, f := range times {
				time := big.NewRat(f.Num, f.Den)
				if code != impl.OK || i > 0 && time.Cmp(big.NewRat(times[i-1].Num, times[i-1].Den)) < 0 {
					t.Fatalf("%v at %d: got %v %d, out of order", curve, level, times, code)
				}
				if f.Den == 1 {
					mag, code := impl.MagAt(curve, f.Num)
					same(t, fmt.Sprint("MagAt ", curve, f), fmt.Sprint(level, 0), mag, code)
					whole++
					continue
				}
				broken++
				// The points at whole times before and behind the crossing lie on the same line.
				place, _ := slices.BinarySearchFunc(curve, time, func(p impl.Point, x *big.Rat) int { return ratOf(p.Time).Cmp(x) })
				a, b := curve[place-1], curve[place]
				mag := new(big.Rat).Sub(time, ratOf(a.Time))
				mag.Mul(mag, big.NewRat(b.Mag-a.Mag, b.Time-a.Time)).Add(mag, ratOf(a.Mag))
				if mag.Cmp(ratOf(level)) != 0 {
					t.Fatalf("%v at %d: got %v, where the curve has %v", curve, level, f, mag)
				}
			}
		}
	}
	if whole < 1000 || broken < 1000 {
		t.Errorf("only %d crossings at whole times, and %d at others", whole, broken)
	}
}

func TestRefineExtremum(t *testing.T) {
	curve := points(0, 9200, 100, 9000, 200, 9200, 300, 9500, 400, 9300, 500, 9100, 600, 9100, 700, 9150)
	far := points(0, 1, 50000, 2, 100000, 1, 100001, 2, 200002, 9, 300003, 3)
	for _, x := range []struct {
		curve []impl.Point
		index int64
		want  string
	}{
		// The first and the last index with points on both sides, and those beside them.
		{curve, 1, "{100 1} 0"}, {curve, 0, "{0 0} 2"}, {curve, 6, "{550 1} 0"}, {curve, 7, "{0 0} 2"}, {curve, 8, "{0 0} 2"}, {curve, -1, "{0 0} 2"}, {curve, 3, "{310 1} 0"}, {curve, 5, "{550 1} 0"}, {curve, 2, "{-50 1} 0"}, {curve, 4, "{0 0} 6"},
		{curve[:3], 1, "{100 1} 0"}, {curve[:3], 0, "{0 0} 2"}, {curve[:3], 2, "{0 0} 2"}, {curve[:2], 0, "{0 0} 2"}, {curve[:2], 1, "{0 0} 2"}, {curve[:1], 0, "{0 0} 2"}, {curve[:1], -1, "{0 0} 2"}, {nil, 0, "{0 0} 2"}, {nil, 1, "{0 0} 2"}, {nil, -2, "{0 0} 2"}, {[]impl.Point{}, -1, "{0 0} 2"},
		{zigzag(100), 98, "{98 1} 0"}, {zigzag(100), 99, "{0 0} 2"}, {zigzag(100), 97, "{97 1} 0"}, {curve, math.MinInt64, "{0 0} 2"}, {curve, math.MaxInt64, "{0 0} 2"}, {nil, math.MinInt64, "{0 0} 2"}, {nil, math.MaxInt64, "{0 0} 2"},
		// Points that are just MaxNear apart, and farther; and on a line.
		{far, 1, "{50000 1} 0"}, {far, 2, "{150001 2} 0"}, {far, 3, "{0 0} 2"}, {far, 4, "{0 0} 2"}, {curveOfMags(1, 2, 3, 4), 1, "{0 0} 6"}, {curveOfMags(5, 5, 5), 1, "{0 0} 6"}, {points(0, 5, 50000, 5, 100001, 5), 1, "{0 0} 2"}, {points(0, 5, 50000, 5, 100000, 5), 1, "{0 0} 6"},
		// Curves that are none, also with other faults.
		{points(5, 1, 5, 2, 6, 1), 1, "{0 0} 1"}, {points(0, 1, 1, 20001, 2, 1), 1, "{0 0} 1"}, {points(0, 1, 1, 2, 2, 1, 3, -2001), 1, "{0 0} 1"}, {points(-1, 1, 1, 2, 2, 1), 0, "{0 0} 1"}, {evenCurve(101, 5), 1, "{0 0} 1"}, {evenCurve(101, 5), 100, "{0 0} 1"}, {points(6, 1, 5, 1, 200000, 1), 1, "{0 0} 1"}, {points(6, 1, 5, 1, 7, 1), math.MinInt64, "{0 0} 1"},
	} {
		checkCurve(t, fmt.Sprint("RefineExtremum ", x.index), x.curve, x.want, func(curve []impl.Point) []any {
			time, code := impl.RefineExtremum(curve, x.index)
			return []any{time, code}
		})
	}
}

func TestExtremumText(t *testing.T) {
	curve := points(0, 9200, 100, 9000, 200, 9200, 300, 9500, 20035, -150)
	for _, x := range []struct {
		curve []impl.Point
		x     impl.Extremum
		want  string
	}{
		{curve, impl.Extremum{Kind: 2, Index: 3}, "min 0.0300 9.500"}, {curve, impl.Extremum{Kind: 1, Index: 3}, "max 0.0300 9.500"}, {curve, impl.Extremum{Kind: 1, Index: 1}, "max 0.0100 9.000"},
		// Each kind at the first and at the last index.
		{curve, impl.Extremum{Kind: 1, Index: 0}, "max 0.0000 9.200"}, {curve, impl.Extremum{Kind: 2, Index: 0}, "min 0.0000 9.200"}, {curve, impl.Extremum{Kind: 1, Index: 4}, "max 2.0035 -0.150"}, {curve, impl.Extremum{Kind: 2, Index: 4}, "min 2.0035 -0.150"},
		{points(10000000, 20000), impl.Extremum{Kind: 1, Index: 0}, "max 1000.0000 20.000"}, {points(9999999, -2000), impl.Extremum{Kind: 2, Index: 0}, "min 999.9999 -2.000"}, {evenCurve(100, 7), impl.Extremum{Kind: 2, Index: 99}, "min 0.0099 0.007"},
		// No kinds, no indices, and no curves.
		{curve, impl.Extremum{}, ""}, {curve, impl.Extremum{Kind: 3, Index: 1}, ""}, {curve, impl.Extremum{Kind: -1, Index: 1}, ""}, {curve, impl.Extremum{Kind: 1, Index: 5}, ""}, {curve, impl.Extremum{Kind: 1, Index: -1}, ""}, {nil, impl.Extremum{Kind: 1}, ""}, {nil, impl.Extremum{Kind: 1, Index: -1}, ""},
		{curve, impl.Extremum{Kind: math.MaxInt64, Index: 1}, ""}, {curve, impl.Extremum{Kind: math.MinInt64, Index: 1}, ""}, {curve, impl.Extremum{Kind: 1, Index: math.MaxInt64}, ""}, {curve, impl.Extremum{Kind: 1, Index: math.MinInt64}, ""},
		{points(5, 1, 5, 1), impl.Extremum{Kind: 1}, ""}, {points(5, 20001), impl.Extremum{Kind: 1}, ""}, {points(5, 1, 6, 20001), impl.Extremum{Kind: 1}, ""}, {points(-1, 1), impl.Extremum{Kind: 2}, ""}, {evenCurve(101, 5), impl.Extremum{Kind: 1, Index: 3}, ""},
	} {
		checkCurve(t, fmt.Sprint("ExtremumText ", x.x), x.curve, x.want, func(curve []impl.Point) []any { return []any{impl.ExtremumText(curve, x.x)} })
	}
}

// placesOf returns what the functions of a curve and a point return: the time of the vertex there, and the text of an extremum.
func placesOf(curve []impl.Point, kind, index int64) []any {
	time, code := impl.RefineExtremum(curve, index)
	return []any{time, code, impl.ExtremumText(curve, impl.Extremum{Kind: kind, Index: index})}
}

// placesWanted is for good curves.
func placesWanted(curve []impl.Point, kind, index int64) string {
	time, text := "{0 0} 2", ""
	if between(index, 1, int64(len(curve))-2) {
		var num, den, code int64
		fmt.Sscanf(vertexWanted(curve[index-1:index+2]), "{%d %d} %d", &num, &den, &code)
		time = fmt.Sprintf("{%d %d} %d", num, den, code)
	}
	if between(kind, 1, 2) && between(index, 0, int64(len(curve))-1) {
		p, sign := curve[index], ""
		mag := p.Mag
		if mag < 0 {
			sign, mag = "-", -mag
		}
		text = fmt.Sprintf("%s %d.%04d %s%d.%03d", []string{"max", "min"}[kind-1], p.Time/10000, p.Time%10000, sign, mag/1000, mag%1000)
	}
	return time + " " + text
}

func TestPlacesForAllArguments(t *testing.T) {
	indicesOf := func(curve []impl.Point) []int64 {
		last := int64(len(curve)) - 1
		return numbers(-2, -1, 0, 1, 2, last/2, last-2, last-1, last, last+1, 99, 100, 101)
	}
	for _, curve := range extremumCurves() {
		for i, index := range indicesOf(curve) {
			for k, kind := range edgeKinds {
				if between(kind, 1, 2) || (i+k)%3 == 0 {
					checkCurve(t, fmt.Sprint("places ", kind, index), curve, placesWanted(curve, kind, index), func(curve []impl.Point) []any { return placesOf(curve, kind, index) })
				}
			}
		}
	}
	for _, curve := range badCurves() {
		for i, index := range indicesOf(curve) {
			kind := edgeKinds[i%len(edgeKinds)]
			checkCurve(t, fmt.Sprint("places ", kind, index), curve, "{0 0} 1 ", func(curve []impl.Point) []any { return placesOf(curve, kind, index) })
		}
	}
}

// TestResultsOfExtremaAreNewSlices changes each result with its unused capacity, and asks again.
func TestResultsOfExtremaAreNewSlices(t *testing.T) {
	curve, list := zigzag(9), extrema(2, 1, 1, 2, 2, 3)
	check := func(name string, call func() (string, func())) {
		want, clearIt := call()
		clearIt()
		got, _ := call()
		same(t, name, fmt.Sprint(want, " ", zigzag(9), " ", extrema(2, 1, 1, 2, 2, 3)), got, curve, list)
		if len(want) < 5 {
			t.Errorf("%s: only %s", name, want)
		}
	}
	check("ExtremaOf", func() (string, func()) {
		own, _ := impl.ExtremaOf(curve, 1)
		return fmt.Sprint(own), func() { clear(own[:cap(own)]) }
	})
	check("DeepEnough", func() (string, func()) {
		deep, _ := impl.DeepEnough(curve, list, 0)
		return fmt.Sprint(deep), func() { clear(deep[:cap(deep)]) }
	})
	check("CrossingsOf", func() (string, func()) {
		times, _ := impl.CrossingsOf(curve, 9000)
		return fmt.Sprint(times), func() { clear(times[:cap(times)]) }
	})
	check("ChordMiddles", func() (string, func()) {
		middles, _ := impl.ChordMiddles(curve, 9000)
		return fmt.Sprint(middles), func() { clear(middles[:cap(middles)]) }
	})
	check("RiseTimes", func() (string, func()) {
		rises, _ := impl.RiseTimes(curve, 1)
		return fmt.Sprint(rises), func() { clear(rises[:cap(rises)]) }
	})
}

// TestExtremaForAllArguments is promise 1 for chapter 12: each call returns, and returns the same again.
func TestExtremaForAllArguments(t *testing.T) {
	curves := slices.Concat(goodCurves()[:40], wavesByChance()[:20], badCurves())
	odd := numbers(-2001, -1, 0, 1, 2, 3, 10, 11, 99, 100, 9000, 20000, 20001, 10000001)
	for i, curve := range curves {
		for k, n := range odd {
			m := odd[(i+k*5)%len(odd)]
			list := slices.Concat(extrema(1, 0), extrema(2, 1)[:k%2], extrema(n, m)[:i%2])
			three := points(n, m, m, odd[i%len(odd)], odd[k*3%len(odd)], n)
			keepExtrema(t, "extrema", curve, list, func(curve []impl.Point, list []impl.Extremum) {
				twice(t, "extrema", func() []any {
					deep, code := impl.DeepEnough(curve, list, n)
					return slices.Concat(vertexOf(three), cyclesOf(curve, n, m), crossedOf(curve, n), placesOf(curve, m, n), []any{deep, code})
				})
			})
		}
	}
}
