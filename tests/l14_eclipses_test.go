package tests

import (
	"fmt"
	"math"
	"math/big"
	"math/rand/v2"
	"slices"
	"sort"
	"testing"

	"loop.example/g01026/impl"
)

// edgeDepths are numbers at and beside the limits of depths.
var edgeDepths = numbers(-5000, -1, 0, 1, 2, 1000, 4999, 5000, 5001, 5002, 10000)

// edgeHalves are numbers at and beside the limits of Half, and of Flat below it.
var edgeHalves = numbers(-1000000, -2, -1, 0, 1, 2, 3, 99, 100, 101, 300, 999998, 999999, 1000000, 1000001, 1000002)

// edgeOffsets are numbers at and beside the limits of offsets, and of models.
var edgeOffsets = numbers(-10000002, -10000001, -10000000, -9999999, -1000000, -300, -200, -100, -1, 0, 1, 2, 99, 100, 101, 200, 299, 300, 301, 499999, 500000, 999998, 999999, 1000000, 1000001, 9999999, 10000000, 10000001, 10000002)

func model(depth, half, flat int64) impl.Model {
	return impl.Model{Depth: depth, Half: half, Flat: flat}
}

func exampleModel() impl.Model { return model(1000, 300, 100) }

func isModel(m impl.Model) bool {
	return between(m.Depth, 1, 5000) && between(m.Half, 1, 1_000_000) && m.Flat >= 0 && m.Flat < m.Half
}

func goodModels() []impl.Model {
	list := []impl.Model{
		exampleModel(), model(1, 1, 0), model(5000, 1, 0), model(1, 1000000, 0), model(5000, 1000000, 0), model(1, 1000000, 999999), model(5000, 1000000, 999999), model(5000, 1000000, 999998), model(4999, 999999, 1),
		model(1, 2, 0), model(1, 2, 1), model(5, 2, 0), model(3, 4, 0), model(7, 104, 100), model(1000, 101, 100), model(1000, 4, 0), model(1000, 16, 14), model(1000, 15, 14), model(1000, 16, 15), model(1000, 100, 20), model(333, 77, 7), model(2500, 500000, 499999), model(2500, 500001, 250000),
	}
	r := rand.New(rand.NewPCG(14, 1))
	for i := range 25 {
		half := 1 + r.Int64N([]int64{5, 40, 1000, 1_000_000}[i%4])
		list = append(list, model(1+r.Int64N([]int64{3, 100, 5000}[i%3]), half, r.Int64N(half)))
	}
	return list
}

// badModels are none by just one of their fields, but for the first ones.
func badModels() []impl.Model {
	list := []impl.Model{
		{}, model(0, 0, 0), model(-1, -1, -1), model(5001, 1000001, 1000001), model(0, 1, 1), model(5001, 0, -1), model(math.MinInt64, math.MinInt64, math.MinInt64), model(math.MaxInt64, math.MaxInt64, math.MaxInt64),
		model(math.MaxInt64, math.MinInt64, math.MaxInt64), model(math.MinInt64, math.MaxInt64, math.MinInt64), model(1000, math.MinInt64, 100), model(1000, math.MinInt64, math.MaxInt64), model(1000, math.MaxInt64, math.MinInt64), model(1000, 300, math.MinInt64), model(1000, 300, math.MaxInt64),
		model(1000, 300, 300), model(1000, 300, 301), model(1000, 300, -1), model(1000, 300, -300), model(1000, 1, 1), model(1000, 1000000, 1000000), model(1000, 1000001, 1000000), model(1000, 1000001, 100), model(1000, 0, -1), model(1000, 0, 0), model(1000, -300, -301), model(1000, -1, -2), model(1000, 100, 300),
	}
	for _, n := range numbers(-1000, -1, 0, 5001, 5002) {
		list = append(list, model(n, 300, 100))
	}
	for _, n := range numbers(-300, -1, 0, 1000001, 1000002) {
		list = append(list, model(1000, n, 0))
	}
	return list
}

// modelOf returns what the functions of a model alone return: whether it is valid, its area and its text.
func modelOf(m impl.Model) []any {
	area, code := impl.AreaOfModel(m)
	return []any{impl.ValidModel(m), area, code, impl.ModelText(m)}
}

func TestConstantsOfEclipses(t *testing.T) {
	same(t, "constants", "5000 300", impl.MaxDepth, impl.MaxGrid)
}

func TestModels(t *testing.T) {
	none := "false 0 1 "
	for _, x := range []struct {
		m    impl.Model
		want string // whether it is valid, its area with its code, and its text
	}{
		{exampleModel(), "true 400000 0 depth 1000 half 300 flat 100"}, {model(500, 30, 29), "true 29500 0 depth 500 half 30 flat 29"},
		// Flat 0, and Half just Flat + 1.
		{model(1000, 300, 0), "true 300000 0 depth 1000 half 300 flat 0"}, {model(7, 1, 0), "true 7 0 depth 7 half 1 flat 0"}, {model(1000, 101, 100), "true 201000 0 depth 1000 half 101 flat 100"}, {model(3, 2, 1), "true 9 0 depth 3 half 2 flat 1"},
		// The least and the greatest numbers.
		{model(1, 1, 0), "true 1 0 depth 1 half 1 flat 0"}, {model(5000, 1, 0), "true 5000 0 depth 5000 half 1 flat 0"}, {model(1, 1000000, 0), "true 1000000 0 depth 1 half 1000000 flat 0"}, {model(1, 1000000, 999999), "true 1999999 0 depth 1 half 1000000 flat 999999"},
		{model(5000, 1000000, 0), "true 5000000000 0 depth 5000 half 1000000 flat 0"}, {model(5000, 1000000, 999999), "true 9999995000 0 depth 5000 half 1000000 flat 999999"}, {model(4999, 999999, 999998), "true 9997985003 0 depth 4999 half 999999 flat 999998"},
		// One field beyond its range, or several.
		{model(0, 300, 100), none}, {model(-1, 300, 100), none}, {model(5001, 300, 100), none}, {model(1000, 300, -1), none}, {model(1000, 300, 300), none}, {model(1000, 300, 301), none}, {model(1000, 0, 0), none}, {model(1000, 0, -1), none}, {model(1000, -1, -2), none}, {model(1000, 1, 1), none},
		{model(1000, 1000001, 100), none}, {model(1000, 1000001, 1000000), none}, {model(1000, 1000000, 1000000), none}, {model(1000, 100, 300), none}, {impl.Model{}, none}, {model(math.MaxInt64, math.MaxInt64, math.MaxInt64), none}, {model(math.MinInt64, math.MinInt64, math.MinInt64), none},
		{model(1000, math.MinInt64, 100), none}, {model(1000, math.MinInt64, math.MinInt64), none}, {model(1000, math.MaxInt64, 100), none}, {model(1000, 300, math.MinInt64), none}, {model(1000, 300, math.MaxInt64), none}, {model(math.MinInt64, 300, 100), none}, {model(math.MaxInt64, 300, 100), none},
	} {
		same(t, fmt.Sprint("model ", x.m), x.want, twice(t, "model", func() []any { return modelOf(x.m) })...)
	}
}

func TestModelsAtTheirLimits(t *testing.T) {
	check := func(m impl.Model) {
		want := "false 0 1 "
		if isModel(m) {
			want = fmt.Sprintf("true %d 0 depth %d half %d flat %d", m.Depth*m.Half+m.Depth*m.Flat, m.Depth, m.Half, m.Flat)
		}
		same(t, fmt.Sprint("model ", m), want, twice(t, "model", func() []any { return modelOf(m) })...)
	}
	for _, depth := range edgeDepths {
		for _, half := range edgeHalves {
			for _, flat := range edgeHalves {
				check(model(depth, half, flat))
			}
		}
	}
	for _, m := range slices.Concat(goodModels(), badModels()) {
		check(m)
	}
	for i, list := range [][]impl.Model{goodModels(), badModels()} {
		for _, m := range list {
			same(t, fmt.Sprint("ValidModel ", m), fmt.Sprint(i == 0), impl.ValidModel(m))
		}
	}
}

func dropOf(m impl.Model, offset int64) []any {
	drop, code := impl.DropAt(m, offset)
	return []any{drop, code}
}

func TestDropAt(t *testing.T) {
	m := exampleModel()
	for _, x := range []struct {
		m      impl.Model
		offset int64
		want   string
	}{
		// The middle, the ends of the flat part and of the eclipse, and beside them.
		{m, 0, "1000 0"}, {m, 1, "1000 0"}, {m, 50, "1000 0"}, {m, 99, "1000 0"}, {m, 100, "1000 0"}, {m, 101, "995 0"}, {m, 102, "990 0"}, {m, 199, "505 0"}, {m, 200, "500 0"}, {m, 201, "495 0"}, {m, 298, "10 0"}, {m, 299, "5 0"}, {m, 300, "0 0"}, {m, 301, "0 0"}, {m, 5000, "0 0"},
		// The same before the middle.
		{m, -1, "1000 0"}, {m, -50, "1000 0"}, {m, -99, "1000 0"}, {m, -100, "1000 0"}, {m, -101, "995 0"}, {m, -102, "990 0"}, {m, -199, "505 0"}, {m, -200, "500 0"}, {m, -201, "495 0"}, {m, -298, "10 0"}, {m, -299, "5 0"}, {m, -300, "0 0"}, {m, -301, "0 0"}, {m, -5000, "0 0"},
		// A flat part that is a single time.
		{model(1000, 4, 0), 0, "1000 0"}, {model(1000, 4, 0), 1, "750 0"}, {model(1000, 4, 0), -1, "750 0"}, {model(1000, 4, 0), 2, "500 0"}, {model(1000, 4, 0), -3, "250 0"}, {model(1000, 4, 0), 4, "0 0"}, {model(1000, 4, 0), -4, "0 0"}, {model(1000, 4, 0), 5, "0 0"},
		// No times between the flat part and the end.
		{model(1000, 101, 100), 99, "1000 0"}, {model(1000, 101, 100), 100, "1000 0"}, {model(1000, 101, 100), -100, "1000 0"}, {model(1000, 101, 100), 101, "0 0"}, {model(1000, 101, 100), -101, "0 0"}, {model(1000, 101, 100), 102, "0 0"}, {model(7, 1, 0), 0, "7 0"}, {model(7, 1, 0), 1, "0 0"}, {model(7, 1, 0), -1, "0 0"},
		{model(7, 3, 1), 1, "7 0"}, {model(7, 3, 1), 2, "4 0"}, {model(7, 3, 1), -2, "4 0"}, {model(7, 3, 1), 3, "0 0"},
		// Nearest integers at just a half, and beside it.
		{model(1, 2, 0), 1, "1 0"}, {model(1, 2, 0), -1, "1 0"}, {model(5, 2, 0), 1, "3 0"}, {model(5, 2, 0), -1, "3 0"}, {model(2, 4, 0), 1, "2 0"}, {model(2, 4, 0), 3, "1 0"}, {model(3, 4, 0), 1, "2 0"}, {model(3, 4, 0), 2, "2 0"}, {model(3, 4, 0), 3, "1 0"}, {model(1, 3, 0), 1, "1 0"}, {model(1, 3, 0), 2, "0 0"},
		{model(1000, 3, 0), 1, "667 0"}, {model(1000, 3, 0), 2, "333 0"}, {model(7, 104, 100), 101, "5 0"}, {model(7, 104, 100), 102, "4 0"}, {model(7, 104, 100), 103, "2 0"}, {model(7, 104, 100), -101, "5 0"}, {model(7, 104, 100), -102, "4 0"}, {model(7, 104, 100), -103, "2 0"},
		{model(1, 1000000, 0), 499999, "1 0"}, {model(1, 1000000, 0), 500000, "1 0"}, {model(1, 1000000, 0), 500001, "0 0"}, {model(1, 1000000, 0), -500000, "1 0"}, {model(1, 1000000, 0), -500001, "0 0"}, {model(1, 1000000, 0), 999999, "0 0"}, {model(1, 1000000, 0), 0, "1 0"},
		// The greatest depth and lengths.
		{model(5000, 1000000, 0), 1, "5000 0"}, {model(5000, 1000000, 0), 100, "5000 0"}, {model(5000, 1000000, 0), 101, "4999 0"}, {model(5000, 1000000, 0), 500000, "2500 0"}, {model(5000, 1000000, 0), 999899, "1 0"}, {model(5000, 1000000, 0), 999900, "1 0"}, {model(5000, 1000000, 0), 999901, "0 0"}, {model(5000, 1000000, 0), -999900, "1 0"}, {model(5000, 1000000, 0), 1000000, "0 0"},
		{model(5000, 1000000, 999999), 999999, "5000 0"}, {model(5000, 1000000, 999999), -999999, "5000 0"}, {model(5000, 1000000, 999999), 1000000, "0 0"}, {model(5000, 1000000, 999998), 999999, "2500 0"}, {model(5000, 1000000, 500000), 750000, "2500 0"}, {model(5000, 1000000, 500000), 500001, "5000 0"}, {model(5000, 1000000, 500000), 500051, "4999 0"},
		// Offsets at the ends of their range, and one beyond each.
		{m, 10000000, "0 0"}, {m, -10000000, "0 0"}, {m, 10000001, "0 2"}, {m, -10000001, "0 2"}, {m, math.MaxInt64, "0 2"}, {m, math.MinInt64, "0 2"}, {m, math.MinInt64 + 1, "0 2"}, {model(5000, 1000000, 999999), 9999999, "0 0"},
		// Models that are not valid, alone and with offsets beyond their range.
		{impl.Model{}, 0, "0 1"}, {model(0, 300, 100), 0, "0 1"}, {model(5001, 300, 100), 0, "0 1"}, {model(1000, 300, 300), 0, "0 1"}, {model(1000, 300, -1), 0, "0 1"}, {model(1000, 1000001, 0), 0, "0 1"}, {model(1000, 0, 0), 0, "0 1"}, {model(1000, 1, 1), 1, "0 1"}, {impl.Model{}, 10000001, "0 1"},
		{impl.Model{}, math.MinInt64, "0 1"}, {model(1000, 300, 300), -10000001, "0 1"}, {model(math.MaxInt64, math.MaxInt64, math.MinInt64), math.MaxInt64, "0 1"}, {model(math.MinInt64, math.MinInt64, math.MaxInt64), math.MinInt64, "0 1"},
	} {
		same(t, fmt.Sprint("DropAt ", x.m, x.offset), x.want, twice(t, "DropAt", func() []any { return dropOf(x.m, x.offset) })...)
	}
}

// dropFor is for a valid model and a distance from the middle of the nearest eclipse.
func dropFor(m impl.Model, d int64) int64 {
	if d <= m.Flat {
		return m.Depth
	}
	// Beyond the end the straight line is below 0.
	line := new(big.Rat).Quo(ratOf(m.Half-d), ratOf(m.Half-m.Flat))
	if line.Sign() < 0 {
		return 0
	}
	return nearestOf(line.Mul(line, ratOf(m.Depth)))
}

func dropWanted(m impl.Model, offset int64) string {
	switch {
	case !isModel(m):
		return "0 1"
	case !between(offset, -10_000_000, 10_000_000):
		return "0 2"
	case offset < 0:
		return fmt.Sprint(dropFor(m, -offset), " 0")
	}
	return fmt.Sprint(dropFor(m, offset), " 0")
}

func TestDropAtForAllArguments(t *testing.T) {
	check := func(m impl.Model, offset int64) {
		same(t, fmt.Sprint("DropAt ", m, offset), dropWanted(m, offset), twice(t, "DropAt", func() []any { return dropOf(m, offset) })...)
	}
	for _, m := range slices.Concat(goodModels(), badModels()) {
		for _, offset := range edgeOffsets {
			check(m, offset)
		}
		middle := m.Half/2 + m.Flat/2
		for _, d := range []int64{m.Flat, m.Half, middle, 2*m.Flat - m.Half, 2*m.Half - m.Flat} {
			for beside := range int64(5) {
				check(m, d+beside-2)
				check(m, -(d + beside - 2))
			}
		}
	}
	// All small models at all their offsets.
	for depth := range int64(8) {
		for half := range int64(9) {
			for flat := range half + 1 {
				for offset := -half - 2; offset <= half+2; offset++ {
					check(model(depth, half, flat), offset)
				}
			}
		}
	}
}

// TestDropIsTheSameOnBothSides is the first half of promise 14, around a single middle and around
// the extrema of an ephemeris.
func TestDropIsTheSameOnBothSides(t *testing.T) {
	pairs := 0
	for _, m := range goodModels() {
		before := int64(math.MaxInt64)
		for _, d := range slices.Sorted(slices.Values(append(listOf(0, 1, 20), m.Flat, m.Flat+1, m.Half/2, (m.Half+m.Flat)/2, m.Half-1, m.Half, m.Half+1, 10_000_000))) {
			left, one := impl.DropAt(m, -d)
			right, two := impl.DropAt(m, d)
			if left != right || one != impl.OK || two != impl.OK || right > before || !between(right, 0, m.Depth) {
				t.Errorf("%v at %d: got %d %d and %d %d behind %d", m, d, left, one, right, two, before)
			}
			before = right
		}
		for _, e := range goodEphemerides() {
			for _, d := range []int64{1, 7, m.Flat, m.Flat + 1, m.Half - 1, m.Half, e.Period / 2, e.Period/2 + 1, e.Period, 3*e.Period + 2} {
				for _, cycle := range []int64{-2, 0, 3, 1000} {
					middle := e.Epoch + cycle*e.Period
					if !isTime(middle-d) || !isTime(middle+d) {
						continue
					}
					left, one := impl.ModelMag(m, e, 9000, middle-d)
					right, two := impl.ModelMag(m, e, 9000, middle+d)
					if left != right || one != impl.OK || two != impl.OK {
						t.Errorf("%v %v at %d from %d: got %d %d and %d %d", m, e, d, middle, left, one, right, two)
					}
					pairs++
				}
			}
		}
	}
	if pairs < 10_000 {
		t.Errorf("only %d pairs", pairs)
	}
}

// TestAreaIsTheSumOfDrops takes depths for which no drop is rounded.
func TestAreaIsTheSumOfDrops(t *testing.T) {
	for half := int64(1); half <= 40; half++ {
		for flat := range half {
			m, sum := model((half-flat)*(1+(half+flat)%9), half, flat), int64(0)
			for offset := -half; offset <= half; offset++ {
				drop, _ := impl.DropAt(m, offset)
				sum += drop
			}
			area, code := impl.AreaOfModel(m)
			same(t, fmt.Sprint("area ", m), fmt.Sprint(sum, " 0"), area, code)
		}
	}
}

func modelMagOf(m impl.Model, e impl.Ephemeris, base, time int64) []any {
	mag, code := impl.ModelMag(m, e, base, time)
	return []any{mag, code}
}

func TestModelMag(t *testing.T) {
	m, short, e, far := exampleModel(), model(1000, 16, 14), ephemeris(100, 30), ephemeris(5000, 2000)
	for _, x := range []struct {
		m          impl.Model
		e          impl.Ephemeris
		base, time int64
		want       string
	}{
		// At an extremum, in the flat part, beside it and behind the eclipse.
		{m, far, 9000, 5000, "10000 0"}, {m, far, 9000, 5100, "10000 0"}, {m, far, 9000, 5101, "9995 0"}, {m, far, 9000, 5200, "9500 0"}, {m, far, 9000, 5299, "9005 0"}, {m, far, 9000, 5300, "9000 0"}, {m, far, 9000, 5999, "9000 0"}, {m, far, 9000, 6000, "9000 0"}, {m, far, 9000, 6001, "9000 0"},
		{m, far, 9000, 6700, "9000 0"}, {m, far, 9000, 6701, "9005 0"}, {m, far, 9000, 6800, "9500 0"}, {m, far, 9000, 6899, "9995 0"}, {m, far, 9000, 6900, "10000 0"}, {m, far, 9000, 7000, "10000 0"}, {m, ephemeris(0, 2000), 9000, 1800, "9500 0"}, {m, ephemeris(0, 2000), 9000, 200, "9500 0"},
		// Before the epoch.
		{m, far, 9000, 4900, "10000 0"}, {m, far, 9000, 4899, "9995 0"}, {m, far, 9000, 4800, "9500 0"}, {m, far, 9000, 4700, "9000 0"}, {m, far, 9000, 4000, "9000 0"}, {m, far, 9000, 3200, "9500 0"}, {m, far, 9000, 3101, "9995 0"}, {m, far, 9000, 3000, "10000 0"}, {m, far, 9000, 1000, "10000 0"}, {m, far, 9000, 800, "9500 0"}, {m, far, 9000, 0, "9000 0"},
		// Just half a period from two extrema, and beside it, on both sides of the epoch.
		{short, e, 9000, 114, "10000 0"}, {short, e, 9000, 115, "9500 0"}, {short, e, 9000, 116, "10000 0"}, {short, e, 9000, 84, "10000 0"}, {short, e, 9000, 85, "9500 0"}, {short, e, 9000, 86, "10000 0"}, {short, e, 9000, 55, "9500 0"}, {short, e, 9000, 145, "9500 0"}, {model(1000, 15, 14), e, 9000, 115, "9000 0"}, {model(1000, 15, 14), e, 9000, 85, "9000 0"},
		{model(1000, 15, 14), e, 9000, 114, "10000 0"}, {model(1000, 15, 14), e, 9000, 116, "10000 0"}, {model(1000, 16, 15), e, 9000, 115, "10000 0"}, {model(1000, 15, 0), e, 9000, 114, "9067 0"}, {model(1000, 15, 0), e, 9000, 116, "9067 0"}, {model(1000, 15, 0), e, 9000, 115, "9000 0"},
		// An odd period has no time just in the middle.
		{short, ephemeris(100, 31), 9000, 115, "9500 0"}, {short, ephemeris(100, 31), 9000, 116, "9500 0"}, {short, ephemeris(100, 31), 9000, 114, "10000 0"}, {short, ephemeris(100, 31), 9000, 117, "10000 0"}, {short, ephemeris(100, 31), 9000, 84, "9500 0"}, {short, ephemeris(100, 31), 9000, 85, "9500 0"},
		// Eclipses that reach beyond half a period, and flat parts that do.
		{model(1000, 100, 0), e, 9000, 100, "10000 0"}, {model(1000, 100, 0), e, 9000, 110, "9900 0"}, {model(1000, 100, 0), e, 9000, 115, "9850 0"}, {model(1000, 100, 0), e, 9000, 120, "9900 0"}, {model(1000, 100, 0), e, 9000, 90, "9900 0"}, {model(1000, 100, 0), e, 9000, 85, "9850 0"}, {model(1000, 100, 20), e, 9000, 115, "10000 0"}, {model(1000, 100, 14), e, 9000, 115, "9988 0"},
		{model(1000, 100, 15), e, 9000, 115, "10000 0"}, {model(5000, 1000000, 999999), e, 9000, 115, "14000 0"}, {model(5000, 1000000, 0), ephemeris(0, 1000000), 9000, 500000, "11500 0"}, {model(5000, 1000000, 0), ephemeris(0, 1000000), 9000, 999999, "14000 0"},
		// The least and the greatest period.
		{model(1000, 1, 0), ephemeris(100, 1), 9000, 115, "10000 0"}, {model(1000, 1, 0), ephemeris(100, 2), 9000, 115, "9000 0"}, {model(1000, 1, 0), ephemeris(100, 2), 9000, 114, "10000 0"}, {model(1000, 2, 0), ephemeris(100, 2), 9000, 115, "9500 0"}, {m, ephemeris(0, 1000000), 9000, 1000200, "9500 0"}, {m, ephemeris(0, 1000000), 9000, 500000, "9000 0"}, {m, ephemeris(0, 1000000), 9000, 9999800, "9500 0"},
		// The times 0 and MaxTime: at an extremum, and near to one that is no time itself.
		{m, ephemeris(0, 1000000), 9000, 0, "10000 0"}, {m, ephemeris(0, 1000000), 9000, 10000000, "10000 0"}, {m, ephemeris(10000000, 1000000), 9000, 0, "10000 0"}, {m, ephemeris(10000000, 1000000), 9000, 10000000, "10000 0"}, {m, ephemeris(200, 1000000), 9000, 0, "9500 0"}, {m, ephemeris(200, 1000000), 9000, 10000000, "9500 0"},
		{m, ephemeris(9999800, 1000000), 9000, 0, "9500 0"}, {m, ephemeris(9999800, 1000000), 9000, 10000000, "9500 0"}, {m, ephemeris(200, 1000000), 9000, 9999900, "9000 0"}, {m, ephemeris(9999800, 1000000), 9000, 1, "9495 0"}, {m, ephemeris(200, 1000000), 9000, 9999999, "9495 0"}, {m, ephemeris(500000, 1000000), 9000, 0, "9000 0"}, {m, ephemeris(500000, 1000000), 9000, 10000000, "9000 0"},
		// The base at its limits, and magnitudes greater than MaxMag.
		{m, far, -2000, 5000, "-1000 0"}, {m, far, -2000, 6000, "-2000 0"}, {m, far, 20000, 6000, "20000 0"}, {m, far, 20000, 5299, "20005 0"}, {m, far, 20000, 5000, "21000 0"}, {model(5000, 1, 0), far, 20000, 5000, "25000 0"}, {model(5000, 1, 0), far, -2000, 5000, "3000 0"}, {m, far, -1, 5000, "999 0"}, {m, far, 0, 5000, "1000 0"}, {m, far, 19001, 5000, "20001 0"},
		// Errors, and their order.
		{m, far, -2001, 5000, "0 2"}, {m, far, 20001, 5000, "0 2"}, {m, far, 9000, -1, "0 2"}, {m, far, 9000, 10000001, "0 2"}, {m, far, 20001, -1, "0 2"}, {m, far, math.MinInt64, 5000, "0 2"}, {m, far, math.MaxInt64, 5000, "0 2"}, {m, far, 9000, math.MinInt64, "0 2"}, {m, far, 9000, math.MaxInt64, "0 2"},
		{impl.Model{}, far, 9000, 5000, "0 1"}, {m, impl.Ephemeris{}, 9000, 5000, "0 1"}, {impl.Model{}, impl.Ephemeris{}, 9000, 5000, "0 1"}, {model(1000, 300, 300), far, 9000, 5000, "0 1"}, {m, ephemeris(-1, 30), 9000, 5000, "0 1"}, {m, ephemeris(10000001, 30), 9000, 5000, "0 1"}, {m, ephemeris(100, 1000001), 9000, 5000, "0 1"}, {m, ephemeris(100, -30), 9000, 5000, "0 1"},
		{impl.Model{}, far, 20001, 5000, "0 1"}, {impl.Model{}, far, 9000, -1, "0 1"}, {m, impl.Ephemeris{}, -2001, 5000, "0 1"}, {m, impl.Ephemeris{}, 9000, 10000001, "0 1"}, {model(math.MaxInt64, math.MaxInt64, 0), ephemeris(math.MinInt64, math.MinInt64), math.MaxInt64, math.MinInt64, "0 1"},
	} {
		same(t, fmt.Sprint("ModelMag ", x.m, x.e, x.base, x.time), x.want, twice(t, "ModelMag", func() []any { return modelMagOf(x.m, x.e, x.base, x.time) })...)
	}
}

// modelMagFor is for valid arguments.
func modelMagFor(m impl.Model, e impl.Ephemeris, base, time int64) int64 {
	_, phase := cycleAndPhase(e, time)
	return base + dropFor(m, min(phase, e.Period-phase))
}

func modelMagWanted(m impl.Model, e impl.Ephemeris, base, time int64) string {
	switch {
	case !isModel(m) || !isEphemeris(e):
		return "0 1"
	case !isMag(base) || !isTime(time):
		return "0 2"
	}
	return fmt.Sprint(modelMagFor(m, e, base, time), " 0")
}

func TestModelMagForAllArguments(t *testing.T) {
	check := func(m impl.Model, e impl.Ephemeris, base, time int64) {
		same(t, fmt.Sprint("ModelMag ", m, e, base, time), modelMagWanted(m, e, base, time), twice(t, "ModelMag", func() []any { return modelMagOf(m, e, base, time) })...)
	}
	for i, m := range slices.Concat(goodModels(), badModels()) {
		for k, e := range goodEphemerides() {
			for j, time := range append(timesAround(e), e.Epoch+m.Half, e.Epoch-m.Flat-1, e.Epoch+3*e.Period+m.Flat) {
				check(m, e, edgeMags[(i+k*3+j*5)%len(edgeMags)], time)
			}
			check(m, e, 9000, edgeTimes[(i+k)%len(edgeTimes)])
		}
		for k, e := range badEphemerides() {
			check(m, e, edgeMags[(i+k)%len(edgeMags)], edgeTimes[(i*3+k)%len(edgeTimes)])
		}
	}
	for _, base := range edgeMags {
		for _, time := range edgeTimes {
			check(exampleModel(), ephemeris(100, 30), base, time)
			check(model(5000, 1000000, 999999), ephemeris(5000, 1000000), base, time)
		}
	}
	// All small periods against a walk along the extrema.
	for period := int64(1); period <= 12; period++ {
		for time := range int64(60) {
			m, e, nearest := model(100, 7, 2), ephemeris(20+period%5, period), int64(math.MaxInt64)
			for middle := e.Epoch - 40*period; middle <= 200; middle += period {
				nearest = min(nearest, max(middle-time, time-middle))
			}
			same(t, fmt.Sprint("ModelMag ", m, e, time), fmt.Sprint(9000+dropFor(m, nearest), " 0"), modelMagOf(m, e, 9000, time)...)
		}
	}
}

func squaresFor(m impl.Model, e impl.Ephemeris, base int64, curve []impl.Point) *big.Int {
	sum := new(big.Int)
	for _, p := range curve {
		d := big.NewInt(p.Mag - modelMagFor(m, e, base, p.Time))
		sum.Add(sum, d.Mul(d, d))
	}
	return sum
}

func modelSquaresOf(m impl.Model, e impl.Ephemeris, base int64, curve []impl.Point) []any {
	squares, code := impl.ModelSquares(m, e, base, curve)
	return []any{squares, code}
}

func TestModelSquares(t *testing.T) {
	m, e, long := exampleModel(), ephemeris(0, 2000), model(5000, 1000000, 999999)
	for _, x := range []struct {
		m     impl.Model
		e     impl.Ephemeris
		base  int64
		curve []impl.Point
		want  string
	}{
		{m, e, 9000, points(200, 9500, 1000, 9010), "100 0"}, {m, e, 9000, points(200, 9500, 1000, 9000), "0 0"}, {m, e, 9000, points(200, 9503, 1000, 9004), "25 0"}, {m, e, 9000, points(200, 9497, 1000, 9004), "25 0"}, {m, e, 9000, points(200, 9497, 1000, 8996), "25 0"}, {m, e, 9000, points(0, 10000, 101, 9995, 300, 9001), "1 0"},
		// Around a later extremum and before the epoch.
		{m, e, 9000, points(1800, 9500, 1900, 10000, 2000, 10000, 2100, 10000, 2101, 9994), "1 0"}, {m, ephemeris(2000, 2000), 9000, points(0, 10001, 200, 9502, 1800, 9503), "14 0"},
		// No points, one, and the most.
		{m, e, 9000, nil, "0 0"}, {m, e, 9000, []impl.Point{}, "0 0"}, {m, e, 9000, points(0, 9000), "1000000 0"}, {m, e, 9000, points(1000, 9000), "0 0"}, {m, e, 9000, points(10000000, 9007), "986049 0"}, {m, e, 9000, evenCurve(100, 10000), "0 0"}, {m, e, 9000, evenCurve(100, 10001), "100 0"}, {m, e, 9000, evenCurve(101, 10001), "0 1"},
		{model(1000, 50, 49), ephemeris(0, 1000), 9000, evenCurve(100, 9000), "50000000 0"}, {model(1000, 50, 0), ephemeris(50, 1000), 9000, evenCurve(100, 9000), "33340000 0"},
		// The base at its limits, and model magnitudes greater than MaxMag.
		{m, e, -2000, points(0, -1000, 1000, -1999), "1 0"}, {m, e, 20000, points(0, 20000, 1000, 19999), "1000001 0"}, {model(5000, 1, 0), e, 20000, points(0, 20000), "25000000 0"}, {m, e, 20000, points(0, -2000), "529000000 0"}, {m, e, -2000, points(1000, 20000), "484000000 0"},
		{long, e, 20000, evenCurve(100, -2000), "72900000000 0"}, {long, e, 20000, evenCurve(1, -2000), "729000000 0"}, {model(1, 1, 0), e, -2000, evenCurve(100, 20000)[1:], "47916000000 0"},
		// Errors, and their order.
		{m, e, -2001, points(0, 9000), "0 2"}, {m, e, 20001, points(0, 9000), "0 2"}, {m, e, 20001, nil, "0 2"}, {m, e, math.MinInt64, nil, "0 2"}, {m, e, math.MaxInt64, points(0, 9000), "0 2"},
		{impl.Model{}, e, 9000, points(0, 9000), "0 1"}, {m, impl.Ephemeris{}, 9000, points(0, 9000), "0 1"}, {m, e, 9000, points(5, 1, 5, 1), "0 1"}, {m, e, 9000, points(6, 1, 5, 1), "0 1"}, {m, e, 9000, points(-1, 1), "0 1"}, {m, e, 9000, points(10000001, 1), "0 1"}, {m, e, 9000, points(5, 20001), "0 1"}, {m, e, 9000, points(5, -2001), "0 1"},
		{m, e, 9000, points(0, math.MinInt64, 1, math.MaxInt64), "0 1"}, {m, e, 9000, points(math.MinInt64, 0, math.MaxInt64, 0), "0 1"}, {impl.Model{}, e, 20001, nil, "0 1"}, {m, impl.Ephemeris{}, -2001, nil, "0 1"}, {m, e, 20001, points(5, 20001), "0 1"}, {impl.Model{}, impl.Ephemeris{}, math.MinInt64, points(-1, -2001), "0 1"},
		{model(1000, 300, 300), e, 9000, nil, "0 1"}, {m, ephemeris(0, 0), 9000, nil, "0 1"}, {m, ephemeris(-1, 30), 9000, nil, "0 1"}, {m, ephemeris(0, 1000001), 9000, nil, "0 1"},
	} {
		checkCurve(t, fmt.Sprint("ModelSquares ", x.m, x.e, x.base), x.curve, x.want, func(curve []impl.Point) []any { return modelSquaresOf(x.m, x.e, x.base, curve) })
	}
}

func TestModelSquaresForAllArguments(t *testing.T) {
	check := func(m impl.Model, e impl.Ephemeris, base int64, curve []impl.Point) {
		want := "0 1"
		if isModel(m) && isEphemeris(e) && isCurve(curve) {
			if want = "0 2"; isMag(base) {
				want = fmt.Sprint(squaresFor(m, e, base, curve), " 0")
			}
		}
		checkCurve(t, fmt.Sprint("ModelSquares ", m, e, base), curve, want, func(curve []impl.Point) []any { return modelSquaresOf(m, e, base, curve) })
	}
	models, bad, ephemerides, none := goodModels(), badModels(), goodEphemerides(), badEphemerides()
	for i, curve := range slices.Concat(goodCurves(), badCurves()) {
		for k, base := range edgeMags {
			m, e := models[(i+k*5)%len(models)], ephemerides[(i*3+k)%len(ephemerides)]
			check(m, e, base, curve)
			check(bad[(i+k)%len(bad)], e, base, curve)
			check(m, none[(i+k)%len(none)], base, curve)
		}
	}
}

// grid is a grid of some depths, halves and flats.
func grid(depths, halves, flats []int64) impl.Grid {
	return impl.Grid{Depths: depths, Halves: halves, Flats: flats}
}

func exampleGrid() impl.Grid { return grid([]int64{500, 1000}, []int64{300, 50}, []int64{100, 0}) }

// wideGrid has as many elements in its lists as told.
func wideGrid(depths, halves, flats int64) impl.Grid {
	return grid(listOf(1, 13, depths), listOf(30, 2, halves), listOf(0, 1, flats))
}

func isGrid(g impl.Grid) bool {
	ways := big.NewInt(int64(len(g.Depths)))
	ways.Mul(ways, big.NewInt(int64(len(g.Halves)))).Mul(ways, big.NewInt(int64(len(g.Flats))))
	return ways.Sign() > 0 && ways.Cmp(big.NewInt(300)) <= 0
}

func goodGrids() []impl.Grid {
	list := []impl.Grid{
		exampleGrid(), grid([]int64{1000}, []int64{300}, []int64{100}), grid([]int64{0}, []int64{0}, []int64{0}), grid([]int64{1}, []int64{1}, []int64{0}), grid([]int64{5000}, []int64{1000000}, []int64{999999}),
		grid([]int64{1000, 1000}, []int64{300, 300}, []int64{100, 100}), grid([]int64{1000, 500}, []int64{300, 200, 100}, []int64{50, 0}), grid([]int64{500, 1000, 500}, []int64{16, 300, 15}, []int64{14, 15, 0, 14}),
		grid(edgeDepths, []int64{300}, []int64{100}), grid([]int64{1000}, edgeHalves, []int64{0, 100}), grid([]int64{1000}, []int64{300, 1000000}, edgeHalves), grid(numbers(1000), numbers(300), []int64{100, -1}), grid(extremes, []int64{300, -300, math.MinInt64}, extremes), grid([]int64{1000}, extremes, extremes),
		// Just MaxGrid ways, and one less.
		wideGrid(300, 1, 1), wideGrid(1, 300, 1), wideGrid(1, 1, 300), wideGrid(10, 10, 3), wideGrid(3, 10, 10), wideGrid(2, 150, 1), wideGrid(1, 3, 100), wideGrid(4, 5, 15), wideGrid(299, 1, 1), wideGrid(13, 23, 1), wideGrid(1, 13, 23), wideGrid(23, 1, 13),
	}
	r := rand.New(rand.NewPCG(14, 2))
	for i := range 60 {
		some := func(numbers ...int64) []int64 {
			own := []int64{}
			for range 1 + r.IntN(6) {
				own = append(own, numbers[r.IntN(len(numbers))])
			}
			return own
		}
		depths, halves, flats := some(-1, 0, 1, 2, 100, 500, 1000, 5000, 5001), some(0, 1, 3, 16, 100, 300, 1000, 500000, 1000000, 1000001), some(-1, 0, 1, 2, 15, 99, 100, 200, 300, 499999)
		if i%2 == 0 {
			slices.Sort(halves)
		}
		list = append(list, grid(depths, halves, flats))
	}
	return list
}

// badGrids have a list without elements, or more than MaxGrid ways.
func badGrids() []impl.Grid {
	one, most := []int64{1000}, listOf(1, 1, 300)
	return []impl.Grid{
		{}, grid([]int64{}, []int64{}, []int64{}), grid(nil, one, one), grid(one, nil, one), grid(one, one, nil), grid(one, []int64{}, one), grid(nil, nil, one), grid(one, nil, nil), grid(nil, one, nil), grid(nil, most, most), grid(most, nil, most), grid(most, most, nil),
		wideGrid(301, 1, 1), wideGrid(1, 301, 1), wideGrid(1, 1, 301), wideGrid(7, 43, 1), wideGrid(43, 1, 7), wideGrid(1, 7, 43), wideGrid(2, 2, 76), wideGrid(10, 10, 4), wideGrid(300, 2, 1), wideGrid(300, 1, 2), wideGrid(1, 2, 300), wideGrid(300, 300, 300), wideGrid(17, 18, 1), wideGrid(301, 0, 1), wideGrid(0, 301, 1),
		grid(slices.Repeat([]int64{0}, 301), []int64{0}, []int64{0}), grid([]int64{0}, slices.Repeat([]int64{math.MinInt64}, 301), []int64{0}), grid([]int64{0}, []int64{0}, slices.Repeat([]int64{math.MaxInt64}, 301)),
	}
}

// keepGrid is keep for the three lists of a grid.
func keepGrid(t *testing.T, name string, g impl.Grid, f func(g impl.Grid)) {
	t.Helper()
	keepList(t, name, g.Depths, func(depths []int64) {
		t.Helper()
		keepList(t, name, g.Halves, func(halves []int64) {
			t.Helper()
			keepList(t, name, g.Flats, func(flats []int64) {
				t.Helper()
				f(grid(depths, halves, flats))
			})
		})
	})
}

// checkModels checks the models of a grid, which must not be changed.
func checkModels(t *testing.T, g impl.Grid, want string) {
	t.Helper()
	keepGrid(t, "ModelsOf", g, func(g impl.Grid) {
		t.Helper()
		same(t, fmt.Sprint("ModelsOf ", g), want, twice(t, "ModelsOf", func() []any {
			models, code := impl.ModelsOf(g)
			return []any{models, code}
		})...)
	})
}

func TestModelsOf(t *testing.T) {
	one := []int64{1000}
	for _, x := range []struct {
		g    impl.Grid
		want string
	}{
		{grid(one, []int64{300, 50}, []int64{100}), "[{1000 300 100}] 0"}, {grid(one, []int64{300}, []int64{100}), "[{1000 300 100}] 0"},
		// The last list goes fastest, and the first one slowest.
		{exampleGrid(), "[{500 300 100} {500 300 0} {500 50 0} {1000 300 100} {1000 300 0} {1000 50 0}] 0"}, {grid([]int64{1, 2}, []int64{3, 4}, []int64{0, 1}), "[{1 3 0} {1 3 1} {1 4 0} {1 4 1} {2 3 0} {2 3 1} {2 4 0} {2 4 1}] 0"},
		// Equal numbers, and falling ones.
		{grid([]int64{2, 1}, []int64{4, 3}, []int64{1, 0}), "[{2 4 1} {2 4 0} {2 3 1} {2 3 0} {1 4 1} {1 4 0} {1 3 1} {1 3 0}] 0"}, {grid([]int64{7, 7}, []int64{3}, []int64{0, 0}), "[{7 3 0} {7 3 0} {7 3 0} {7 3 0}] 0"}, {grid([]int64{7}, []int64{3, 3}, []int64{0}), "[{7 3 0} {7 3 0}] 0"},
		{grid([]int64{7}, []int64{3, 5, 3}, []int64{1, 0, 1}), "[{7 3 1} {7 3 0} {7 3 1} {7 5 1} {7 5 0} {7 5 1} {7 3 1} {7 3 0} {7 3 1}] 0"},
		// Models that are not valid among them, or all of them.
		{grid([]int64{0, 1, 5000, 5001}, []int64{300}, []int64{100}), "[{1 300 100} {5000 300 100}] 0"}, {grid(one, []int64{0, 1, 1000000, 1000001}, []int64{0}), "[{1000 1 0} {1000 1000000 0}] 0"}, {grid(one, []int64{300}, []int64{-1, 0, 299, 300, 301}), "[{1000 300 0} {1000 300 299}] 0"}, {grid(one, []int64{1, 2, 3}, []int64{2, 1, 0}), "[{1000 1 0} {1000 2 1} {1000 2 0} {1000 3 2} {1000 3 1} {1000 3 0}] 0"},
		{grid([]int64{0}, []int64{300}, []int64{100}), "[] 0"}, {grid(one, []int64{0}, []int64{0}), "[] 0"}, {grid(one, []int64{100}, []int64{100, 200}), "[] 0"}, {grid([]int64{math.MaxInt64, 1000, math.MinInt64}, []int64{math.MinInt64, 300, math.MaxInt64}, []int64{math.MinInt64, 100, math.MaxInt64}), "[{1000 300 100}] 0"}, {grid(extremes, []int64{math.MinInt64}, extremes), "[] 0"},
		// Just MaxGrid ways and one more, also if all of these models are left out.
		{grid(one, []int64{1}, listOf(0, 1, 300)), "[{1000 1 0}] 0"}, {grid(one, []int64{1}, listOf(0, 1, 301)), "[] 1"}, {grid(one, listOf(-298, 1, 300), []int64{0}), "[{1000 1 0}] 0"}, {grid(one, listOf(-298, 1, 301), []int64{0}), "[] 1"}, {grid(listOf(-298, 1, 300), []int64{1}, []int64{0}), "[{1 1 0}] 0"}, {grid(listOf(-298, 1, 301), []int64{1}, []int64{0}), "[] 1"},
		{grid(slices.Repeat([]int64{0}, 300), []int64{1}, []int64{0}), "[] 0"}, {grid(slices.Repeat([]int64{0}, 301), []int64{1}, []int64{0}), "[] 1"}, {grid(listOf(-5, 1, 7), listOf(-41, 1, 43), []int64{0}), "[] 1"}, {grid(listOf(-5, 1, 6), listOf(-48, 1, 50), []int64{0}), "[] 0"},
		// A list without elements.
		{impl.Grid{}, "[] 1"}, {grid([]int64{}, []int64{}, []int64{}), "[] 1"}, {grid(nil, []int64{300}, []int64{100}), "[] 1"}, {grid(one, nil, []int64{100}), "[] 1"}, {grid(one, []int64{300}, nil), "[] 1"}, {grid([]int64{}, []int64{300}, []int64{100}), "[] 1"}, {grid(one, []int64{}, []int64{100}), "[] 1"}, {grid(one, []int64{300}, []int64{}), "[] 1"},
	} {
		checkModels(t, x.g, x.want)
	}
}

// modelsFor counts through all ways of a valid grid, and takes them apart from the last list on.
func modelsFor(g impl.Grid) []impl.Model {
	models := []impl.Model{}
	for way := range len(g.Depths) * len(g.Halves) * len(g.Flats) {
		rest := way / len(g.Flats)
		if m := model(g.Depths[rest/len(g.Halves)], g.Halves[rest%len(g.Halves)], g.Flats[way%len(g.Flats)]); isModel(m) {
			models = append(models, m)
		}
	}
	return models
}

func TestModelsOfForAllArguments(t *testing.T) {
	for _, g := range goodGrids() {
		if !isGrid(g) {
			t.Errorf("no grid: %v", g)
		}
		checkModels(t, g, fmt.Sprint(modelsFor(g), " 0"))
	}
	for _, g := range badGrids() {
		if isGrid(g) {
			t.Errorf("a grid: %v", g)
		}
		checkModels(t, g, "[] 1")
	}
	// All lengths of small lists, and those with a number of ways near to MaxGrid.
	for depths := range int64(22) {
		for halves := range int64(22) {
			for flats := range int64(4) {
				g, want := wideGrid(depths, halves, flats), "[] 1"
				if isGrid(g) {
					want = fmt.Sprint(modelsFor(g), " 0")
				}
				checkModels(t, g, want)
			}
		}
	}
}

// TestGridsWithVeryLongLists takes numbers of ways that are 0, or less than it, in 64 bits.
func TestGridsWithVeryLongLists(t *testing.T) {
	long := make([]int64, 1<<22)
	for _, count := range [][3]int{{1 << 22, 1 << 22, 1 << 22}, {1 << 22, 1 << 21, 1 << 21}, {1 << 21, 1 << 21, 1 << 21}, {1 << 22, 1 << 21, 1 << 20}, {1, 1 << 22, 1 << 22}, {1 << 22, 1, 1}} {
		g := grid(long[:count[0]], long[:count[1]], long[:count[2]])
		models, one := impl.ModelsOf(g)
		m, two := impl.BestModel(g, ephemeris(100, 30), 9000, exampleCurve())
		same(t, fmt.Sprint("a grid with lists of ", count), "[] 1 {0 0 0} 1", models, one, m, two)
	}
}

// checkBest checks the best model, for a grid and a curve that must not be changed.
func checkBest(t *testing.T, g impl.Grid, e impl.Ephemeris, base int64, curve []impl.Point, want string) {
	t.Helper()
	keepGrid(t, "BestModel", g, func(g impl.Grid) {
		t.Helper()
		checkCurve(t, fmt.Sprint("BestModel ", g, e, base), curve, want, func(curve []impl.Point) []any {
			m, code := impl.BestModel(g, e, base, curve)
			return []any{m, code}
		})
	})
}

func TestBestModel(t *testing.T) {
	e, one := ephemeris(0, 2000), []int64{1000}
	depths, halves, flats := []int64{500, 750, 1000}, []int64{200, 300, 400}, []int64{0, 100, 150, 200}
	none := grid([]int64{0}, []int64{300}, []int64{100})
	for _, x := range []struct {
		g     impl.Grid
		e     impl.Ephemeris
		base  int64
		curve []impl.Point
		want  string
	}{
		{grid([]int64{500, 1000}, []int64{300}, []int64{100}), e, 9000, points(200, 9500, 1000, 9010), "{1000 300 100} 0"}, {grid(depths, halves, flats), e, 9000, points(0, 9750, 100, 9750, 200, 9375, 300, 9000), "{750 300 100} 0"}, {grid(depths, halves, flats), e, 9000, points(0, 10000, 100, 9750, 200, 9500, 300, 9250, 400, 9000), "{1000 400 0} 0"},
		// The only one, which need not be near, and the first and the last one of several.
		{grid(one, []int64{300}, []int64{100}), e, 9000, points(0, -2000), "{1000 300 100} 0"}, {grid([]int64{1000, 900, 800}, []int64{300}, []int64{100}), e, 9000, points(0, 10001), "{1000 300 100} 0"}, {grid([]int64{800, 900, 1000}, []int64{300}, []int64{100}), e, 9000, points(0, 10001), "{1000 300 100} 0"}, {grid([]int64{800, 900, 1000}, []int64{300}, []int64{100}), e, 9000, points(0, 9890), "{900 300 100} 0"},
		// Several models with the same sum of squares: outside of all eclipses, in the flat part of all, at one drop, and on both sides of the curve.
		{grid(depths, halves, flats), e, 9000, points(1000, 9000), "{500 200 0} 0"}, {grid(depths, halves, flats), e, 9000, points(600, 8000, 1000, 9123), "{500 200 0} 0"}, {grid(one, halves, flats), e, 9000, points(0, 9990), "{1000 200 0} 0"}, {grid(one, []int64{300, 400, 200}, []int64{150, 100}), e, 9000, points(0, 10000, 90, 10007), "{1000 300 150} 0"},
		{grid(depths, []int64{300}, []int64{100, 150, 200}), e, 9000, points(200, 9500), "{500 300 200} 0"}, {grid([]int64{1000, 750, 500}, []int64{300}, []int64{100, 150, 200}), e, 9000, points(200, 9500), "{1000 300 100} 0"}, {grid([]int64{750, 1000, 500}, []int64{300}, []int64{200, 150, 100}), e, 9000, points(200, 9500), "{750 300 150} 0"},
		{grid([]int64{900, 1100}, []int64{300}, []int64{100}), e, 9000, points(0, 10000), "{900 300 100} 0"}, {grid([]int64{1100, 900}, []int64{300}, []int64{100}), e, 9000, points(0, 10000), "{1100 300 100} 0"}, {grid([]int64{1200, 1100, 900, 1100}, []int64{300}, []int64{100}), e, 9000, points(0, 10000), "{1100 300 100} 0"},
		{grid([]int64{900, 1100}, []int64{300}, []int64{100}), e, 9000, points(0, 10000, 50, 10000, 1000, 9500), "{900 300 100} 0"}, {grid([]int64{900, 1100}, []int64{300}, []int64{100}), e, 9000, points(0, 10000, 50, 10001, 1000, 9500), "{1100 300 100} 0"},
		// Sums that are less before the last point, but not in the end.
		{grid([]int64{1000, 500}, []int64{300}, []int64{100}), e, 9000, points(0, 9800, 2000, 9700, 4000, 9600), "{500 300 100} 0"}, {grid([]int64{500, 1000}, []int64{300}, []int64{100}), e, 9000, points(0, 10000, 2000, 9500, 4000, 9500), "{500 300 100} 0"}, {grid([]int64{500, 1000}, []int64{300}, []int64{100}), e, 9000, points(0, 9500, 2000, 10000, 4000, 10000), "{1000 300 100} 0"},
		{grid([]int64{500, 1000}, []int64{300}, []int64{100}), e, 9000, points(0, 10000, 2000, 9500), "{500 300 100} 0"}, {grid([]int64{1000, 500}, []int64{300}, []int64{100}), e, 9000, points(0, 10000, 2000, 9500), "{1000 300 100} 0"},
		// Equal and falling numbers, and models that are not valid among them.
		{grid([]int64{1000, 1000}, []int64{300, 300}, []int64{100, 100}), e, 9000, points(0, 10000), "{1000 300 100} 0"}, {grid([]int64{0, 5001, 1000}, []int64{0, 300, 1000001}, []int64{-1, 300, 100}), e, 9000, points(0, 9000), "{1000 300 100} 0"}, {grid(numbers(1), numbers(300), []int64{100}), e, 9000, points(0, 9000), "{1 300 100} 0"},
		// The base at its limits, the least and the greatest numbers.
		{grid([]int64{500, 1000}, []int64{300}, []int64{100}), e, 20000, points(0, 20000), "{500 300 100} 0"}, {grid([]int64{1000, 500}, []int64{300}, []int64{100}), e, -2000, points(0, -1000), "{1000 300 100} 0"}, {grid([]int64{5000}, []int64{1000000}, []int64{999999}), e, 20000, evenCurve(100, -2000), "{5000 1000000 999999} 0"}, {grid([]int64{5000, 4999}, []int64{1000000}, []int64{999999}), e, 20000, evenCurve(100, -2000), "{4999 1000000 999999} 0"},
		{grid([]int64{1, 2}, []int64{1}, []int64{0}), e, 9000, points(0, 9002), "{2 1 0} 0"}, {wideGrid(300, 1, 1), e, 9000, points(0, 12888), "{3888 30 0} 0"}, {wideGrid(1, 300, 1), e, 9000, points(314, 9001), "{1 628 0} 0"}, {wideGrid(1, 1, 300), e, 9000, points(29, 9001), "{1 30 28} 0"},
		// No valid model, no points, or neither.
		{none, e, 9000, points(0, 9000), "{0 0 0} 3"}, {exampleGrid(), e, 9000, nil, "{0 0 0} 3"}, {exampleGrid(), e, 9000, []impl.Point{}, "{0 0 0} 3"}, {none, e, 9000, nil, "{0 0 0} 3"}, {grid(one, []int64{100}, []int64{100}), e, 9000, points(0, 9000), "{0 0 0} 3"}, {grid(extremes, extremes, []int64{0, 100}), e, 9000, points(0, 9000), "{0 0 0} 3"},
		// Errors, and their order.
		{exampleGrid(), e, -2001, points(0, 9000), "{0 0 0} 2"}, {exampleGrid(), e, 20001, points(0, 9000), "{0 0 0} 2"}, {exampleGrid(), e, 20001, nil, "{0 0 0} 2"}, {none, e, -2001, points(0, 9000), "{0 0 0} 2"}, {none, e, math.MaxInt64, nil, "{0 0 0} 2"}, {exampleGrid(), e, math.MinInt64, points(0, 9000), "{0 0 0} 2"},
		{impl.Grid{}, e, 9000, points(0, 9000), "{0 0 0} 1"}, {grid(one, []int64{300}, nil), e, 9000, points(0, 9000), "{0 0 0} 1"}, {wideGrid(7, 43, 1), e, 9000, points(0, 9000), "{0 0 0} 1"}, {wideGrid(1, 301, 1), e, 9000, points(0, 9000), "{0 0 0} 1"}, {exampleGrid(), impl.Ephemeris{}, 9000, points(0, 9000), "{0 0 0} 1"}, {exampleGrid(), ephemeris(-1, 30), 9000, points(0, 9000), "{0 0 0} 1"},
		{exampleGrid(), ephemeris(0, 1000001), 9000, points(0, 9000), "{0 0 0} 1"}, {exampleGrid(), e, 9000, points(5, 1, 5, 1), "{0 0 0} 1"}, {exampleGrid(), e, 9000, points(6, 1, 5, 1), "{0 0 0} 1"}, {exampleGrid(), e, 9000, points(5, 20001), "{0 0 0} 1"}, {exampleGrid(), e, 9000, evenCurve(101, 9000), "{0 0 0} 1"}, {exampleGrid(), e, 9000, points(0, math.MinInt64, 1, math.MaxInt64), "{0 0 0} 1"},
		{impl.Grid{}, e, 20001, nil, "{0 0 0} 1"}, {impl.Grid{}, e, 9000, nil, "{0 0 0} 1"}, {exampleGrid(), impl.Ephemeris{}, 20001, nil, "{0 0 0} 1"}, {exampleGrid(), impl.Ephemeris{}, 9000, nil, "{0 0 0} 1"}, {none, impl.Ephemeris{}, 9000, nil, "{0 0 0} 1"}, {none, e, 20001, points(-1, 1), "{0 0 0} 1"}, {none, e, 9000, points(-1, 1), "{0 0 0} 1"},
		{impl.Grid{}, ephemeris(math.MinInt64, math.MinInt64), math.MinInt64, points(math.MinInt64, math.MinInt64), "{0 0 0} 1"},
	} {
		checkBest(t, x.g, x.e, x.base, x.curve, x.want)
	}
}

// bestFor sorts all models by their sums of squares.
func bestFor(g impl.Grid, e impl.Ephemeris, base int64, curve []impl.Point) string {
	switch {
	case !isGrid(g) || !isEphemeris(e) || !isCurve(curve):
		return "{0 0 0} 1"
	case !isMag(base):
		return "{0 0 0} 2"
	}
	models := modelsFor(g)
	if len(models) == 0 || len(curve) == 0 {
		return "{0 0 0} 3"
	}
	squares := map[impl.Model]*big.Int{}
	for _, m := range models {
		squares[m] = squaresFor(m, e, base, curve)
	}
	sort.SliceStable(models, func(i, k int) bool { return squares[models[i]].Cmp(squares[models[k]]) < 0 })
	return fmt.Sprint(models[0], " 0")
}

func TestBestModelForAllArguments(t *testing.T) {
	codes := map[string]int{}
	check := func(g impl.Grid, e impl.Ephemeris, base int64, curve []impl.Point) {
		want := bestFor(g, e, base, curve)
		checkBest(t, g, e, base, curve, want)
		codes[want[len(want)-1:]]++
	}
	grids, curves, ephemerides, none := slices.Concat(goodGrids(), badGrids()), slices.Concat(goodCurves(), badCurves()), goodEphemerides(), badEphemerides()
	for i, g := range grids {
		for k, base := range edgeMags {
			check(g, ephemerides[(i*3+k)%len(ephemerides)], base, curves[(i+k*7)%len(curves)])
			check(g, none[(i+k)%len(none)], base, curves[(i*5+k)%len(curves)])
		}
		if !isGrid(g) {
			continue
		}
		// Near to models of the grid.
		for k, m := range modelsFor(g) {
			if e := ephemerides[(i+k*7)%len(ephemerides)]; k%5 == 0 && k < 40 {
				check(g, e, 9000, rough(curveOfModel(m, e, 9000, uint64(k)), int64(k/5)))
			}
		}
	}
	if codes["0"] < 500 || codes["1"] < 500 || codes["2"] < 200 || codes["3"] < 20 {
		t.Errorf("only few models of a kind: %v", codes)
	}
}

// curveOfModel has points with the magnitudes of a model, among them some around its contacts.
func curveOfModel(m impl.Model, e impl.Ephemeris, base int64, seed uint64) []impl.Point {
	r := rand.New(rand.NewPCG(14, seed))
	times := map[int64]bool{}
	for range 40 {
		middle := e.Epoch + (r.Int64N(12)-6)*e.Period
		for _, d := range []int64{0, m.Flat + r.Int64N(3), -m.Flat - r.Int64N(3), m.Half - r.Int64N(3), r.Int64N(m.Half+1) - m.Half/2, r.Int64N(e.Period)} {
			if time := middle + d; isTime(time) && len(times) < 100 {
				times[time] = true
			}
		}
	}
	var curve []impl.Point
	for time := range times {
		curve = append(curve, impl.Point{Time: time, Mag: modelMagFor(m, e, base, time)})
	}
	slices.SortFunc(curve, func(a, b impl.Point) int { return int(a.Time - b.Time) })
	return curve
}

// rough has magnitudes that differ by at most by.
func rough(curve []impl.Point, by int64) []impl.Point {
	list := slices.Clone(curve)
	for i := range list {
		list[i].Mag += int64(i)*7%(2*by+1) - by
	}
	return list
}

// TestCurvesOfModelsAreFitted is the second half of promise 14: without any difference, and with
// the squares of those that are there.
func TestCurvesOfModelsAreFitted(t *testing.T) {
	fits, models := 0, goodModels()
	for i, e := range goodEphemerides() {
		for k, m := range models {
			base := []int64{-2000, 0, 9000, 15000}[(i+k)%4]
			curve := curveOfModel(m, e, base, uint64(i*100+k))
			squares, one := impl.ModelSquares(m, e, base, curve)
			same(t, fmt.Sprint("squares of the curve of ", m, e), "0 0", squares, one)
			// The model is the first, the middle and the last one of its grid.
			lists := [][]int64{{m.Depth, m.Depth%5000 + 1, 5001}, {m.Half, m.Half%1_000_000 + 1}, {m.Flat, m.Flat / 2}}
			for turn := range 3 {
				g := grid(turned(lists[0], turn), turned(lists[1], turn), turned(lists[2], turn))
				best, code := impl.BestModel(g, e, base, curve)
				squares, _ := impl.ModelSquares(best, e, base, curve)
				if code != impl.OK || squares != 0 {
					t.Errorf("%v %v %d %v: got %v %d with the squares %d", g, e, base, curve, best, code, squares)
				}
				for _, before := range modelsFor(g) {
					if before == best {
						break
					}
					if squaresFor(before, e, base, curve).Sign() == 0 {
						t.Errorf("%v %v %d %v: got %v behind %v", g, e, base, curve, best, before)
					}
				}
			}
			if len(curve) > 20 {
				fits++
			}
			for j := range curve {
				if curve[j].Mag > 9000 {
					curve[j].Mag -= 3
				} else {
					curve[j].Mag += 3
				}
			}
			squares, one = impl.ModelSquares(m, e, base, curve)
			same(t, fmt.Sprint("squares beside the curve of ", m, e), fmt.Sprint(9*len(curve), " 0"), squares, one)
		}
	}
	if fits < 1000 {
		t.Errorf("only %d fits", fits)
	}
}

// turned begins with another element.
func turned(list []int64, by int) []int64 {
	by %= len(list)
	return slices.Concat(list[by:], list[:by])
}

// courseOf returns what the functions of a model, an ephemeris and a cycle return: the contacts and the share.
func courseOf(m impl.Model, e impl.Ephemeris, cycle int64) []any {
	contacts, one := impl.ContactsOf(m, e, cycle)
	share, two := impl.EclipsedShare(m, e)
	return []any{contacts, one, share, two}
}

func TestContactsAndShares(t *testing.T) {
	m, e, none := exampleModel(), ephemeris(100, 2000), "[] 1 {0 0} 1"
	for _, x := range []struct {
		m     impl.Model
		e     impl.Ephemeris
		cycle int64
		want  string // the contacts and the share, each with its code
	}{
		{m, ephemeris(0, 2000), 1, "[1700 1900 2100 2300] 0 {3 10} 0"}, {m, e, 0, "[-200 0 200 400] 0 {3 10} 0"}, {m, e, 1, "[1800 2000 2200 2400] 0 {3 10} 0"}, {m, e, 7, "[13800 14000 14200 14400] 0 {3 10} 0"},
		// Flat 0, and no times between the flat part and the end.
		{model(1000, 300, 0), e, 1, "[1800 2100 2100 2400] 0 {3 10} 0"}, {model(1000, 1, 0), e, 1, "[2099 2100 2100 2101] 0 {1 1000} 0"}, {model(1, 300, 299), e, 1, "[1800 1801 2399 2400] 0 {3 10} 0"},
		// Contacts before 0 and beyond MaxTime.
		{m, e, -1, "[-2200 -2000 -1800 -1600] 0 {3 10} 0"}, {m, ephemeris(299, 2000), 0, "[-1 199 399 599] 0 {3 10} 0"}, {m, ephemeris(300, 2000), 0, "[0 200 400 600] 0 {3 10} 0"}, {m, ephemeris(10000000, 2000), 0, "[9999700 9999900 10000100 10000300] 0 {3 10} 0"}, {m, ephemeris(9999700, 2000), 0, "[9999400 9999600 9999800 10000000] 0 {3 10} 0"}, {m, ephemeris(10000000, 2000), 1, "[10001700 10001900 10002100 10002300] 0 {3 10} 0"},
		// Cycles at the ends of their range, and one beyond each.
		{m, e, 10000, "[19999800 20000000 20000200 20000400] 0 {3 10} 0"}, {m, e, -10000, "[-20000200 -20000000 -19999800 -19999600] 0 {3 10} 0"}, {m, e, 10001, "[] 2 {3 10} 0"}, {m, e, -10001, "[] 2 {3 10} 0"}, {m, e, math.MaxInt64, "[] 2 {3 10} 0"}, {m, e, math.MinInt64, "[] 2 {3 10} 0"},
		{model(1, 1000000, 999999), ephemeris(10000000, 1000000), 10000, "[10009000000 10009000001 10010999999 10011000000] 0 {1 1} 0"}, {model(5000, 1000000, 999999), ephemeris(0, 1000000), -10000, "[-10001000000 -10000999999 -9999000001 -9999000000] 0 {1 1} 0"}, {model(1, 1, 0), ephemeris(0, 1), -10000, "[-10001 -10000 -10000 -9999] 0 {1 1} 0"}, {model(1, 1, 0), ephemeris(10000000, 1), 10000, "[10009999 10010000 10010000 10010001] 0 {1 1} 0"},
		// Shares below 1, of just 1 and such as would be more, in lowest terms.
		{m, ephemeris(100, 602), 0, "[-200 0 200 400] 0 {300 301} 0"}, {m, ephemeris(100, 601), 0, "[-200 0 200 400] 0 {600 601} 0"}, {m, ephemeris(100, 600), 0, "[-200 0 200 400] 0 {1 1} 0"}, {m, ephemeris(100, 599), 0, "[-200 0 200 400] 0 {1 1} 0"}, {m, ephemeris(100, 300), 0, "[-200 0 200 400] 0 {1 1} 0"}, {m, ephemeris(100, 1), 0, "[-200 0 200 400] 0 {1 1} 0"}, {m, ephemeris(100, 1200), 0, "[-200 0 200 400] 0 {1 2} 0"},
		{m, ephemeris(100, 900), 0, "[-200 0 200 400] 0 {2 3} 0"}, {m, ephemeris(100, 6000), 0, "[-200 0 200 400] 0 {1 10} 0"}, {m, ephemeris(100, 7001), 0, "[-200 0 200 400] 0 {600 7001} 0"}, {m, ephemeris(100, 1000000), 0, "[-200 0 200 400] 0 {3 5000} 0"}, {model(1, 1, 0), ephemeris(5, 1000000), 0, "[4 5 5 6] 0 {1 500000} 0"}, {model(1, 1, 0), ephemeris(5, 999999), 0, "[4 5 5 6] 0 {2 999999} 0"},
		{model(1, 1, 0), ephemeris(5, 2), 0, "[4 5 5 6] 0 {1 1} 0"}, {model(1, 1, 0), ephemeris(5, 3), 0, "[4 5 5 6] 0 {2 3} 0"}, {model(1, 1, 0), ephemeris(5, 1), 0, "[4 5 5 6] 0 {1 1} 0"}, {model(1, 500000, 0), ephemeris(500000, 1000000), 0, "[0 500000 500000 1000000] 0 {1 1} 0"}, {model(1, 499999, 0), ephemeris(500000, 1000000), 0, "[1 500000 500000 999999] 0 {499999 500000} 0"}, {model(1, 1000000, 0), ephemeris(0, 1000000), 1, "[0 1000000 1000000 2000000] 0 {1 1} 0"},
		// Models or an ephemeris that are not valid, alone and with cycles beyond their range.
		{impl.Model{}, e, 0, none}, {model(0, 300, 100), e, 0, none}, {model(5001, 300, 100), e, 0, none}, {model(1000, 300, 300), e, 0, none}, {model(1000, 300, -1), e, 0, none}, {model(1000, 1000001, 0), e, 0, none}, {m, impl.Ephemeris{}, 0, none}, {m, ephemeris(-1, 30), 0, none}, {m, ephemeris(10000001, 30), 0, none}, {m, ephemeris(100, 0), 0, none}, {m, ephemeris(100, 1000001), 0, none},
		{impl.Model{}, impl.Ephemeris{}, 0, none}, {impl.Model{}, e, 10001, none}, {m, impl.Ephemeris{}, -10001, none}, {model(1000, 300, 300), ephemeris(100, -30), math.MinInt64, none}, {model(math.MinInt64, math.MinInt64, math.MinInt64), ephemeris(math.MinInt64, math.MinInt64), math.MinInt64, none}, {model(math.MaxInt64, math.MaxInt64, math.MaxInt64), ephemeris(math.MaxInt64, math.MaxInt64), math.MaxInt64, none},
	} {
		same(t, fmt.Sprint("course ", x.m, x.e, x.cycle), x.want, twice(t, "course", func() []any { return courseOf(x.m, x.e, x.cycle) })...)
	}
}

func courseWanted(m impl.Model, e impl.Ephemeris, cycle int64) string {
	if !isModel(m) || !isEphemeris(e) {
		return "[] 1 {0 0} 1"
	}
	contacts := "[] 2"
	if isCycle(cycle) {
		times := []*big.Int{}
		for _, d := range []int64{-m.Half, -m.Flat, m.Flat, m.Half} {
			at := new(big.Int).Mul(big.NewInt(cycle), big.NewInt(e.Period))
			times = append(times, at.Add(at, big.NewInt(e.Epoch)).Add(at, big.NewInt(d)))
		}
		contacts = fmt.Sprint(times, " 0")
	}
	share := big.NewRat(m.Half, e.Period)
	if share.Add(share, share).Cmp(ratOf(1)) > 0 {
		share = ratOf(1)
	}
	return contacts + " " + fractionText(share)
}

func TestContactsAndSharesForAllArguments(t *testing.T) {
	for i, m := range slices.Concat(goodModels(), badModels()) {
		for k, e := range append(slices.Concat(goodEphemerides(), badEphemerides()), ephemeris(100, 2*m.Half-1), ephemeris(100, 2*m.Half), ephemeris(100, 2*m.Half+1), ephemeris(7, 3*m.Half), ephemeris(7, m.Half)) {
			for _, cycle := range []int64{edgeCycles[(i+k)%len(edgeCycles)], edgeCycles[(i*3+k*5)%len(edgeCycles)], int64(i - k)} {
				same(t, fmt.Sprint("course ", m, e, cycle), courseWanted(m, e, cycle), twice(t, "course", func() []any { return courseOf(m, e, cycle) })...)
			}
		}
	}
}

// TestContactsAreWhereTheDropChanges looks at the times beside contacts.
func TestContactsAreWhereTheDropChanges(t *testing.T) {
	for _, m := range []impl.Model{exampleModel(), model(1000, 4, 0), model(5000, 101, 100), model(5000, 600, 599)} {
		for _, e := range []impl.Ephemeris{ephemeris(5000, 2000), ephemeris(100000, 1201), ephemeris(0, 50000)} {
			for _, cycle := range []int64{1, 2, 3} {
				contacts, _ := impl.ContactsOf(m, e, cycle)
				drop := func(time int64) int64 {
					mag, _ := impl.ModelMag(m, e, 9000, time)
					return mag - 9000
				}
				for i, inwards := range []int64{1, 1, -1, -1} {
					outside, here, inside := drop(contacts[i]-inwards), drop(contacts[i]), drop(contacts[i]+inwards)
					ok := outside == 0 && here == 0 && inside > 0
					if i == 1 || i == 2 {
						ok = outside < m.Depth && here == m.Depth && (inside == m.Depth || m.Flat == 0)
					}
					if !ok {
						t.Errorf("contact %d of %v %v %d: drops %d %d %d", i, m, e, cycle, outside, here, inside)
					}
				}
			}
		}
	}
}

// TestResultsOfEclipsesAreNewSlices changes each result with its unused capacity, and asks again.
func TestResultsOfEclipsesAreNewSlices(t *testing.T) {
	g, m, e := exampleGrid(), exampleModel(), ephemeris(100, 2000)
	models, _ := impl.ModelsOf(g)
	contacts, _ := impl.ContactsOf(m, e, 3)
	before := fmt.Sprint(models, contacts)
	clear(models[:cap(models)])
	clear(contacts[:cap(contacts)])
	models, _ = impl.ModelsOf(g)
	contacts, _ = impl.ContactsOf(m, e, 3)
	same(t, "results", fmt.Sprint(before, " ", exampleGrid()), fmt.Sprint(models, contacts), g)
}

// TestEclipsesForAllArguments is promise 1 for chapter 14: each call returns, and returns the same again.
func TestEclipsesForAllArguments(t *testing.T) {
	odd := numbers(-10000001, -10001, -2001, -1, 0, 1, 2, 30, 300, 5000, 5001, 10000, 10001, 20000, 20001, 1000000, 1000001, 10000000, 10000001)
	curves := slices.Concat(goodCurves(), badCurves())
	for i, n := range odd {
		for k, m := range odd {
			j, l := odd[(i*3+k)%len(odd)], odd[(i+k*5)%len(odd)]
			g := grid([]int64{n, m, 1000}[:1+k%3], []int64{m, j, 300}[i%3:], []int64{l, n, 0}[:1+(i+k)%3])
			own, e := model(n, m, j), ephemeris(j, l)
			if k%2 == 0 {
				own = model(1+(n&4095), 500, 0)
			}
			if i%2 == 0 {
				e = ephemeris(100, 1+(m&65535))
			}
			keepGrid(t, "eclipses", g, func(g impl.Grid) {
				keepPoints(t, "eclipses", curves[(i*7+k)%len(curves)], func(curve []impl.Point) {
					twice(t, "eclipses", func() []any {
						models, one := impl.ModelsOf(g)
						best, two := impl.BestModel(g, e, l, curve)
						return slices.Concat([]any{models, one, best, two}, modelOf(own), dropOf(own, l), modelMagOf(own, e, n, l), modelSquaresOf(own, e, m, curve), courseOf(own, e, l))
					})
				})
			})
		}
	}
}
