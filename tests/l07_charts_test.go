package tests

import (
	"fmt"
	"math/big"
	"math/rand/v2"
	"reflect"
	"slices"
	"testing"

	"loop.example/g01026/impl"
)

// edgePlaces are numbers at and beside the limits of places on a chart.
var edgePlaces = numbers(-2000, -2, -1, 0, 1, 2, 10, 1000, 1999, 2000, 2001, 2002)

// edgeSides are numbers at and beside the limits of sides.
var edgeSides = numbers(-4, -2, -1, 0, 1, 2, 3, 4, 5, 8)

// edgeMost are numbers at and beside the limits of gaps.
var edgeMost = numbers(-20000, -1, 0, 1, 2, 99, 100, 101, 999, 1000, 1001, 19999, 20000, 20001, 22000)

// marks are comparison stars of an X, a Y and a magnitude each.
func marks(numbers ...int64) []impl.Mark {
	var list []impl.Mark
	for three := range slices.Chunk(numbers, 3) {
		list = append(list, impl.Mark{X: three[0], Y: three[1], Mag: three[2]})
	}
	return list
}

func exampleChart() []impl.Mark { return marks(10, 10, 9150, 50, 10, 8000, 30, 40, 10000) }

// edgeChart has places and magnitudes at both ends of their ranges, and labels of one byte to three bytes.
func edgeChart() []impl.Mark {
	return marks(0, 0, -2000, 2000, 0, 20000, 0, 2000, 0, 2000, 2000, -1, 1000, 0, -51, 0, 1000, 949, 2000, 1000, 950, 1000, 2000, -50,
		1, 0, 19999, 0, 1, 9949, 1999, 2000, 9950, 2000, 1999, -1999)
}

// fullChart has as many marks as there may be, in 6 columns.
func fullChart() []impl.Mark {
	list := make([]impl.Mark, 30)
	for i := range list {
		n := int64(i)
		list[i] = impl.Mark{X: n % 6 * 15, Y: n / 6 * 9, Mag: n*n*711%22001 - 2000}
	}
	return list
}

// diceChart is a chart by chance, the same one in every run.
func diceChart(seed uint64, most int) []impl.Mark {
	r := rand.New(rand.NewPCG(7, seed))
	pick := func(list ...int64) int64 { return list[r.IntN(len(list))] }
	wide, high := pick(2, 8, 20, 40, 90, 2001), pick(2, 5, 9, 20, 60, 2001)
	left, low := pick(0, 2001-wide, 1000%(2002-wide)), pick(0, 2001-high, 1000%(2002-high))
	mag, kinds := pick(-2000, -1000, 0, 9000), pick(1, 2, 5, 11000)
	var list []impl.Mark
	for range 1 + r.IntN(most) {
		m := impl.Mark{X: left + r.Int64N(wide), Y: low + r.Int64N(high), Mag: mag + r.Int64N(kinds)*(11000/kinds)}
		if !hasPlace(list, m) {
			list = append(list, m)
		}
	}
	return list
}

func hasPlace(list []impl.Mark, m impl.Mark) bool {
	for _, x := range list {
		if x.X == m.X && x.Y == m.Y {
			return true
		}
	}
	return false
}

func isMark(m impl.Mark) bool { return between(m.X, 0, 2000) && between(m.Y, 0, 2000) && isMag(m.Mag) }

func goodCharts() [][]impl.Mark {
	list := [][]impl.Mark{
		nil, {}, make([]impl.Mark, 1), exampleChart(), edgeChart(), fullChart()[:1], fullChart()[:8], fullChart()[:9], fullChart()[:29], fullChart()[1:], fullChart(),
		marks(5, 6, 9000, 6, 5, 9000), marks(5, 5, 9000, 5, 6, 9000), marks(5, 5, 9000, 6, 5, 9000), marks(0, 5, 1, 5, 0, 1, 5, 5, 1, 0, 0, 1),
		marks(20, 20, 9000, 22, 20, 9100), marks(1, 1, 20000, 2, 2, -2000, 3, 3, 20000, 4, 4, -2000),
	}
	for seed := range uint64(80) {
		list = append(list, diceChart(seed, 30))
	}
	return list
}

// badMarks are none by just one of their fields, but for the last ones.
func badMarks() []impl.Mark {
	list := marks(-1, -1, 9000, 2001, 2001, 20001, -1, 5, -2001)
	for _, n := range numbers(-2000, -2, -1, 2001, 2002) {
		list = append(marks(n, 5, 9000, 5, n, 9000), list...)
	}
	for _, n := range numbers(-20000, -2001, 20001, 22000) {
		list = append(marks(5, 5, n), list...)
	}
	return list
}

// badCharts are those with a mark that is none, with two of them at one place, or with too many.
func badCharts() [][]impl.Mark {
	list := [][]impl.Mark{
		marks(5, 5, 9000, 5, 5, 9000), marks(5, 5, 9000, 5, 5, 9001), marks(5, 5, 9001, 5, 5, 9000), marks(0, 0, 1, 5, 5, 1, 0, 0, 2), marks(5, 5, 1, 0, 0, 1, 0, 0, 2),
		append(exampleChart(), exampleChart()...), append(fullChart()[:29], fullChart()[0]), append(fullChart()[:29], fullChart()[28]),
		append(fullChart(), marks(500, 500, 9000)...), append(fullChart(), fullChart()[3]), append(fullChart(), impl.Mark{X: -1}),
		make([]impl.Mark, 2), make([]impl.Mark, 30), make([]impl.Mark, 31), make([]impl.Mark, 5000),
	}
	for _, m := range badMarks() {
		list = append(list, []impl.Mark{m}, append(exampleChart(), m), append([]impl.Mark{m}, exampleChart()...), append(fullChart()[:29], m), []impl.Mark{m, m})
	}
	var long []impl.Mark // all of different places, but too many
	for i := range int64(300) {
		long = append(long, impl.Mark{X: i, Y: 2000 - i, Mag: i})
	}
	return append(list, long, long[:31])
}

// keepMarks is keep for charts.
func keepMarks(t *testing.T, name string, list []impl.Mark, f func(list []impl.Mark)) {
	t.Helper()
	keep(t, name, list, impl.Mark{X: spare, Y: spare, Mag: spare}, f)
}

func TestConstantsOfCharts(t *testing.T) {
	same(t, "constants", "30 2000 8", impl.MaxMarks, impl.MaxPlot, impl.MaxPut)
}

func TestValidChart(t *testing.T) {
	check := func(lists [][]impl.Mark, want string) {
		for _, list := range lists {
			keepMarks(t, "ValidChart", list, func(list []impl.Mark) {
				same(t, fmt.Sprint("ValidChart ", list), want, twice(t, "ValidChart", func() []any { return []any{impl.ValidChart(list)} })...)
			})
		}
	}
	check(goodCharts(), "true")
	check(badCharts(), "false")
}

// TestChartsWithTwoMarksAtOnePlace puts each mark of a chart to the place of each other one.
func TestChartsWithTwoMarksAtOnePlace(t *testing.T) {
	for _, list := range [][]impl.Mark{exampleChart(), edgeChart(), fullChart()} {
		for i := range list {
			for k := range list {
				moved := slices.Clone(list)
				moved[i].X, moved[i].Y = list[k].X, list[k].Y
				same(t, fmt.Sprint("marks ", i, k), fmt.Sprint(i == k), impl.ValidChart(moved))
			}
		}
	}
}

// TestMarksAtTheirLimits holds each field at and beside its limits against what the document says of a mark.
func TestMarksAtTheirLimits(t *testing.T) {
	list := badMarks()
	for _, n := range edgePlaces {
		list = append(list, marks(n, 5, 9000, 5, n, 9000, n, n, 9000)...)
	}
	for _, mag := range edgeMags {
		list = append(list, marks(5, 5, mag, 0, 2000, mag, -1, 5, mag, 5, 2001, mag)...)
	}
	for _, m := range list {
		label := labelWanted(m.Mag)
		want := fmt.Sprintf("true [%v] 0 0 %q", m, fmt.Sprintf("%d,%d %s", m.X, m.Y, label))
		if !isMark(m) {
			want = `false [] 2 1 ""`
		}
		added, code := impl.AddMark(nil, m)
		_, boxed := impl.LabelBox(m, 0)
		text := twice(t, "MarkText", func() []any { return []any{impl.MarkText(m)} })
		same(t, fmt.Sprint(m), want, impl.ValidChart([]impl.Mark{m}), added, code, boxed, fmt.Sprintf("%q", text[0]))
	}
}

func TestSameChart(t *testing.T) {
	lists := append(goodCharts(), badCharts()...)
	for i, a := range lists {
		for k, b := range lists {
			want := len(a) == 0 && len(b) == 0 || reflect.DeepEqual(a, b)
			if got := impl.SameChart(a, b); got != want {
				t.Fatalf("SameChart of lists %d and %d: got %v", i, k, got)
			}
		}
	}
	for _, list := range [][]impl.Mark{exampleChart(), fullChart(), make([]impl.Mark, 50)} {
		for i := range list {
			for field, change := range []func(m *impl.Mark){
				func(m *impl.Mark) {}, func(m *impl.Mark) { m.X++ }, func(m *impl.Mark) { m.Y-- }, func(m *impl.Mark) { m.Mag++ },
			} {
				other := slices.Clone(list)
				change(&other[i])
				keepMarks(t, "SameChart", other, func(other []impl.Mark) {
					same(t, fmt.Sprint("SameChart of change ", field), fmt.Sprint(field == 0, field == 0), impl.SameChart(list, other), impl.SameChart(other, list))
				})
			}
		}
	}
	swapped := marks(50, 10, 8000, 10, 10, 9150, 30, 40, 10000)
	same(t, "another order", "false", impl.SameChart(exampleChart(), swapped))
}

func TestAddMark(t *testing.T) {
	for _, x := range []struct {
		list, add []impl.Mark
		want      string
	}{
		{nil, marks(5, 6, 9000), "[{5 6 9000}] 0"},
		{marks(5, 6, 9000), marks(4, 6, 9000), "[{5 6 9000} {4 6 9000}] 0"},
		{marks(5, 6, 9000), marks(5, 5, 8000), "[{5 6 9000} {5 5 8000}] 0"},
		{marks(5, 6, 9000), marks(6, 5, 9000), "[{5 6 9000} {6 5 9000}] 0"},
		{marks(9, 9, 1, 0, 0, 2), marks(2000, 2000, -2000), "[{9 9 1} {0 0 2} {2000 2000 -2000}] 0"},
		{marks(5, 6, 9000), marks(5, 6, 9000), "[] 4"},
		{marks(5, 6, 9000), marks(5, 6, 8000), "[] 4"},
		{marks(9, 9, 1, 5, 6, 9000, 0, 0, 2), marks(5, 6, 9001), "[] 4"},
		{marks(5, 6, 9000), marks(5, 6, 20001), "[] 2"},
		{marks(5, 6, 9000), marks(5, -1, 9000), "[] 2"},
		{marks(5, 6, 9000), marks(2001, 6, 9000), "[] 2"},
		{marks(5, 6, 1, 5, 6, 2), marks(5, 6, 1), "[] 1"},
		{marks(5, 6, 1, 5, 6, 2), marks(-1, 6, 1), "[] 1"},
		{marks(-1, 6, 1), marks(-1, 6, 1), "[] 1"},
		{fullChart(), marks(500, 500, 1), "[] 5"},
		{fullChart(), marks(15, 9, 1), "[] 4"},
		{fullChart(), marks(15, 9, -2001), "[] 2"},
		{fullChart(), marks(2001, 9, 1), "[] 2"},
		{append(fullChart(), marks(500, 500, 1)...), marks(500, 501, 1), "[] 1"},
		{append(fullChart(), marks(500, 500, 1)...), marks(2001, 501, 1), "[] 1"},
		{fullChart()[:29], marks(500, 500, 1), fmt.Sprint(append(fullChart()[:29], marks(500, 500, 1)...), 0)},
	} {
		more, code := impl.AddMark(x.list, x.add[0])
		same(t, fmt.Sprint("AddMark ", x.list, x.add), x.want, more, code)
	}
}

func addedMarkWanted(list []impl.Mark, m impl.Mark) ([]impl.Mark, int64) {
	switch {
	case !isMark(m):
		return nil, impl.ErrRange
	case hasPlace(list, m):
		return nil, impl.ErrExists
	case len(list) >= 30:
		return nil, impl.ErrFull
	}
	return append(slices.Clone(list), m), impl.OK
}

func TestAddMarkForAllCharts(t *testing.T) {
	adds := append(append(badMarks(), edgeChart()...), fullChart()...)
	for _, list := range goodCharts() {
		own := slices.Clone(adds)
		for _, m := range list {
			own = append(own, m, impl.Mark{X: m.X, Y: m.Y, Mag: -m.Mag / 10}, impl.Mark{X: m.Y, Y: m.X, Mag: m.Mag}, impl.Mark{X: m.X, Y: m.Y, Mag: 20001})
		}
		for _, m := range own {
			want, wantCode := addedMarkWanted(list, m)
			keepMarks(t, "AddMark", list, func(list []impl.Mark) {
				got, code := impl.AddMark(list, m)
				again, codeAgain := impl.AddMark(list, m)
				if code != wantCode || codeAgain != wantCode || !slices.Equal(got, want) {
					t.Fatalf("AddMark(%v, %v): got %v %d, want %v %d", list, m, got, code, want, wantCode)
				}
				// The result shares memory neither with the argument nor with the other result.
				clear(got)
				same(t, "the other result", fmt.Sprint(want), again)
			})
		}
	}
	for _, list := range badCharts() {
		for _, m := range append(badMarks(), exampleChart()...) {
			more, code := impl.AddMark(list, m)
			same(t, fmt.Sprint("AddMark ", list, m), "[] 1", more, code)
		}
	}
}

func TestAddMarkUntilFull(t *testing.T) {
	var list []impl.Mark
	full := fullChart()
	for i, m := range full {
		more, code := impl.AddMark(list, m)
		if code != impl.OK || len(more) != i+1 || !impl.ValidChart(more) {
			t.Fatalf("AddMark of mark %d: got %v %d", i, more, code)
		}
		list = more
	}
	_, code := impl.AddMark(list, marks(500, 500, 9000)[0])
	same(t, "full", fmt.Sprint(full, 5), list, code)
}

func TestNearestMark(t *testing.T) {
	for _, x := range []struct {
		list []impl.Mark
		x, y int64
		want string
	}{
		{exampleChart(), 30, 10, "0 0"},
		{exampleChart(), 31, 10, "1 0"},
		{exampleChart(), 29, 10, "0 0"},
		{exampleChart(), 30, 40, "2 0"},
		{exampleChart(), 2000, 2000, "2 0"},
		{exampleChart(), 2000, 0, "1 0"},
		{exampleChart(), 0, 0, "0 0"},
		{marks(0, 0, 1, 10, 0, 1, 10, 10, 1, 0, 10, 1), 5, 5, "0 0"},
		{marks(10, 10, 1, 10, 0, 1, 0, 0, 1, 0, 10, 1), 5, 5, "0 0"},
		{marks(10, 10, 1, 0, 0, 1, 10, 0, 1, 0, 10, 1), 4, 5, "1 0"},
		{marks(100, 100, 1, 53, 54, 1, 55, 50, 1, 45, 50, 1), 50, 50, "1 0"}, // 3 and 4 are as far as 5
		{marks(100, 100, 1, 55, 50, 1, 53, 54, 1), 50, 50, "1 0"},
		{marks(56, 50, 1, 54, 54, 1), 50, 50, "1 0"}, // 8 along both edges, but less than 6
		{marks(54, 54, 1, 55, 50, 1), 50, 50, "1 0"}, // 4 along each edge, but more than 5
		{marks(2000, 2000, 1, 1999, 2000, 1), 0, 0, "1 0"},
		{marks(0, 0, 1, 0, 1, 1), 2000, 2000, "1 0"},
		{marks(0, 0, 20000), 2000, 2000, "0 0"},
		{nil, 30, 10, "0 3"},
		{[]impl.Mark{}, 0, 2000, "0 3"},
		{nil, -1, 10, "0 2"},
		{nil, 10, 2001, "0 2"},
		{exampleChart(), -1, 10, "0 2"},
		{exampleChart(), 10, -1, "0 2"},
		{exampleChart(), 2001, 10, "0 2"},
		{exampleChart(), 10, 2001, "0 2"},
		{marks(5, 5, 1, 5, 5, 1), 5, 5, "0 1"},
		{marks(5, 5, 1, 5, 5, 1), -1, 5, "0 1"},
		{marks(5, 5, 20001), 5, 2001, "0 1"},
	} {
		k, code := impl.NearestMark(x.list, x.x, x.y)
		same(t, fmt.Sprint("NearestMark ", x), x.want, k, code)
	}
}

// nearestWanted orders the indices by the squares of distances, equal ones as they are, and takes the first one.
func nearestWanted(list []impl.Mark, x, y int64) string {
	if !between(x, 0, 2000) || !between(y, 0, 2000) {
		return "0 2"
	}
	if len(list) == 0 {
		return "0 3"
	}
	order := make([]int, len(list))
	squares := make([]int64, len(list))
	for i, m := range list {
		right, up := max(m.X, x)-min(m.X, x), max(m.Y, y)-min(m.Y, y)
		order[i], squares[i] = i, right*right+up*up
	}
	slices.SortStableFunc(order, func(i, k int) int { return int(squares[i] - squares[k]) })
	return fmt.Sprint(order[0], 0)
}

func TestNearestMarkForAllArguments(t *testing.T) {
	for _, list := range goodCharts() {
		places := slices.Clone(edgePlaces)
		for _, m := range list[:min(len(list), 12)] {
			places = append(places, m.X, m.Y+1, m.Y+7)
		}
		keepMarks(t, "NearestMark", list, func(list []impl.Mark) {
			for i, x := range places {
				for _, y := range places[i%2:] {
					got := twice(t, "NearestMark", func() []any {
						k, code := impl.NearestMark(list, x, y)
						return []any{k, code}
					})
					same(t, fmt.Sprint("NearestMark ", list, x, y), nearestWanted(list, x, y), got...)
				}
			}
		})
	}
	for _, list := range badCharts() {
		for _, x := range edgePlaces {
			one, codeOne := impl.NearestMark(list, x, 5)
			two, codeTwo := impl.NearestMark(list, 5, x)
			same(t, fmt.Sprint("NearestMark ", list, x), "0 1 0 1", one, codeOne, two, codeTwo)
		}
	}
}

func TestPairFor(t *testing.T) {
	for _, x := range []struct {
		list []impl.Mark
		mag  int64
		want string
	}{
		{exampleChart(), 9200, "0 2 0"},
		{exampleChart(), 9150, "0 2 0"},
		{exampleChart(), 9149, "1 0 0"},
		{exampleChart(), 8000, "1 0 0"},
		{exampleChart(), 9999, "0 2 0"},
		{exampleChart(), 7999, "0 0 3"},
		{exampleChart(), 10000, "0 0 3"},
		{marks(0, 0, 9000, 5, 5, 9000, 6, 6, 9500, 7, 7, 9500), 9250, "0 2 0"},
		{marks(7, 7, 9500, 6, 6, 9500, 5, 5, 9000, 0, 0, 9000), 9250, "2 0 0"},
		{marks(0, 0, -2000, 5, 5, 20000), -2000, "0 1 0"},
		{marks(0, 0, -2000, 5, 5, 20000), 19999, "0 1 0"},
		{marks(0, 0, -2000, 5, 5, 20000), 20000, "0 0 3"},
		{marks(0, 0, -1, 5, 5, -3), -2, "1 0 0"},
		{marks(0, 0, 9000), 9000, "0 0 3"},
		{nil, 9000, "0 0 3"},
		{nil, -2001, "0 0 2"},
		{exampleChart(), 20001, "0 0 2"},
		{exampleChart(), -2001, "0 0 2"},
		{marks(0, 0, 9000, 0, 0, 9500), 9250, "0 0 1"},
		{marks(0, 0, 9000, 0, 0, 9500), 20001, "0 0 1"},
		{marks(0, 0, 9000, 2001, 0, 9500), 9250, "0 0 1"},
		{marks(0, 0, -2001, 1, 0, 9500), -2001, "0 0 1"},
	} {
		a, b, code := impl.PairFor(x.list, x.mag)
		same(t, fmt.Sprint("PairFor ", x), x.want, a, b, code)
	}
}

func magsOfMarks(list []impl.Mark) []int64 {
	mags := make([]int64, len(list))
	for i, m := range list {
		mags[i] = m.Mag
	}
	return mags
}

// someMags are the edges, and the magnitudes of a chart with their neighbours.
func someMags(list []impl.Mark) []int64 {
	mags := slices.Clone(edgeMags)
	for _, m := range list {
		mags = append(mags, m.Mag-1, m.Mag, m.Mag+1)
	}
	return mags
}

// TestPairsEncloseTheMagnitude is the second half of promise 7.
func TestPairsEncloseTheMagnitude(t *testing.T) {
	for _, list := range goodCharts() {
		for _, mag := range someMags(list) {
			want := "0 0 2"
			if isMag(mag) {
				want = pairWanted(magsOfMarks(list), mag)
			}
			keepMarks(t, "PairFor", list, func(list []impl.Mark) {
				got := twice(t, "PairFor", func() []any {
					a, b, code := impl.PairFor(list, mag)
					if code == impl.OK && (list[a].Mag > mag || list[b].Mag <= mag) {
						t.Errorf("PairFor(%v, %d): got %d %d", list, mag, a, b)
					}
					return []any{a, b, code}
				})
				same(t, fmt.Sprint("PairFor ", list, mag), want, got...)
			})
		}
	}
	for _, list := range badCharts() {
		for _, mag := range edgeMags {
			a, b, code := impl.PairFor(list, mag)
			same(t, fmt.Sprint("PairFor ", list, mag), "0 0 1", a, b, code)
		}
	}
}

func TestMagGaps(t *testing.T) {
	for _, x := range []struct {
		list []impl.Mark
		most int64
		want string
	}{
		{exampleChart(), 1000, "[1] 0"},
		{exampleChart(), 1149, "[1] 0"},
		{exampleChart(), 1150, "[] 0"},
		{exampleChart(), 850, "[1] 0"},
		{exampleChart(), 849, "[0 1] 0"},
		{exampleChart(), 0, "[0 1] 0"},
		{exampleChart(), 20000, "[] 0"},
		{marks(0, 0, 9000, 1, 1, 9000, 2, 2, 9000), 0, "[] 0"},
		{marks(0, 0, 9500, 1, 1, 9000, 2, 2, 9500, 3, 3, 9000, 4, 4, 9001), 0, "[1 3 4] 0"},
		{marks(0, 0, 9500, 1, 1, 9000, 2, 2, 9500, 3, 3, 9000, 4, 4, 9001), 1, "[4] 0"},
		{marks(0, 0, 9500, 1, 1, 9000, 2, 2, 9500, 3, 3, 9000, 4, 4, 9001), 498, "[4] 0"},
		{marks(0, 0, 9500, 1, 1, 9000, 2, 2, 9500, 3, 3, 9000, 4, 4, 9001), 499, "[] 0"},
		{marks(0, 0, 20000, 1, 1, -2000), 20000, "[1] 0"}, // the greatest gap is greater than the greatest limit
		{marks(0, 0, 18000, 1, 1, -2000), 20000, "[] 0"},
		{marks(0, 0, 18001, 1, 1, -2000), 20000, "[1] 0"},
		{marks(0, 0, -1, 1, 1, -3, 2, 2, 1), 1, "[0 1] 0"},
		{marks(0, 0, -1, 1, 1, -3, 2, 2, 1), 2, "[] 0"},
		{marks(0, 0, 20000), 0, "[] 0"},
		{nil, 0, "[] 0"},
		{nil, -1, "[] 2"},
		{nil, 20001, "[] 2"},
		{exampleChart(), -1, "[] 2"},
		{exampleChart(), 20001, "[] 2"},
		{marks(0, 0, 9000, 0, 0, 9500), 0, "[] 1"},
		{marks(0, 0, 9000, 0, 0, 9500), -1, "[] 1"},
		{marks(0, 0, 20001), 20001, "[] 1"},
	} {
		gaps, code := impl.MagGaps(x.list, x.most)
		same(t, fmt.Sprint("MagGaps ", x), x.want, gaps, code)
	}
}

// gapsWanted takes a mark if one is fainter, and none is fainter by at most most.
func gapsWanted(list []impl.Mark, most int64) string {
	if !between(most, 0, 20000) {
		return "[] 2"
	}
	gaps := []int64{}
	for i, m := range list {
		fainter, near := 0, 0
		for _, x := range list {
			if x.Mag > m.Mag {
				fainter++
			}
			if x.Mag > m.Mag && x.Mag <= m.Mag+most {
				near++
			}
		}
		if fainter > 0 && near == 0 {
			gaps = append(gaps, int64(i))
		}
	}
	return fmt.Sprint(gaps, 0)
}

func TestMagGapsForAllArguments(t *testing.T) {
	for _, list := range goodCharts() {
		limits := slices.Clone(edgeMost)
		for i, m := range list {
			gap := m.Mag - list[i/2].Mag
			limits = append(limits, gap-1, gap, gap+1)
		}
		for _, most := range limits {
			keepMarks(t, "MagGaps", list, func(list []impl.Mark) {
				got := twice(t, "MagGaps", func() []any {
					gaps, code := impl.MagGaps(list, most)
					return []any{gaps, code}
				})
				same(t, fmt.Sprint("MagGaps ", list, most), gapsWanted(list, most), got...)
			})
		}
	}
	for _, list := range badCharts() {
		for _, most := range edgeMost {
			gaps, code := impl.MagGaps(list, most)
			same(t, fmt.Sprint("MagGaps ", list, most), "[] 1", gaps, code)
		}
	}
}

func TestLabelOf(t *testing.T) {
	for mag, want := range map[int64]string{
		9150: "92", 9149: "91", 9151: "92", 9250: "93", 9249: "92", 0: "0", 49: "0", 50: "1", 51: "1", 149: "1", 150: "2", 949: "9", 950: "10", 9949: "99", 9950: "100",
		-1: "0", -49: "0", -50: "0", -51: "-1", -100: "-1", -149: "-1", -150: "-1", -151: "-2", -949: "-9", -950: "-9", -951: "-10", -1949: "-19", -1950: "-19", -1951: "-20",
		-2000: "-20", 20000: "200", 19950: "200", 19949: "199", -2001: "", 20001: "", -2050: "", 20049: "",
	} {
		same(t, fmt.Sprint("LabelOf ", mag), want, impl.LabelOf(mag))
	}
}

func labelWanted(mag int64) string {
	if !isMag(mag) {
		return ""
	}
	return fmt.Sprint(nearestOf(big.NewRat(mag, 100)))
}

func TestLabelOfAllMagnitudes(t *testing.T) {
	mags := slices.Clone(edgeMags)
	for mag := int64(-2200); mag <= 20200; mag++ {
		mags = append(mags, mag)
	}
	for _, mag := range mags {
		got := twice(t, "LabelOf", func() []any { return []any{impl.LabelOf(mag)} })
		same(t, fmt.Sprint("LabelOf ", mag), labelWanted(mag), got...)
	}
}

func TestLabelBox(t *testing.T) {
	for _, x := range []struct {
		mark []impl.Mark
		want string // the boxes on all sides
	}{
		{marks(10, 10, 9150), "[14 6 26 14] [-6 6 6 14] [4 14 16 22] [4 -2 16 6]"},
		{marks(100, 200, 0), "[104 196 110 204] [90 196 96 204] [97 204 103 212] [97 188 103 196]"},
		{marks(100, 200, 900), "[104 196 110 204] [90 196 96 204] [97 204 103 212] [97 188 103 196]"},
		{marks(100, 200, -50), "[104 196 110 204] [90 196 96 204] [97 204 103 212] [97 188 103 196]"},
		{marks(100, 200, -51), "[104 196 116 204] [84 196 96 204] [94 204 106 212] [94 188 106 196]"},
		{marks(101, 203, -2000), "[105 199 123 207] [79 199 97 207] [92 207 110 215] [92 191 110 199]"},
		{marks(101, 203, 10000), "[105 199 123 207] [79 199 97 207] [92 207 110 215] [92 191 110 199]"},
		{marks(101, 203, 9949), "[105 199 117 207] [85 199 97 207] [95 207 107 215] [95 191 107 199]"},
		{marks(0, 0, -2000), "[4 -4 22 4] [-22 -4 -4 4] [-9 4 9 12] [-9 -12 9 -4]"},
		{marks(0, 0, 0), "[4 -4 10 4] [-10 -4 -4 4] [-3 4 3 12] [-3 -12 3 -4]"},
		{marks(2000, 2000, 20000), "[2004 1996 2022 2004] [1978 1996 1996 2004] [1991 2004 2009 2012] [1991 1988 2009 1996]"},
		{marks(2000, 0, 5000), "[2004 -4 2016 4] [1984 -4 1996 4] [1994 4 2006 12] [1994 -12 2006 -4]"},
		{marks(0, 2000, 5000), "[4 1996 16 2004] [-16 1996 -4 2004] [-6 2004 6 2012] [-6 1988 6 1996]"},
		{marks(1, 1999, 5000), "[5 1995 17 2003] [-15 1995 -3 2003] [-5 2003 7 2011] [-5 1987 7 1995]"},
	} {
		var boxes []any
		for side := range int64(4) {
			box, code := impl.LabelBox(x.mark[0], side)
			boxes = append(boxes, box)
			same(t, fmt.Sprint("LabelBox ", x, side), "4 0", len(box), code)
		}
		same(t, fmt.Sprint("LabelBox ", x), x.want, boxes...)
	}
	for _, x := range []struct {
		mark []impl.Mark
		side int64
		want string
	}{
		{marks(10, 10, 9150), -1, "[] 2"},
		{marks(10, 10, 9150), 4, "[] 2"},
		{marks(10, -1, 9150), 0, "[] 1"},
		{marks(2001, 10, 9150), 3, "[] 1"},
		{marks(10, 10, 20001), 1, "[] 1"},
		{marks(10, 10, -2001), 4, "[] 1"},
		{marks(-1, 10, 9150), -1, "[] 1"},
	} {
		box, code := impl.LabelBox(x.mark[0], x.side)
		same(t, fmt.Sprint("LabelBox ", x), x.want, box, code)
	}
}

// boxWanted is the box on one of the four sides, as the document writes it.
func boxWanted(m impl.Mark, side int64) []int64 {
	w := 6 * int64(len(labelWanted(m.Mag)))
	switch side {
	case 0:
		return []int64{m.X + 4, m.Y - 4, m.X + 4 + w, m.Y + 4}
	case 1:
		return []int64{m.X - 4 - w, m.Y - 4, m.X - 4, m.Y + 4}
	case 2:
		return []int64{m.X - w/2, m.Y + 4, m.X + w/2, m.Y + 12}
	}
	return []int64{m.X - w/2, m.Y - 12, m.X + w/2, m.Y - 4}
}

func TestLabelBoxForAllArguments(t *testing.T) {
	list := badMarks()
	for _, chart := range goodCharts() {
		list = append(list, chart...)
	}
	for _, x := range edgePlaces {
		for _, mag := range append([]int64{949, 950, 9949, 9950, -50, -51, -949, -950, -951}, edgeMags...) {
			list = append(list, marks(x, 5, mag, 2000, x, mag)...)
		}
	}
	for _, m := range list {
		for _, side := range edgeSides {
			want := "[] 1"
			if isMark(m) && between(side, 0, 3) {
				want = fmt.Sprint(boxWanted(m, side), 0)
			} else if isMark(m) {
				want = "[] 2"
			}
			got := twice(t, "LabelBox", func() []any {
				box, code := impl.LabelBox(m, side)
				return []any{box, code}
			})
			same(t, fmt.Sprint("LabelBox ", m, side), want, got...)
		}
	}
}

func TestLabelClashesOfTwo(t *testing.T) {
	for _, x := range []struct {
		list  []impl.Mark
		sides []int64
		want  string
	}{
		{marks(20, 20, 9000, 22, 20, 9100), []int64{0, 0}, "[[0 1]] 0"},
		{marks(20, 20, 9000, 22, 20, 9100), []int64{0, 1}, "[] 0"},
		{marks(20, 20, 9000, 22, 20, 9100), []int64{1, 0}, "[] 0"},
		// Labels one behind the other, which are 12 wide.
		{marks(20, 20, 9000, 31, 20, 9000), []int64{0, 0}, "[[0 1]] 0"},
		{marks(20, 20, 9000, 32, 20, 9000), []int64{0, 0}, "[] 0"},
		{marks(32, 20, 9000, 20, 20, 9000), []int64{0, 0}, "[] 0"},
		{marks(31, 20, 9000, 20, 20, 9000), []int64{0, 0}, "[[0 1]] 0"},
		// Labels of one byte and of three.
		{marks(20, 20, 0, 26, 20, 20000), []int64{0, 0}, "[] 0"},
		{marks(20, 20, 0, 25, 20, 20000), []int64{0, 0}, "[[0 1]] 0"},
		{marks(20, 20, 20000, 38, 20, 0), []int64{0, 0}, "[] 0"},
		{marks(20, 20, 20000, 37, 20, 0), []int64{0, 0}, "[[0 1]] 0"},
		{marks(20, 20, -2000, 38, 20, 0), []int64{0, 0}, "[] 0"},
		{marks(20, 20, -2000, 37, 20, 0), []int64{0, 0}, "[[0 1]] 0"},
		// Labels one above the other, which are 8 high.
		{marks(20, 20, 9000, 20, 28, 9000), []int64{0, 0}, "[] 0"},
		{marks(20, 20, 9000, 20, 27, 9000), []int64{0, 0}, "[[0 1]] 0"},
		{marks(20, 28, 9000, 20, 20, 9000), []int64{0, 0}, "[] 0"},
		{marks(20, 27, 9000, 20, 20, 9000), []int64{0, 0}, "[[0 1]] 0"},
		// One of both directions alone, or both by one.
		{marks(20, 20, 9000, 31, 27, 9000), []int64{0, 0}, "[[0 1]] 0"},
		{marks(20, 27, 9000, 31, 20, 9000), []int64{0, 0}, "[[0 1]] 0"},
		{marks(20, 20, 9000, 32, 27, 9000), []int64{0, 0}, "[] 0"},
		{marks(20, 20, 9000, 31, 28, 9000), []int64{0, 0}, "[] 0"},
		{marks(20, 20, 9000, 32, 28, 9000), []int64{0, 0}, "[] 0"},
		{marks(20, 28, 9000, 31, 20, 9000), []int64{0, 0}, "[] 0"},
		// A mark between its label and another one's, on the sides that face each other.
		{marks(20, 20, 9000, 51, 20, 9000), []int64{0, 1}, "[[0 1]] 0"},
		{marks(20, 20, 9000, 52, 20, 9000), []int64{0, 1}, "[] 0"},
		{marks(20, 20, 9000, 20, 43, 9000), []int64{2, 3}, "[[0 1]] 0"},
		{marks(20, 20, 9000, 20, 44, 9000), []int64{2, 3}, "[] 0"},
		{marks(20, 20, 9000, 20, 43, 9000), []int64{3, 2}, "[] 0"},
		// The label on the side 0 touches the corner of one on the side 2, and reaches into it.
		{marks(20, 20, 9000, 30, 20, 9000), []int64{0, 2}, "[] 0"},
		{marks(20, 20, 9000, 30, 19, 9000), []int64{0, 2}, "[[0 1]] 0"},
		{marks(20, 20, 9000, 30, 20, 9000), []int64{0, 3}, "[] 0"},
		{marks(20, 20, 9000, 30, 21, 9000), []int64{0, 3}, "[[0 1]] 0"},
		// A narrow label within the width of a wide one.
		{marks(20, 20, 20000, 20, 21, 0), []int64{2, 2}, "[[0 1]] 0"},
		{marks(20, 20, 0, 20, 21, 20000), []int64{3, 3}, "[[0 1]] 0"},
		// Below 0 and beyond MaxPlot.
		{marks(0, 0, 9000, 1, 0, 9000), []int64{1, 1}, "[[0 1]] 0"},
		{marks(0, 0, 9000, 12, 0, 9000), []int64{1, 1}, "[] 0"},
		{marks(0, 0, 9000, 0, 1, 9000), []int64{3, 3}, "[[0 1]] 0"},
		{marks(0, 0, 9000, 0, 8, 9000), []int64{3, 3}, "[] 0"},
		{marks(2000, 2000, 9000, 1999, 1999, 9000), []int64{0, 0}, "[[0 1]] 0"},
		{marks(2000, 2000, 9000, 1999, 1999, 9000), []int64{2, 2}, "[[0 1]] 0"},
		{marks(2000, 2000, 9000, 2000, 1992, 9000), []int64{2, 2}, "[] 0"},
		{marks(0, 0, 9000, 2000, 2000, 9000), []int64{1, 0}, "[] 0"},
	} {
		clashes, code := impl.LabelClashes(x.list, x.sides)
		same(t, fmt.Sprint("LabelClashes ", x), x.want, clashes, code)
	}
}

func TestLabelClashes(t *testing.T) {
	row := marks(20, 20, 9000, 31, 20, 9000, 42, 20, 9000, 54, 20, 9000)
	for _, x := range []struct {
		list  []impl.Mark
		sides []int64
		want  string
	}{
		{row, []int64{0, 0, 0, 0}, "[[0 1] [1 2]] 0"},
		{row, []int64{0, 1, 0, 1}, "[[0 1] [2 3]] 0"},
		{row, []int64{2, 2, 2, 2}, "[[0 1] [1 2]] 0"},
		{row, []int64{2, 3, 2, 3}, "[] 0"},
		{row, []int64{2, 0, 1, 3}, "[[1 2]] 0"},
		{marks(1, 1, 0, 1, 2, 0, 2, 1, 0, 2, 2, 0), []int64{0, 0, 0, 0}, "[[0 1] [0 2] [0 3] [1 2] [1 3] [2 3]] 0"},
		{marks(1, 1, 0, 100, 100, 0, 1, 2, 0, 100, 101, 0, 2, 1, 0), []int64{0, 0, 0, 0, 0}, "[[0 2] [0 4] [1 3] [2 4]] 0"},
		{nil, nil, "[] 0"},
		{nil, []int64{}, "[] 0"},
		{marks(1, 1, 0), []int64{3}, "[] 0"},
		{nil, []int64{0}, "[] 2"},
		{row, nil, "[] 2"},
		{row, []int64{0, 0, 0}, "[] 2"},
		{row, []int64{0, 0, 0, 0, 0}, "[] 2"},
		{row, []int64{4, 0, 0, 0}, "[] 2"},
		{row, []int64{0, 0, 0, -1}, "[] 2"},
		{row, []int64{0, 4, 0, 0}, "[] 2"},
		{marks(1, 1, 0, 1, 1, 0), []int64{0, 0}, "[] 1"},
		{marks(1, 1, 0, 1, 1, 0), []int64{0}, "[] 1"},
		{marks(1, 1, 0, 1, 1, 0), []int64{0, 4}, "[] 1"},
		{marks(1, 2001, 0), nil, "[] 1"},
		{append(fullChart(), marks(500, 500, 1)...), make([]int64, 31), "[] 1"},
	} {
		clashes, code := impl.LabelClashes(x.list, x.sides)
		same(t, fmt.Sprint("LabelClashes ", x), x.want, clashes, code)
	}
}

// common is how much of their ranges two boxes have in common in a direction, 0 for X and 1 for Y.
func common(a, b []int64, direction int) int64 {
	return max(0, min(a[direction+2], b[direction+2])-max(a[direction], b[direction]))
}

// overlap is by the area that two boxes have in common.
func overlap(a, b []int64) bool { return common(a, b, 0)*common(a, b, 1) > 0 }

func clashesWanted(list []impl.Mark, sides []int64) string {
	wrong := func(side int64) bool { return !between(side, 0, 3) }
	if len(sides) != len(list) || slices.ContainsFunc(sides, wrong) {
		return "[] 2"
	}
	pairs := [][]int{}
	for i := range list {
		for k := range list {
			if i < k && overlap(boxWanted(list[i], sides[i]), boxWanted(list[k], sides[k])) {
				pairs = append(pairs, []int{i, k})
			}
		}
	}
	return fmt.Sprint(pairs, 0)
}

// sidesFor are lists of sides for n marks, among them such that are none.
func sidesFor(n int) [][]int64 {
	r := rand.New(rand.NewPCG(7, uint64(n)))
	lists := [][]int64{nil, make([]int64, n), make([]int64, n+1), make([]int64, max(n-1, 0)), make([]int64, 2*n)}
	for range 6 {
		good := make([]int64, n)
		for i := range good {
			good[i] = r.Int64N(4)
		}
		lists = append(lists, good)
	}
	for i, side := range append(edgeSides, edgeSides...) {
		if bad := slices.Clone(lists[5]); n > 0 {
			bad[i*7%n] = side
			lists = append(lists, bad, append(bad, 0))
		}
	}
	return lists
}

func TestLabelClashesForAllArguments(t *testing.T) {
	check := func(list []impl.Mark, sides []int64, want string) {
		keepMarks(t, "LabelClashes", list, func(list []impl.Mark) {
			keepList(t, "LabelClashes", sides, func(sides []int64) {
				got := twice(t, "LabelClashes", func() []any {
					clashes, code := impl.LabelClashes(list, sides)
					return []any{clashes, code}
				})
				same(t, fmt.Sprint("LabelClashes ", list, sides), want, got...)
			})
		})
	}
	for _, list := range goodCharts() {
		for _, sides := range sidesFor(len(list)) {
			check(list, sides, clashesWanted(list, sides))
		}
	}
	for _, list := range badCharts() {
		for _, sides := range [][]int64{nil, {0}, {-1}, make([]int64, len(list)), make([]int64, len(list)+1)} {
			check(list, sides, "[] 1")
		}
	}
}

func TestPutLabels(t *testing.T) {
	for _, x := range []struct {
		list []impl.Mark
		want string
	}{
		{nil, "[] 0"},
		{[]impl.Mark{}, "[] 0"},
		{marks(0, 0, 9000), "[0] 0"},
		{marks(2000, 2000, 9000), "[0] 0"}, // beyond the edge is allowed
		{exampleChart(), "[0 0 0] 0"},
		{marks(20, 20, 9000, 22, 20, 9100), "[0 1] 0"},
		{marks(20, 20, 9000, 31, 20, 9000), "[0 2] 0"},
		{marks(20, 20, 9000, 32, 20, 9000), "[0 0] 0"},
		{marks(101, 124, 9000, 110, 118, 500), "[0 3] 0"},
		{marks(20, 20, 9000, 20, 21, 9000), "[0 1] 0"},
		{marks(0, 1, 0, 0, 0, 0), "[0 1] 0"},
		// Four marks at one spot take a side each; only because boxes may touch, but not overlap by one, the last two are not 2 and 3.
		{marks(100, 100, 9000, 100, 101, 9000, 101, 100, 9000, 101, 101, 9000), "[0 1 3 2] 0"},
		// The first mark cannot have the first side in any list.
		{marks(121, 118, 9000, 131, 117, -1500, 127, 116, 12000), "[1 0 3] 0"},
		{marks(100, 111, -1500, 102, 119, -1500, 101, 113, 9000, 101, 114, 12000), "[3 2 0 1] 0"},
		{marks(103, 109, 0, 104, 100, -1500, 105, 108, 9000, 104, 105, -1500, 108, 102, -1500), "[3 3 2 1 0] 0"},
		{marks(123, 102, 500, 123, 112, 0, 135, 107, -1500, 127, 105, 9000, 131, 110, 12000, 123, 107, -1500), "[3 3 3 2 0 1] 0"},
		{marks(115, 112, 0, 126, 104, 0, 105, 105, 0, 121, 110, 12000, 106, 111, 0, 112, 109, -1500, 124, 108, 12000), "[3 3 3 2 2 1 0] 0"},
		{marks(113, 100, 9000, 104, 100, 500, 123, 100, 0, 133, 102, 0, 131, 107, 9000, 122, 102, 9000, 128, 105, 9000, 111, 101, 9000), "[3 3 3 3 2 0 1 1] 0"},
		// Five marks at one spot are one too many.
		{marks(100, 100, 9000, 100, 101, 9000, 101, 100, 9000, 101, 101, 9000, 102, 100, 9000), "[] 9"},
		{marks(0, 0, 9000, 500, 500, 9000, 0, 1, 9000, 1, 0, 9000, 1, 1, 9000, 2, 0, 9000), "[] 9"},
		{marks(0, 0, 0, 0, 1, 0, 0, 2, 0, 1, 0, 0, 1, 1, 0, 1, 2, 0, 2, 0, 0, 2, 1, 0), "[] 9"},
		// MaxPut marks, and one more.
		{fullChart()[:8], "[0 2 0 0 0 0 1 2] 0"},
		{marks(0, 0, 1, 0, 8, 1, 0, 16, 1, 0, 24, 1, 0, 32, 1, 0, 40, 1, 0, 48, 1, 0, 56, 1), "[0 0 0 0 0 0 0 0] 0"},
		{fullChart()[:9], "[] 5"},
		{fullChart(), "[] 5"},
		{marks(0, 0, 0, 0, 1, 0, 0, 2, 0, 1, 0, 0, 1, 1, 0, 1, 2, 0, 2, 0, 0, 2, 1, 0, 2, 2, 0), "[] 5"}, // and no list either
		{make([]impl.Mark, 2), "[] 1"},
		{make([]impl.Mark, 9), "[] 1"},
		{append(fullChart()[:8], impl.Mark{X: -1}), "[] 1"},
		{append(fullChart(), marks(500, 500, 1)...), "[] 1"},
		{marks(100, 100, 9000, 100, 101, 9000, 101, 100, 9000, 101, 101, 9000, 102, 100, 20001), "[] 1"},
	} {
		sides, code := impl.PutLabels(x.list)
		same(t, fmt.Sprint("PutLabels ", x), x.want, sides, code)
	}
}

// putWanted goes through all lists of sides in order, and takes the first one without an overlap.
func putWanted(list []impl.Mark) string {
	n := len(list)
	if n > 8 {
		return "[] 5"
	}
	var meet [8][4][8][4]bool
	for i := range n {
		for k := range n {
			for one := range int64(4) {
				for two := range int64(4) {
					meet[i][one][k][two] = i < k && overlap(boxWanted(list[i], one), boxWanted(list[k], two))
				}
			}
		}
	}
	for number := range 1 << (2 * n) {
		sides := make([]int64, n)
		for i := range n {
			sides[i] = int64(number >> (2 * (n - 1 - i)) & 3)
		}
		good := true
		for i := range n {
			for k := range n {
				good = good && !meet[i][sides[i]][k][sides[k]]
			}
		}
		if good {
			return fmt.Sprint(sides, 0)
		}
	}
	return "[] 9"
}

func TestPutLabelsForAllCharts(t *testing.T) {
	charts := goodCharts()
	for seed := range uint64(250) {
		charts = append(charts, diceChart(1000+seed, 8))
	}
	codes := map[int64]int{}
	for _, list := range charts {
		want := putWanted(list)
		keepMarks(t, "PutLabels", list, func(list []impl.Mark) {
			got := twice(t, "PutLabels", func() []any {
				sides, code := impl.PutLabels(list)
				codes[code]++
				return []any{sides, code}
			})
			same(t, fmt.Sprint("PutLabels ", list), want, got...)
		})
	}
	if codes[impl.OK] < 100 || codes[impl.ErrClash] < 20 || codes[impl.ErrFull] < 20 {
		t.Errorf("the charts lead to these codes only: %v", codes)
	}
	for _, list := range badCharts() {
		sides, code := impl.PutLabels(list)
		same(t, fmt.Sprint("PutLabels ", list), "[] 1", sides, code)
	}
}

// TestPutLabelsDoNotOverlap is the first half of promise 7.
func TestPutLabelsDoNotOverlap(t *testing.T) {
	for seed := range uint64(3000) {
		list := diceChart(5000+seed, 8)
		sides, code := impl.PutLabels(list)
		if code == impl.ErrClash {
			continue
		}
		clashes, one := impl.LabelClashes(list, sides)
		same(t, fmt.Sprint("PutLabels ", list, sides), "0 0 0", code, len(clashes), one)
		var boxes [][]int64
		for i, m := range list {
			box, two := impl.LabelBox(m, sides[i])
			for _, other := range boxes {
				if two != impl.OK || overlap(box, other) {
					t.Errorf("PutLabels(%v): got %v, which puts %v over %v", list, sides, box, other)
				}
			}
			boxes = append(boxes, box)
		}
	}
}

func TestFieldOf(t *testing.T) {
	for _, x := range []struct {
		list []impl.Mark
		want string
	}{
		{exampleChart(), "[10 10 50 40] 0"},
		{marks(5, 6, 9000), "[5 6 5 6] 0"},
		{marks(0, 0, 20000), "[0 0 0 0] 0"},
		{marks(2000, 2000, -2000), "[2000 2000 2000 2000] 0"},
		{marks(0, 2000, 1, 2000, 0, 1), "[0 0 2000 2000] 0"},
		{marks(7, 3, 1, 5, 9, 1, 8, 4, 1), "[5 3 8 9] 0"},
		{marks(7, 3, 1, 7, 9, 1), "[7 3 7 9] 0"},
		{marks(3, 7, 1, 9, 7, 1), "[3 7 9 7] 0"},
		{edgeChart(), "[0 0 2000 2000] 0"},
		{fullChart(), "[0 0 75 36] 0"},
		{nil, "[] 3"},
		{[]impl.Mark{}, "[] 3"},
		{marks(5, 6, 1, 5, 6, 1), "[] 1"},
		{marks(5, 6, 20001), "[] 1"},
		{append(fullChart(), marks(500, 500, 1)...), "[] 1"},
	} {
		field, code := impl.FieldOf(x.list)
		same(t, fmt.Sprint("FieldOf ", x), x.want, field, code)
	}
}

func TestFieldOfAllCharts(t *testing.T) {
	for _, list := range goodCharts() {
		want := "[] 3"
		if len(list) > 0 {
			var xs, ys []int64
			for _, m := range list {
				xs, ys = append(xs, m.X), append(ys, m.Y)
			}
			slices.Sort(xs)
			slices.Sort(ys)
			last := len(list) - 1
			want = fmt.Sprint([]int64{xs[0], ys[0], xs[last], ys[last]}, 0)
		}
		keepMarks(t, "FieldOf", list, func(list []impl.Mark) {
			got := twice(t, "FieldOf", func() []any {
				field, code := impl.FieldOf(list)
				return []any{field, code}
			})
			same(t, fmt.Sprint("FieldOf ", list), want, got...)
		})
	}
	for _, list := range badCharts() {
		field, code := impl.FieldOf(list)
		same(t, fmt.Sprint("FieldOf ", list), "[] 1", field, code)
	}
}

func TestMarkText(t *testing.T) {
	for want, m := range map[string][]impl.Mark{
		"10,10 92":      marks(10, 10, 9150),
		"0,0 0":         marks(0, 0, 0),
		"0,0 -20":       marks(0, 0, -2000),
		"2000,2000 200": marks(2000, 2000, 20000),
		"7,1234 0":      marks(7, 1234, -50),
		"1234,7 -1":     marks(1234, 7, -51),
		"100,5 1":       marks(100, 5, 50),
	} {
		same(t, fmt.Sprint("MarkText ", m), want, impl.MarkText(m[0]))
	}
	for _, m := range badMarks() {
		same(t, fmt.Sprint("MarkText ", m), "", impl.MarkText(m))
	}
}

// TestResultsOfChartsAreNewSlices changes each result with its unused capacity, and asks again.
func TestResultsOfChartsAreNewSlices(t *testing.T) {
	list := exampleChart()
	near := marks(20, 20, 9000, 22, 20, 9100, 24, 20, 9100)
	sides := []int64{0, 0, 0}
	for i, call := range []func() []int64{
		func() []int64 { gaps, _ := impl.MagGaps(list, 0); return gaps },
		func() []int64 { box, _ := impl.LabelBox(list[0], 2); return box },
		func() []int64 { put, _ := impl.PutLabels(list); return put },
		func() []int64 { field, _ := impl.FieldOf(list); return field },
	} {
		first := call()
		want := fmt.Sprint(first)
		for k := range first[:cap(first)] {
			first[:cap(first)][k] = spare
		}
		same(t, fmt.Sprint("call ", i), want+" "+fmt.Sprint(exampleChart()), call(), list)
	}
	clashes, _ := impl.LabelClashes(near, sides)
	_ = append(clashes[0], spare)
	clashes[0][1] = spare
	again, _ := impl.LabelClashes(near, sides)
	same(t, "pairs", "[[0 -987654321] [0 2] [1 2]] [[0 1] [0 2] [1 2]] [0 0 0]", clashes, again, sides)
}

// TestChartsForAllArguments is promise 1 for chapter 7: each call returns, and returns the same again.
func TestChartsForAllArguments(t *testing.T) {
	lists := append(goodCharts()[:20], badCharts()...)
	some := append(badMarks(), exampleChart()...)
	for i, list := range lists {
		other := lists[i*31%len(lists)]
		for _, m := range some {
			keepMarks(t, "charts", list, func(list []impl.Mark) {
				twice(t, "charts", func() []any {
					more, one := impl.AddMark(list, m)
					nearest, two := impl.NearestMark(list, m.X, m.Y)
					a, b, three := impl.PairFor(list, m.Mag)
					gaps, four := impl.MagGaps(list, m.Mag)
					box, five := impl.LabelBox(m, m.X)
					clashes, six := impl.LabelClashes(list, []int64{m.X, m.Y, m.Mag})
					sides, seven := impl.PutLabels(list)
					field, eight := impl.FieldOf(list)
					return []any{impl.ValidChart(list), impl.SameChart(list, other), more, one, nearest, two, a, b, three, gaps, four,
						box, five, clashes, six, sides, seven, field, eight, impl.LabelOf(m.Mag), impl.LabelOf(m.Y), impl.MarkText(m)}
				})
			})
		}
	}
}
