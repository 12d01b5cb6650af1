package tests

import (
	"fmt"
	"math/big"
	"slices"
	"strings"
	"testing"

	"loop.example/g01026/impl"
)

// edgeMags are numbers at and beside the limits of magnitudes.
var edgeMags = numbers(-2001, -2000, -1999, -1, 0, 1, 9001, 19999, 20000, 20001)

// edgeSteps are numbers at and beside the limits of steps and parts.
var edgeSteps = numbers(-51, -50, -49, -1, 0, 1, 2, 3, 49, 50, 51)

// badLists are lists with an element that is no magnitude, or with too many elements.
func badLists() [][]int64 {
	list := [][]int64{
		{-2001}, {20001}, {9000, -2001}, {20001, 9000}, {9000, 20001, 9000},
		make([]int64, 101), make([]int64, 5000),
		append(make([]int64, 99), 20001), append(make([]int64, 100), -2001),
	}
	for _, n := range extremes {
		list = append(list, []int64{n}, []int64{0, n, 0})
	}
	return list
}

// goodLists are lists of magnitudes, the longest ones of just as many as there may be.
func goodLists() [][]int64 {
	list := [][]int64{
		{0}, {-2000}, {20000}, {-2000, 20000}, {20000, -2000}, {9000, 9101}, {9101, 9000}, {0, -1}, {-1, -2},
		{1, 0}, {-1, 0, 0}, {1, 1, 0}, {0, 0, -1, -1}, {9000, 9200, 9100}, {3, 1, 2, 2}, {5, 5, 5, 5, 5},
		make([]int64, 100),
	}
	seed := int64(7)
	for count := 1; count <= 100; count++ {
		x := make([]int64, count)
		for i := range x {
			seed = (75*seed + 74) % 65537
			x[i] = seed%22001 - 2000
			if count%3 == 0 { // with many equal ones
				x[i] = seed%5 - 2
			}
		}
		list = append(list, x)
	}
	return list
}

func TestConstantsOfMagnitudes(t *testing.T) {
	same(t, "constants", "-2000 20000 50 100", impl.MinMag, impl.MaxMag, impl.MaxSteps, impl.MaxMags)
}

func TestValidMag(t *testing.T) {
	for _, m := range []int64{-2000, -1999, -1, 0, 1, 9000, 19999, 20000} {
		if !impl.ValidMag(m) {
			t.Errorf("ValidMag(%d): got false", m)
		}
	}
	for _, m := range numbers(-2001, 20001, -20000, 1_000_000) {
		if impl.ValidMag(m) {
			t.Errorf("ValidMag(%d): got true", m)
		}
	}
}

func TestRoundFractionOfHalves(t *testing.T) {
	for _, x := range []struct{ num, den, want int64 }{
		{7, 2, 4}, {-7, 2, -3}, {1, 2, 1}, {-1, 2, 0}, {3, 2, 2}, {-3, 2, -1}, {5, 10, 1}, {-5, 10, 0},
		{0, 1, 0}, {0, 7, 0}, {4, 1, 4}, {-4, 1, -4}, {14, 4, 4}, {-14, 4, -3},
		{1, 3, 0}, {2, 3, 1}, {-1, 3, 0}, {-2, 3, -1}, {4, 9, 0}, {5, 9, 1}, {-4, 9, 0}, {-5, 9, -1},
		{499, 1000, 0}, {500, 1000, 1}, {501, 1000, 1}, {-499, 1000, 0}, {-500, 1000, 0}, {-501, 1000, -1},
		{1_000_000_000_000_000, 1, 1_000_000_000_000_000},
		{-1_000_000_000_000_000, 1, -1_000_000_000_000_000},
		{999_999_999_999_999, 2, 500_000_000_000_000},
		{-999_999_999_999_999, 2, -499_999_999_999_999},
		{500_000_000, 1_000_000_000, 1}, {499_999_999, 1_000_000_000, 0},
		{-500_000_000, 1_000_000_000, 0}, {-500_000_001, 1_000_000_000, -1},
		{1_000_000_000_000_000, 1_000_000_000, 1_000_000},
	} {
		got, code := impl.RoundFraction(impl.Fraction{Num: x.num, Den: x.den})
		same(t, fmt.Sprintf("RoundFraction(%d/%d)", x.num, x.den), fmt.Sprint(x.want, 0), got, code)
	}
}

func TestRoundFractionAtItsLimits(t *testing.T) {
	const most = 1_000_000_000_000_000
	nums := numbers(-most-1, -most, 1-most, -3, -1, 0, 1, 3, most-1, most, most+1)
	dens := numbers(-2, -1, 0, 1, 2, 3, 999_999_999, 1_000_000_000, 1_000_000_001)
	for _, num := range nums {
		for _, den := range dens {
			want := fmt.Sprint(0, impl.ErrInvalid)
			if between(num, -most, most) && between(den, 1, 1_000_000_000) {
				want = fmt.Sprint(nearestOf(big.NewRat(num, den)), 0)
			}
			name := fmt.Sprintf("RoundFraction(%d/%d)", num, den)
			got := twice(t, name, func() []any {
				n, code := impl.RoundFraction(impl.Fraction{Num: num, Den: den})
				return []any{n, code}
			})
			same(t, name, want, got...)
		}
	}
}

func TestRoundFractionIsNearest(t *testing.T) {
	for num := int64(-200); num <= 200; num++ {
		for den := int64(1); den <= 40; den++ {
			got, code := impl.RoundFraction(impl.Fraction{Num: num, Den: den})
			if want := nearestOf(big.NewRat(num, den)); got != want || code != impl.OK {
				t.Fatalf("RoundFraction(%d/%d): got %d %d, want %d", num, den, got, code, want)
			}
		}
	}
}

func TestBetweenStars(t *testing.T) {
	for _, x := range []struct{ a, b, p, q, want int64 }{
		{9000, 9500, 1, 4, 9100}, {9500, 9000, 4, 1, 9100}, {9000, 9500, 0, 1, 9000}, {9000, 9500, 50, 0, 9500},
		{9000, 9001, 1, 1, 9001}, {9001, 9000, 1, 1, 9001}, {0, -1, 1, 1, 0}, {-1, 0, 1, 1, 0},
		{-1, -2, 1, 1, -1}, {-2, -1, 1, 1, -1}, {-2000, 20000, 1, 1, 9000}, {-2000, 20000, 50, 1, 19569},
		{-1000, -2000, 1, 2, -1333}, {-1000, -2000, 2, 1, -1667}, {20000, 20000, 50, 50, 20000},
		{0, 3, 1, 5, 1}, {0, -3, 1, 5, 0}, {0, 3, 5, 1, 3}, {0, -3, 5, 1, -2},
	} {
		got, code := impl.BetweenStars(x.a, x.b, x.p, x.q)
		same(t, fmt.Sprint("BetweenStars", x), fmt.Sprint(x.want, 0), got, code)
	}
}

func betweenWanted(a, b, p, q int64) (int64, int64) {
	if !isMag(a) || !isMag(b) || !between(p, 0, 50) || !between(q, 0, 50) {
		return 0, impl.ErrRange
	}
	if p+q == 0 {
		return 0, impl.ErrState
	}
	x := big.NewRat((b-a)*p, p+q)
	return nearestOf(x.Add(x, big.NewRat(a, 1))), impl.OK
}

func TestBetweenStarsForAllArguments(t *testing.T) {
	for _, a := range edgeMags {
		for _, b := range edgeMags {
			for _, p := range edgeSteps {
				for _, q := range edgeSteps {
					want, wantCode := betweenWanted(a, b, p, q)
					got, code := impl.BetweenStars(a, b, p, q)
					again, codeAgain := impl.BetweenStars(a, b, p, q)
					if got != want || code != wantCode || again != got || codeAgain != code {
						t.Fatalf("BetweenStars(%d, %d, %d, %d): got %d %d, want %d %d", a, b, p, q, got, code, want, wantCode)
					}
				}
			}
		}
	}
}

// TestBetweenStarsIsBetween is the first half of promise 2.
func TestBetweenStarsIsBetween(t *testing.T) {
	mags := []int64{-2000, -1999, -777, -1, 0, 1, 2, 9000, 9001, 19999, 20000}
	for _, a := range mags {
		for _, b := range mags {
			for p := int64(0); p <= impl.MaxSteps; p++ {
				for q := int64(0); q <= impl.MaxSteps; q++ {
					if p+q == 0 {
						continue
					}
					got, code := impl.BetweenStars(a, b, p, q)
					if code != impl.OK || got < min(a, b) || got > max(a, b) {
						t.Fatalf("BetweenStars(%d, %d, %d, %d): got %d %d", a, b, p, q, got, code)
					}
				}
			}
		}
	}
}

func TestStepSize(t *testing.T) {
	for _, x := range []struct{ a, b, steps, num, den int64 }{
		{9000, 9500, 4, 125, 1}, {9500, 9000, 4, -125, 1}, {9000, 9001, 2, 1, 2}, {9001, 9000, 2, -1, 2},
		{9000, 9004, 6, 2, 3}, {9004, 9000, 6, -2, 3}, {9000, 9000, 50, 0, 1}, {0, 0, 1, 0, 1},
		{-2000, 20000, 50, 440, 1}, {20000, -2000, 49, -22000, 49}, {-2000, 20000, 1, 22000, 1},
		{-1000, -1015, 50, -3, 10}, {-5, 5, 4, 5, 2},
	} {
		size, code := impl.StepSize(x.a, x.b, x.steps)
		same(t, fmt.Sprint("StepSize", x), fmt.Sprintf("{%d %d} 0", x.num, x.den), size, code)
	}
}

func TestStepSizeForAllArguments(t *testing.T) {
	for _, a := range edgeMags {
		for _, b := range edgeMags {
			for _, steps := range append(slices.Clone(edgeSteps), 4, 5, 6, 10, 48) {
				want, wantCode := impl.Fraction{}, int64(impl.ErrRange)
				if isMag(a) && isMag(b) && between(steps, 1, 50) {
					x := big.NewRat(b-a, steps)
					want, wantCode = impl.Fraction{Num: x.Num().Int64(), Den: x.Denom().Int64()}, impl.OK
				}
				got, code := impl.StepSize(a, b, steps)
				again, codeAgain := impl.StepSize(a, b, steps)
				if got != want || code != wantCode || again != got || codeAgain != code {
					t.Fatalf("StepSize(%d, %d, %d): got %v %d, want %v %d", a, b, steps, got, code, want, wantCode)
				}
			}
		}
	}
}

func TestBySteps(t *testing.T) {
	for _, x := range []struct{ a, steps, num, den, want, code int64 }{
		{9000, 3, 125, 1, 9375, 0}, {9000, -3, 125, 1, 8625, 0}, {9000, 0, 125, 1, 9000, 0}, {9000, 50, 0, 1, 9000, 0},
		{9000, 1, 1, 2, 9001, 0}, {9000, -1, 1, 2, 9000, 0}, {9000, 1, -1, 2, 9000, 0}, {9000, 3, -1, 2, 8999, 0},
		{0, 1, -1, 2, 0, 0}, {0, 1, 1, 2, 1, 0}, {-1, 1, -1, 2, -1, 0}, {-1, 1, 1, 2, 0, 0}, {0, 3, -1, 2, -1, 0},
		{9000, 2, 2, 4, 9001, 0}, {9000, 3, 14, 4, 9011, 0}, {-1000, 7, -100, 3, -1233, 0}, {-1000, 4, -100, 3, -1133, 0},
		{-1000, 1, -2, 3, -1001, 0}, {19990, 10, 1, 1, 20000, 0}, {19990, 10, 100, 1, 0, impl.ErrFull},
		{19990, 11, 1, 1, 0, impl.ErrFull}, {20000, 1, 499, 1000, 20000, 0}, {20000, 1, 1, 2, 0, impl.ErrFull},
		{-2000, -1, 1, 2, -2000, 0}, {-2000, 1, -501, 1000, 0, impl.ErrFull}, {-2000, -1, 1, 1, 0, impl.ErrFull},
		{-1999, -1, 1, 1, -2000, 0}, {0, 50, 1_000_000, 1, 0, impl.ErrFull}, {0, -50, 1_000_000, 1, 0, impl.ErrFull},
		{0, 50, 1_000_000, 1000, 0, impl.ErrFull}, {0, 20, 1_000_000, 1000, 20000, 0},
	} {
		got, code := impl.BySteps(x.a, x.steps, impl.Fraction{Num: x.num, Den: x.den})
		same(t, fmt.Sprint("BySteps", x), fmt.Sprint(x.want, x.code), got, code)
	}
}

func byStepsWanted(a, steps int64, size impl.Fraction) (int64, int64) {
	if !isMag(a) || !between(steps, -50, 50) || !between(size.Num, -1_000_000, 1_000_000) || !between(size.Den, 1, 1000) {
		return 0, impl.ErrRange
	}
	x := big.NewRat(steps*size.Num, size.Den)
	m := nearestOf(x.Add(x, big.NewRat(a, 1)))
	if !isMag(m) {
		return 0, impl.ErrFull
	}
	return m, impl.OK
}

func TestByStepsForAllArguments(t *testing.T) {
	nums := numbers(-1_000_001, -1_000_000, -999_999, -500, -1, 0, 1, 3, 500, 999_999, 1_000_000, 1_000_001)
	dens := numbers(-1, 0, 1, 2, 3, 999, 1000, 1001)
	for _, a := range edgeMags {
		for _, steps := range edgeSteps {
			for _, num := range nums {
				for _, den := range dens {
					size := impl.Fraction{Num: num, Den: den}
					want, wantCode := byStepsWanted(a, steps, size)
					got, code := impl.BySteps(a, steps, size)
					again, codeAgain := impl.BySteps(a, steps, size)
					if got != want || code != wantCode || again != got || codeAgain != code {
						t.Fatalf("BySteps(%d, %d, %v): got %d %d, want %d %d", a, steps, size, got, code, want, wantCode)
					}
				}
			}
		}
	}
}

// TestStepsLeadFromStarToStar is the second half of promise 2.
func TestStepsLeadFromStarToStar(t *testing.T) {
	mags := []int64{-2000, -1999, -777, -1, 0, 1, 2, 9000, 9001, 9500, 19999, 20000}
	for _, a := range mags {
		for _, b := range mags {
			for steps := int64(1); steps <= impl.MaxSteps; steps++ {
				size, code := impl.StepSize(a, b, steps)
				there, codeThere := impl.BySteps(a, steps, size)
				back, codeBack := impl.BySteps(b, -steps, size)
				if code != 0 || there != b || codeThere != 0 || back != a || codeBack != 0 {
					t.Fatalf("%d steps of %v: from %d to %d, and from %d to %d", steps, size, a, there, b, back)
				}
				for p := int64(0); p <= steps; p++ {
					on, codeOn := impl.BySteps(a, p, size)
					part, codePart := impl.BetweenStars(a, b, p, steps-p)
					if on != part || codeOn != 0 || codePart != 0 {
						t.Fatalf("%d of %d steps from %d to %d: %d, but between stars %d", p, steps, a, b, on, part)
					}
				}
			}
		}
	}
}

func TestMeanMag(t *testing.T) {
	for _, x := range []struct {
		list []int64
		want int64
	}{
		{[]int64{9000, 9101}, 9051}, {[]int64{9000}, 9000}, {[]int64{-2000}, -2000}, {[]int64{20000, 20000}, 20000},
		{[]int64{0, 1}, 1}, {[]int64{0, -1}, 0}, {[]int64{-1, -2}, -1}, {[]int64{1, 0, 0}, 0}, {[]int64{1, 1, 0}, 1},
		{[]int64{-1, 0, 0}, 0}, {[]int64{-1, -1, 0}, -1}, {[]int64{-2000, 20000}, 9000}, {[]int64{1, 0, 0, 0}, 0},
		{[]int64{1, 1, 0, 0}, 1}, {[]int64{-1, -1, 0, 0}, 0}, {[]int64{-1, -1, -1, 0}, -1},
	} {
		got, code := impl.MeanMag(x.list)
		same(t, fmt.Sprint("MeanMag", x.list), fmt.Sprint(x.want, 0), got, code)
	}
}

func TestMedianMag(t *testing.T) {
	for _, x := range []struct {
		list []int64
		want int64
	}{
		{[]int64{9000, 9200, 9100}, 9100}, {[]int64{9000}, 9000}, {[]int64{9000, 9101}, 9051}, {[]int64{9101, 9000}, 9051},
		{[]int64{0, -1}, 0}, {[]int64{-1, -2}, -1}, {[]int64{-1, -4}, -2}, {[]int64{1, 0}, 1}, {[]int64{5, 1, 5, 1}, 3},
		{[]int64{4, 1, 3, 2}, 3}, {[]int64{-4, -1, -3, -2}, -2}, {[]int64{20000, -2000, -2000}, -2000},
		{[]int64{7, 7, 7, 7}, 7}, {[]int64{100, 9, 20}, 20}, {[]int64{-5, 5, 0}, 0},
	} {
		got, code := impl.MedianMag(x.list)
		same(t, fmt.Sprint("MedianMag", x.list), fmt.Sprint(x.want, 0), got, code)
	}
}

func TestRangeOfMags(t *testing.T) {
	for list, want := range map[[3]int64]string{
		{9000, 9200, 9100}: "9000 9200 0", {9200, 9000, 9100}: "9000 9200 0", {9100, 9200, 9000}: "9000 9200 0",
		{5, 5, 5}: "5 5 0", {-2000, 0, 20000}: "-2000 20000 0", {-3, -1, -2}: "-3 -1 0",
	} {
		low, high, code := impl.RangeOfMags(list[:])
		same(t, fmt.Sprint("RangeOfMags", list), want, low, high, code)
	}
	low, high, code := impl.RangeOfMags([]int64{-7})
	same(t, "RangeOfMags of one", "-7 -7 0", low, high, code)
}

// rankOf counts the elements of list that are less than m, and those that are at most m.
func rankOf(list []int64, m int64) (int, int) {
	less, most := 0, 0
	for _, x := range list {
		if x < m {
			less++
		}
		if x <= m {
			most++
		}
	}
	return less, most
}

// atRank returns the element that would stand at an index if the list were ordered.
func atRank(list []int64, index int) int64 {
	for _, m := range list {
		if less, most := rankOf(list, m); less <= index && index < most {
			return m
		}
	}
	panic("no such rank")
}

func TestListsOfMagnitudes(t *testing.T) {
	for _, list := range goodLists() {
		count, sum := len(list), int64(0)
		for _, m := range list {
			sum += m
		}
		mean := nearestOf(big.NewRat(sum, int64(count)))
		median := nearestOf(big.NewRat(atRank(list, (count-1)/2)+atRank(list, count/2), 2))
		want := fmt.Sprint(mean, 0, median, 0, atRank(list, 0), atRank(list, count-1), 0)
		keepList(t, "lists", list, func(list []int64) {
			got := twice(t, "lists", func() []any { return formed(list) })
			same(t, fmt.Sprint("lists ", list), want, got...)
		})
	}
}

// formed returns all that is formed from a list.
func formed(list []int64) []any {
	mean, one := impl.MeanMag(list)
	median, two := impl.MedianMag(list)
	low, high, three := impl.RangeOfMags(list)
	return []any{mean, one, median, two, low, high, three}
}

func TestListsWithoutMagnitudes(t *testing.T) {
	same(t, "nil", "0 3 0 3 0 0 3", formed(nil)...)
	same(t, "empty", "0 3 0 3 0 0 3", formed([]int64{})...)
	for _, list := range badLists() {
		keepList(t, "bad lists", list, func(list []int64) {
			got := twice(t, "bad lists", func() []any { return formed(list) })
			same(t, fmt.Sprint("bad list ", list), "0 2 0 2 0 0 2", got...)
		})
	}
}

func TestEnclosingPair(t *testing.T) {
	for _, x := range []struct {
		comps []int64
		m     int64
		want  string
	}{
		{[]int64{9500, 9000, 9200}, 9300, "2 0 0"},
		{[]int64{9500, 9000, 9200}, 9200, "2 0 0"},
		{[]int64{9500, 9000, 9200}, 9199, "1 2 0"},
		{[]int64{9500, 9000, 9200}, 9000, "1 2 0"},
		{[]int64{9500, 9000, 9200}, 8999, "0 0 3"},
		{[]int64{9500, 9000, 9200}, 9499, "2 0 0"},
		{[]int64{9500, 9000, 9200}, 9500, "0 0 3"},
		{[]int64{9200, 9200, 9300, 9300}, 9250, "0 2 0"},
		{[]int64{9300, 9300, 9200, 9200}, 9250, "2 0 0"},
		{[]int64{9100, 9200, 9200, 9400, 9300, 9300}, 9250, "1 4 0"},
		{[]int64{-2000, 20000}, -2000, "0 1 0"},
		{[]int64{-2000, 20000}, 19999, "0 1 0"},
		{[]int64{-2000, 20000}, 20000, "0 0 3"},
		{[]int64{0, -1}, -1, "1 0 0"},
		{[]int64{0, -1}, 0, "0 0 3"},
		{[]int64{-1, -3}, -2, "1 0 0"},
		{[]int64{1, 0}, 0, "1 0 0"},
		{[]int64{9000}, 9000, "0 0 3"},
		{[]int64{9000}, 8999, "0 0 3"},
		{nil, 9000, "0 0 3"},
		{[]int64{}, 9000, "0 0 3"},
		{nil, -2001, "0 0 2"},
		{[]int64{9000, 9500}, 20001, "0 0 2"},
	} {
		a, b, code := impl.EnclosingPair(x.comps, x.m)
		same(t, fmt.Sprint("EnclosingPair", x), x.want, a, b, code)
	}
}

// pairWanted orders the indices on each side of m, by distance and then by index, and takes the first ones.
func pairWanted(comps []int64, m int64) string {
	var below, above []int
	for i, x := range comps {
		if x <= m {
			below = append(below, i)
		} else {
			above = append(above, i)
		}
	}
	if len(below) == 0 || len(above) == 0 {
		return "0 0 3"
	}
	slices.SortStableFunc(below, func(i, k int) int { return int(comps[k] - comps[i]) })
	slices.SortStableFunc(above, func(i, k int) int { return int(comps[i] - comps[k]) })
	return fmt.Sprint(below[0], above[0], 0)
}

func TestEnclosingPairForAllArguments(t *testing.T) {
	for _, comps := range goodLists() {
		for _, m := range append([]int64{-3, -2, 2, 3, 4000, 12000}, edgeMags...) {
			want := "0 0 2"
			if isMag(m) {
				want = pairWanted(comps, m)
			}
			keepList(t, "EnclosingPair", comps, func(comps []int64) {
				got := twice(t, "EnclosingPair", func() []any {
					a, b, code := impl.EnclosingPair(comps, m)
					return []any{a, b, code}
				})
				same(t, fmt.Sprint("EnclosingPair ", comps, m), want, got...)
			})
		}
	}
	for _, comps := range badLists() {
		for _, m := range edgeMags {
			a, b, code := impl.EnclosingPair(comps, m)
			same(t, fmt.Sprint("EnclosingPair ", comps, m), "0 0 2", a, b, code)
		}
	}
}

func TestMagText(t *testing.T) {
	for m, want := range map[int64]string{
		9100: "9.100", -1460: "-1.460", 0: "0.000", 1: "0.001", -1: "-0.001", 10: "0.010", -99: "-0.099",
		999: "0.999", 1000: "1.000", 1001: "1.001", -1000: "-1.000", -999: "-0.999", -1001: "-1.001",
		9999: "9.999", 10000: "10.000", 10010: "10.010", 20000: "20.000", 19999: "19.999", -2000: "-2.000",
		-1999: "-1.999", 2340: "2.340",
	} {
		if got := impl.MagText(m); got != want {
			t.Errorf("MagText(%d): got %q, want %q", m, got, want)
		}
	}
	for _, m := range numbers(-2001, 20001, -3000, 100000) {
		if got := impl.MagText(m); got != "" {
			t.Errorf("MagText(%d): got %q", m, got)
		}
	}
}

func TestReadMagGivesBackAllMagnitudes(t *testing.T) {
	for m := int64(impl.MinMag); m <= impl.MaxMag; m++ {
		if got, ok := impl.ReadMag(impl.MagText(m)); got != m || !ok {
			t.Fatalf("ReadMag(%q): got %d %v, want %d", impl.MagText(m), got, ok, m)
		}
	}
}

func TestReadMagOfNearlyRightTexts(t *testing.T) {
	list := append(slices.Clone(oddTexts),
		"9", "9.", "9.1", "9.10", "9.1000", "9100", "91.00", "910.0", "9100.", ".9100", ".100", "-.100", "09.100", "009.100",
		"+9.100", "-0.000", "--1.000", "-+1.000", "0.0000", "00.000", "-00.001", "-01.000", "- 1.000", "9 .100", "9. 100",
		"9..100", "9.1.00", "9.100.", ".9.100", "9.-100", "9.+100", "9.1a0", "a.100", "9:100", "9-100", "-2.001", "20.001",
		"-2.000 ", "20.0000", "100.000", "-10.000", "9.100\x00", "\x009.100", "9\xff.100", "9.10", "９.100", "9\u066b100",
		"9223372036854775.807", "-9223372036854775.808", "9223372036854775.808", "18446744073709551.616",
		"18446744073709560.716", strings.Repeat("0", 1000)+"9.100", "9.100"+strings.Repeat("0", 1000), strings.Repeat(".", 1000))
	for _, s := range list {
		if got, ok := impl.ReadMag(s); got != 0 || ok {
			t.Errorf("ReadMag(%q): got %d %v", s, got, ok)
		}
	}
}

// TestTextsOfMagnitudesForAllArguments is promise 1 for ValidMag, MagText and ReadMag.
func TestTextsOfMagnitudesForAllArguments(t *testing.T) {
	for _, m := range edgeMags {
		twice(t, "numbers", func() []any { return []any{impl.ValidMag(m), impl.MagText(m)} })
	}
	for _, s := range append(slices.Clone(oddTexts), "9.100", "-2.000") {
		twice(t, "texts", func() []any {
			m, ok := impl.ReadMag(s)
			return []any{m, ok}
		})
	}
}
