package tests

import (
	"fmt"
	"math"
	"math/rand/v2"
	"reflect"
	"regexp"
	"slices"
	"sort"
	"strconv"
	"strings"
	"testing"

	"loop.example/g01026/impl"
)

// exampleText is the text of exampleEstimates.
const exampleText = "100 mira ab 3.400\n350 mira ab 5.500\n350 mira cd 4.500\n400 mira ab <6.000\n"

// edgeApart are numbers at and beside the limits of the time between two estimates.
var edgeApart = numbers(-100000, -1, 0, 1, 49, 50, 51, 99, 100, 99999, 100000, 100001)

// edgeBy are numbers at and beside the limits of the difference of two estimates.
var edgeBy = numbers(-20000, -1, 0, 1, 2, 499, 500, 501, 19999, 20000, 20001, 22000)

// estimates reads lines such as `400 mira ab <6000`: magnitudes are whole numbers here, and names may be any words.
func estimates(lines ...string) []impl.Estimate {
	list := make([]impl.Estimate, len(lines))
	for i, line := range lines {
		words := strings.Split(line, " ")
		digits, fainter := strings.CutPrefix(words[3], "<")
		time, one := strconv.ParseInt(words[0], 10, 64)
		mag, two := strconv.ParseInt(digits, 10, 64)
		if one != nil || two != nil || len(words) != 4 {
			panic("no estimate: " + line)
		}
		list[i] = impl.Estimate{Time: time, Star: words[1], Observer: words[2], Mag: mag, Fainter: fainter}
	}
	return list
}

func exampleEstimates() []impl.Estimate {
	return estimates("100 mira ab 3400", "350 mira ab 5500", "350 mira cd 4500", "400 mira ab <6000")
}

// edgeEstimates have times and magnitudes at both ends of their ranges, and are ordered by just one of the three fields.
func edgeEstimates() []impl.Estimate {
	return estimates("0 a a -2000", "0 a a- <-2000", "0 a a0 <20000", "0 a aa 20000", "0 a b 0", "0 a- a <0", "0 a0 a -1",
		"0 aa a <-1", "0 z9- abcdefghijkl 1", "0 z9-z9-z9-z9- a 999", "1 a a 1000", "9999999 zz zz 9999", "10000000 a zz <19999", "10000000 abcdefghijkl a 1", "10000000 b a <1")
}

// fullEstimates are as many estimates as there may be, of 4 stars by 5 observers.
func fullEstimates() []impl.Estimate {
	list := make([]impl.Estimate, 100)
	for i := range list {
		n := int64(i)
		list[i] = impl.Estimate{Time: n / 10 * 1000, Star: fmt.Sprint("s", n/5%2+n/50*2), Observer: fmt.Sprint("o", n%5), Mag: n*2237%22001 - 2000, Fainter: n%3 == 0}
	}
	return list
}

// diceEstimates are estimates by chance, the same ones in every run.
func diceEstimates(seed uint64) []impl.Estimate {
	r := rand.New(rand.NewPCG(6, seed))
	pick := func(list ...int64) int64 { return list[r.IntN(len(list))] }
	last := pick(2, 5, 60, 10_000_000)
	names := int(pick(1, 2, 3, 9))
	middle, width := pick(-2000, 0, 9000, 20000), pick(1, 3, 600, 22000)
	var list []impl.Estimate
	for range pick(1, 3, 10, 40, 100, 200) {
		e := impl.Estimate{Time: r.Int64N(last + 1), Star: fmt.Sprint("s", r.IntN(names)), Observer: fmt.Sprint("o", r.IntN(names)),
			Mag: min(max(middle+r.Int64N(2*width+1)-width, -2000), 20000), Fainter: r.IntN(3) == 0}
		if len(list) < 100 && !slices.ContainsFunc(list, func(x impl.Estimate) bool { return samePlace(x, e) }) {
			list = append(list, e)
		}
	}
	return inOrder(list)
}

func samePlace(a, b impl.Estimate) bool {
	return a.Time == b.Time && a.Star == b.Star && a.Observer == b.Observer
}

func isBefore(a, b impl.Estimate) bool {
	switch {
	case a.Time != b.Time:
		return a.Time < b.Time
	case a.Star != b.Star:
		return a.Star < b.Star
	}
	return a.Observer < b.Observer
}

// inOrder returns the elements, all of different places, in order.
func inOrder(list []impl.Estimate) []impl.Estimate {
	ordered := slices.Clone(list)
	sort.Slice(ordered, func(i, k int) bool { return isBefore(ordered[i], ordered[k]) })
	return ordered
}

func isEstimate(e impl.Estimate) bool {
	return isTime(e.Time) && impl.IsName(e.Star) && impl.IsName(e.Observer) && isMag(e.Mag)
}

func goodEstimateLists() [][]impl.Estimate {
	list := [][]impl.Estimate{
		nil, {}, estimates("0 a a 0"), exampleEstimates(), edgeEstimates(), fullEstimates()[:1], fullEstimates()[:99], fullEstimates()[1:], fullEstimates(),
		estimates("5 m a 9000", "5 n a 9000"), estimates("5 m b 9000", "5 n a 9000"), estimates("5 n b 9000", "6 m a 9000"),
	}
	for seed := range uint64(60) {
		list = append(list, diceEstimates(seed))
	}
	return list
}

// badEstimates are none by just one of their fields, but for the first one.
func badEstimates() []impl.Estimate {
	list := []impl.Estimate{{}}
	good := impl.Estimate{Time: 5, Star: "m", Observer: "a", Mag: 9000}
	for _, name := range append(slices.Clone(oddTexts), "Mira", "9m", "-m", "m m", "m_", "abcdefghijklm", "m\x00", "mïra", strings.Repeat("a", 5000)) {
		star, observer := good, good
		star.Star, observer.Observer = name, name
		list = append(list, star, observer)
	}
	for _, n := range numbers(-2, -1, 10_000_001, 10_000_002) {
		bad := good
		bad.Time = n
		list = append(list, bad)
	}
	for _, n := range numbers(-2001, -20000, 20001) {
		seen, limit := good, good
		seen.Mag, limit.Mag, limit.Fainter = n, n, true
		list = append(list, seen, limit)
	}
	return list
}

// badEstimateLists are those out of order, with two of the same place, with too many, or with one that is none.
func badEstimateLists() [][]impl.Estimate {
	more := func(list []impl.Estimate, lines ...string) []impl.Estimate {
		return append(list, estimates(lines...)...)
	}
	list := [][]impl.Estimate{
		estimates("6 m a 9000", "5 m a 9000"), estimates("6 m a 9000", "5 n b 9000"), estimates("5 n a 9000", "5 m a 9000"), estimates("5 n a 9000", "5 m b 9000"),
		estimates("5 m b 9000", "5 m a 9000"), estimates("5 m aa 9000", "5 m a 9000"), estimates("5 m a0 9000", "5 m a- 9000"), estimates("5 a0 a 9000", "5 a- a 9000"),
		estimates("5 m a 9000", "5 m a 9000"), estimates("5 m a 9000", "5 m a 9001"), estimates("5 m a 9001", "5 m a 9000"),
		estimates("5 m a 9000", "5 m a <9000"), estimates("5 m a <9000", "5 m a 9000"), estimates("5 m a <9000", "5 m a <9000"),
		estimates("5 m a 9000", "5 m b 9000", "5 m b 9000"), estimates("1 m a 0", "3 m a 0", "2 m a 0"), estimates("2 m a 0", "1 m a 0", "3 m a 0"),
		more(fullEstimates(), "10000000 z z 0"), more(fullEstimates()[:99], "0 a a 0"), append(fullEstimates()[:99], fullEstimates()[98]),
		make([]impl.Estimate, 1), make([]impl.Estimate, 100), make([]impl.Estimate, 101),
	}
	for _, e := range badEstimates() {
		list = append(list, []impl.Estimate{e}, append(estimates("0 a a 0"), e), append([]impl.Estimate{e}, estimates("10000000 z z 0")...), append(fullEstimates()[:99], e))
	}
	for _, e := range estimates("10000001 z z 0", "10000000 Z z 0", "10000000 z Z 0", "10000000 z z 20001", "10000000 z z <-2001") {
		list = append(list, append(fullEstimates()[:99], e))
	}
	var long []impl.Estimate // in order, but too long
	for i := range int64(300) {
		long = append(long, impl.Estimate{Time: i, Star: "m", Observer: "a"})
	}
	return append(list, long, long[:101])
}

// keepEstimates is keep for lists of estimates.
func keepEstimates(t *testing.T, name string, list []impl.Estimate, f func(list []impl.Estimate)) {
	t.Helper()
	keep(t, name, list, impl.Estimate{Time: spare, Star: "spare", Observer: "spare", Mag: spare, Fainter: true}, f)
}

func TestConstantsOfEstimates(t *testing.T) { same(t, "constants", "100", impl.MaxEstimates) }

func TestValidEstimates(t *testing.T) {
	check := func(lists [][]impl.Estimate, want string) {
		for _, list := range lists {
			keepEstimates(t, "ValidEstimates", list, func(list []impl.Estimate) {
				same(t, fmt.Sprint("ValidEstimates ", list), want, twice(t, "ValidEstimates", func() []any { return []any{impl.ValidEstimates(list)} })...)
			})
		}
	}
	check(goodEstimateLists(), "true")
	check(badEstimateLists(), "false")
}

// TestEstimatesOutOfOrder swaps each two elements, and puts each element behind each one for a second time.
func TestEstimatesOutOfOrder(t *testing.T) {
	for _, list := range [][]impl.Estimate{exampleEstimates(), edgeEstimates(), fullEstimates()[:60]} {
		for i := range list {
			for k := range list {
				swapped := slices.Clone(list)
				swapped[i], swapped[k] = swapped[k], swapped[i]
				doubled := slices.Insert(slices.Clone(list), i+1, list[k])
				same(t, fmt.Sprint("elements ", i, k), fmt.Sprint(i == k, false), impl.ValidEstimates(swapped), impl.ValidEstimates(doubled))
			}
		}
	}
}

// TestEstimatesAtTheirLimits holds each field at and beside its limits against what the document says of an estimate.
func TestEstimatesAtTheirLimits(t *testing.T) {
	list := badEstimates()
	for _, time := range edgeTimes {
		list = append(list, impl.Estimate{Time: time, Star: "m", Observer: "a", Mag: 9000})
	}
	for _, mag := range edgeMags {
		list = append(list, impl.Estimate{Time: 5, Star: "m", Observer: "a", Mag: mag}, impl.Estimate{Time: 5, Star: "m", Observer: "a", Mag: mag, Fainter: true})
	}
	for _, name := range append(slices.Clone(oddTexts), "a", "z9-", "abcdefghijkl", "abcdefghijklm", "A") {
		list = append(list, impl.Estimate{Star: name, Observer: "a"}, impl.Estimate{Star: "a", Observer: name})
	}
	for _, e := range list {
		want := fmt.Sprintf("true [%v] 0 %q", e, lineWanted(e))
		if !isEstimate(e) {
			want = `false [] 2 ""`
		}
		added, code := impl.AddEstimate(nil, e)
		alone := []impl.Estimate{e}
		same(t, fmt.Sprint(e), want, impl.ValidEstimates(alone), added, code, fmt.Sprintf("%q", impl.EstimatesText(alone)))
	}
}

func TestSameEstimates(t *testing.T) {
	lists := append(goodEstimateLists()[:20], badEstimateLists()...)
	for i, a := range lists {
		for k, b := range lists {
			want := len(a) == 0 && len(b) == 0 || reflect.DeepEqual(a, b)
			if got := impl.SameEstimates(a, b); got != want {
				t.Fatalf("SameEstimates of lists %d and %d: got %v", i, k, got)
			}
		}
	}
	for _, list := range [][]impl.Estimate{exampleEstimates(), fullEstimates(), make([]impl.Estimate, 150)} {
		for i := range list {
			for field, change := range []func(e *impl.Estimate){
				func(e *impl.Estimate) {}, func(e *impl.Estimate) { e.Time++ }, func(e *impl.Estimate) { e.Star += "x" },
				func(e *impl.Estimate) { e.Observer += "x" }, func(e *impl.Estimate) { e.Mag-- }, func(e *impl.Estimate) { e.Fainter = !e.Fainter },
			} {
				other := slices.Clone(list)
				change(&other[i])
				keepEstimates(t, "SameEstimates", other, func(other []impl.Estimate) {
					same(t, fmt.Sprint("SameEstimates of change ", field), fmt.Sprint(field == 0, field == 0), impl.SameEstimates(list, other), impl.SameEstimates(other, list))
				})
			}
		}
	}
}

func TestAddEstimate(t *testing.T) {
	for _, x := range []struct {
		list []string
		add  string
		want string // the code, and the lines of the result
	}{
		{nil, "5 m a 9000", "0: 5 m a 9000"},
		{[]string{"5 m b 1"}, "5 m a 2", "0: 5 m a 2, 5 m b 1"},
		{[]string{"5 m b 1"}, "5 m c 2", "0: 5 m b 1, 5 m c 2"},
		{[]string{"5 m b 1"}, "4 n c 2", "0: 4 n c 2, 5 m b 1"},
		{[]string{"5 m b 1"}, "6 a a 2", "0: 5 m b 1, 6 a a 2"},
		{[]string{"5 m b 1"}, "5 a c 2", "0: 5 a c 2, 5 m b 1"},
		{[]string{"5 m b 1"}, "5 n a 2", "0: 5 m b 1, 5 n a 2"},
		{[]string{"5 m a 1", "5 m c 3"}, "5 m b <2", "0: 5 m a 1, 5 m b <2, 5 m c 3"},
		{[]string{"5 m a- 1", "5 m aa 3"}, "5 m a0 2", "0: 5 m a- 1, 5 m a0 2, 5 m aa 3"},
		{[]string{"0 m a 1", "10000000 m a 3"}, "10000000 l a 2", "0: 0 m a 1, 10000000 l a 2, 10000000 m a 3"},
		{[]string{"5 m a 1"}, "5 m a 1", "4:"},
		{[]string{"5 m a 1"}, "5 m a 2", "4:"},
		{[]string{"5 m a 1"}, "5 m a <1", "4:"},
		{[]string{"4 m a 1", "5 m a <1", "6 m a 1"}, "5 m a 1", "4:"},
		{[]string{"5 m a 1"}, "5 m a 20001", "2:"},
		{[]string{"5 m a 1"}, "-1 m a 1", "2:"},
		{[]string{"5 m a 1"}, "10000001 m a 1", "2:"},
		{[]string{"5 m a 1"}, "5 M a 1", "2:"},
		{[]string{"5 m a 1"}, "5 m A 1", "2:"},
		{[]string{"5 m a 1"}, "5 m b <-2001", "2:"},
		{[]string{"5 m b 1", "5 m a 1"}, "5 m c 1", "1:"},
		{[]string{"5 m b 1", "5 m a 1"}, "5 M a 1", "1:"},
		{[]string{"5 m a 1", "5 m a 1"}, "5 m a 1", "1:"},
		{[]string{"5 M a 1"}, "5 M a 1", "1:"},
	} {
		more, code := impl.AddEstimate(estimates(x.list...), estimates(x.add)[0])
		same(t, fmt.Sprint("AddEstimate ", x.list, x.add), x.want, codeAndLines(more, code))
	}
}

// codeAndLines returns a code and a list in the form that estimates reads.
func codeAndLines(list []impl.Estimate, code int64) string {
	var lines []string
	for _, e := range list {
		limit := ""
		if e.Fainter {
			limit = "<"
		}
		lines = append(lines, fmt.Sprintf(" %d %s %s %s%d", e.Time, e.Star, e.Observer, limit, e.Mag))
	}
	return fmt.Sprint(code, ":") + strings.Join(lines, ",")
}

func addedEstimateWanted(list []impl.Estimate, e impl.Estimate) ([]impl.Estimate, int64) {
	switch {
	case !isEstimate(e):
		return nil, impl.ErrRange
	case slices.ContainsFunc(list, func(x impl.Estimate) bool { return samePlace(x, e) }):
		return nil, impl.ErrExists
	case len(list) >= 100:
		return nil, impl.ErrFull
	}
	return inOrder(append(slices.Clone(list), e)), impl.OK
}

func TestAddEstimateForAllLists(t *testing.T) {
	adds := append(badEstimates(), edgeEstimates()...)
	adds = append(adds, exampleEstimates()...)
	adds = append(adds, diceEstimates(7)...)
	for _, list := range goodEstimateLists() {
		own := slices.Clone(adds)
		for _, e := range list {
			e.Mag = -e.Mag / 10
			own = append(own, e, impl.Estimate{Time: e.Time, Star: e.Star, Observer: e.Observer + "-", Mag: 20000})
		}
		for _, e := range own {
			want, wantCode := addedEstimateWanted(list, e)
			keepEstimates(t, "AddEstimate", list, func(list []impl.Estimate) {
				got, code := impl.AddEstimate(list, e)
				again, codeAgain := impl.AddEstimate(list, e)
				if code != wantCode || codeAgain != wantCode || !slices.Equal(got, want) {
					t.Fatalf("AddEstimate(%v, %v): got %v %d, want %v %d", list, e, got, code, want, wantCode)
				}
				// The result shares memory neither with the argument nor with the other result.
				clear(got)
				same(t, "the other result", fmt.Sprint(want), again)
			})
		}
	}
	for _, list := range badEstimateLists() {
		for _, e := range append(badEstimates()[:3], exampleEstimates()[0], edgeEstimates()[0]) {
			more, code := impl.AddEstimate(list, e)
			same(t, fmt.Sprint("AddEstimate ", list, e), "[] 1", more, code)
		}
	}
}

func TestAddEstimateUntilFull(t *testing.T) {
	var list []impl.Estimate
	full := fullEstimates()
	for i := range full {
		more, code := impl.AddEstimate(list, full[i*37%100])
		if code != impl.OK || len(more) != i+1 || !impl.ValidEstimates(more) {
			t.Fatalf("AddEstimate of estimate %d: got %v %d", i, more, code)
		}
		list = more
	}
	next := estimates("10000000 z z 0", "10000000 z z 20001", "10000000 z Z 0")
	_, one := impl.AddEstimate(list, next[0])
	_, two := impl.AddEstimate(list, list[50])
	_, three := impl.AddEstimate(list, next[1])
	_, four := impl.AddEstimate(list, next[2])
	_, five := impl.AddEstimate(append(list, next[0]), next[1])
	same(t, "full", fmt.Sprint(full, 5, 4, 2, 2, 1), list, one, two, three, four, five)
}

func TestMergeEstimates(t *testing.T) {
	for _, x := range []struct {
		a, b []string
		want string
	}{
		{nil, nil, "0:"},
		{[]string{"5 m a 1"}, nil, "0: 5 m a 1"},
		{[]string{"5 m a 1"}, []string{"5 m a 1"}, "0: 5 m a 1"},
		{[]string{"5 m a <1"}, []string{"5 m a <1"}, "0: 5 m a <1"},
		{[]string{"5 m a 1"}, []string{"5 m b 2"}, "0: 5 m a 1, 5 m b 2"},
		{[]string{"5 m a 1"}, []string{"5 l b 2"}, "0: 5 l b 2, 5 m a 1"},
		{[]string{"5 m a 1"}, []string{"4 n b 2"}, "0: 4 n b 2, 5 m a 1"},
		{[]string{"1 m a 1", "3 m a 3"}, []string{"0 m a 0", "2 m a 2", "4 m a 4"}, "0: 0 m a 0, 1 m a 1, 2 m a 2, 3 m a 3, 4 m a 4"},
		{[]string{"1 m a 1", "2 m a 2"}, []string{"3 m a 3", "4 m a 4"}, "0: 1 m a 1, 2 m a 2, 3 m a 3, 4 m a 4"},
		{[]string{"1 m a 1", "2 m a 2"}, []string{"1 m a 1", "2 m a 2", "3 m a 3"}, "0: 1 m a 1, 2 m a 2, 3 m a 3"},
		{[]string{"1 m a 1", "2 m a <2", "3 m a 3"}, []string{"2 m a <2"}, "0: 1 m a 1, 2 m a <2, 3 m a 3"},
		{[]string{"5 m a 1"}, []string{"5 m a 2"}, "9:"},
		{[]string{"5 m a 1"}, []string{"5 m a <1"}, "9:"},
		{[]string{"5 m a <1"}, []string{"5 m a <2"}, "9:"},
		{[]string{"1 m a 1", "5 m a 1"}, []string{"3 m a 1", "5 m a 2", "6 m a 1"}, "9:"},
		{[]string{"1 m a 1", "5 m a 1"}, []string{"1 m a 1", "5 m a -1"}, "9:"},
		{[]string{"5 m a 1", "5 m a 1"}, nil, "1:"},
		{[]string{"5 m a 1", "4 m a 1"}, []string{"5 m a 2"}, "1:"},
		{[]string{"5 m a 1"}, []string{"5 m a 20001"}, "1:"},
		{[]string{"5 m a 1"}, []string{"5 M a 1"}, "1:"},
	} {
		a, b := estimates(x.a...), estimates(x.b...)
		one, oneCode := impl.MergeEstimates(a, b)
		two, twoCode := impl.MergeEstimates(b, a)
		same(t, fmt.Sprint("MergeEstimates ", x.a, x.b), x.want+" "+x.want, codeAndLines(one, oneCode), codeAndLines(two, twoCode))
	}
}

func mergedWanted(a, b []impl.Estimate) ([]impl.Estimate, int64) {
	all := slices.Clone(a)
	for _, e := range b {
		if slices.Contains(a, e) {
			continue
		}
		if slices.ContainsFunc(a, func(x impl.Estimate) bool { return samePlace(x, e) }) {
			return nil, impl.ErrClash
		}
		all = append(all, e)
	}
	if len(all) > 100 {
		return nil, impl.ErrFull
	}
	return inOrder(all), impl.OK
}

func TestMergeEstimatesForAllLists(t *testing.T) {
	codes := map[int64]int{}
	lists := goodEstimateLists()[:35]
	for seed := range uint64(20) { // some estimates of another list, and the same with one that differs
		some := slices.DeleteFunc(diceEstimates(seed), func(e impl.Estimate) bool { return e.Mag%2 == 0 })
		other := slices.Clone(some)
		if len(other) > 0 {
			other[len(other)/2].Fainter = !other[len(other)/2].Fainter
		}
		lists = append(lists, some, other)
	}
	for _, a := range lists {
		for _, b := range lists {
			want, wantCode := mergedWanted(a, b)
			codes[wantCode]++
			keepEstimates(t, "MergeEstimates", a, func(a []impl.Estimate) {
				keepEstimates(t, "MergeEstimates", b, func(b []impl.Estimate) {
					got, code := impl.MergeEstimates(a, b)
					again, codeAgain := impl.MergeEstimates(a, b)
					if code != wantCode || codeAgain != wantCode || !slices.Equal(got, want) || !slices.Equal(again, want) {
						t.Fatalf("MergeEstimates(%v, %v): got %v %d, want %v %d", a, b, got, code, want, wantCode)
					}
					clear(got[:cap(got)]) // shares no memory, as checked by keep
					if !slices.Equal(again, want) {
						t.Fatalf("MergeEstimates(%v, %v): two results share memory", a, b)
					}
				})
			})
		}
	}
	for _, code := range []int64{impl.OK, impl.ErrClash, impl.ErrFull} {
		if codes[code] < 50 {
			t.Errorf("only %d merges with the code %d", codes[code], code)
		}
	}
	for _, list := range badEstimateLists() {
		for _, other := range append(goodEstimateLists()[:9], list, badEstimateLists()[0]) {
			one, oneCode := impl.MergeEstimates(list, other)
			two, twoCode := impl.MergeEstimates(other, list)
			same(t, fmt.Sprint("MergeEstimates ", list, other), "[] 1 [] 1", one, oneCode, two, twoCode)
		}
	}
}

// TestMergeEstimatesAtTheLimit has merges of just MaxEstimates estimates and of one more, with and without common ones.
func TestMergeEstimatesAtTheLimit(t *testing.T) {
	full := fullEstimates()
	behind, before := estimates("10000000 z z 0"), estimates("0 a a 0")
	other := slices.Clone(full[99:])
	other[0].Mag++
	for _, x := range []struct {
		name string
		a, b []impl.Estimate
		want string // the number of estimates, and the code
	}{
		{"with nothing", full, nil, "100 0"}, {"with itself", full, full, "100 0"}, {"with the last one", full, full[99:], "100 0"},
		{"of halves", full[:50], full[50:], "100 0"}, {"of overlapping parts", full[:70], full[30:], "100 0"},
		{"of 99 and another one", full[:99], behind, "100 0"}, {"of 99 and one before", full[1:], before, "100 0"},
		{"of 100 and one behind", full, behind, "0 5"}, {"of 100 and one before", full, before, "0 5"},
		{"of 100 and 2, one of them common", full, append(slices.Clone(full[99:]), behind...), "0 5"},
		{"of 99 and 2 others", full[:99], append(slices.Clone(before), behind...), "0 5"},
		{"of 100 and one that differs", full, other, "0 9"}, {"of too many, and the last one differs", full, append(slices.Clone(before), other...), "0 9"},
		{"of too many, and the one before the last differs", full, append(slices.Clone(other), behind...), "0 9"},
		{"of too many, and one list is not valid", append(slices.Clone(full), behind...), other, "0 1"},
	} {
		one, oneCode := impl.MergeEstimates(x.a, x.b)
		two, twoCode := impl.MergeEstimates(x.b, x.a)
		same(t, "merge "+x.name, x.want+" "+x.want, len(one), oneCode, len(two), twoCode)
	}
	a, b := fullEstimates(), fullEstimates()
	for i := range b {
		b[i].Time++
	}
	none, code := impl.MergeEstimates(a, b)
	same(t, "merge of 200", "[] 5", none, code)
}

func TestOfStar(t *testing.T) {
	list := estimates("0 m a 1", "5 l a 2", "5 m a 3", "5 m b <4", "5 n a 5", "6 m a 6", "10000000 m a 7")
	for _, x := range []struct {
		star     string
		from, to int64
		want     string
	}{
		{"m", 0, 10000000, "0: 0 m a 1, 5 m a 3, 5 m b <4, 6 m a 6, 10000000 m a 7"},
		{"m", 5, 6, "0: 5 m a 3, 5 m b <4, 6 m a 6"}, {"m", 5, 5, "0: 5 m a 3, 5 m b <4"}, {"m", 4, 5, "0: 5 m a 3, 5 m b <4"},
		{"m", 6, 9999999, "0: 6 m a 6"}, {"m", 6, 10000000, "0: 6 m a 6, 10000000 m a 7"}, {"m", 10000000, 10000000, "0: 10000000 m a 7"},
		{"m", 0, 4, "0: 0 m a 1"}, {"m", 0, 0, "0: 0 m a 1"}, {"m", 1, 4, "0:"}, {"m", 1, 5, "0: 5 m a 3, 5 m b <4"}, {"m", 7, 9999999, "0:"},
		{"m", 6, 5, "0:"}, {"m", 10000000, 0, "0:"}, {"m", 1, 0, "0:"}, {"l", 0, 10000000, "0: 5 l a 2"}, {"l", 6, 10000000, "0:"},
		{"mm", 0, 10000000, "0:"}, {"a", 0, 10000000, "0:"}, {"x", 6, 5, "0:"},
		{"m", -1, 5, "2:"}, {"m", 0, -1, "2:"}, {"m", 0, 10000001, "2:"}, {"m", 10000001, 10000000, "2:"}, {"m", 10000001, -1, "2:"},
		{"m", math.MinInt64, math.MaxInt64, "2:"}, {"m", math.MaxInt64, math.MinInt64, "2:"}, {"m", math.MinInt64, 5, "2:"}, {"m", 5, math.MaxInt64, "2:"},
		{"M", 0, 5, "2:"}, {"", 0, 5, "2:"}, {"m ", 0, 5, "2:"}, {"M", -1, 5, "2:"}, {"abcdefghijklm", 6, 5, "2:"},
	} {
		got, code := impl.OfStar(list, x.star, x.from, x.to)
		same(t, fmt.Sprint("OfStar", x), x.want, codeAndLines(got, code))
	}
}

// those returns the estimates for which holds is true, from the last one on.
func those(list []impl.Estimate, holds func(e impl.Estimate) bool) []impl.Estimate {
	var some []impl.Estimate
	for _, e := range slices.Backward(list) {
		if holds(e) {
			some = slices.Insert(some, 0, e)
		}
	}
	return some
}

// namesFor are names to be searched in a list, those that it has among them.
func namesFor(list []impl.Estimate) []string {
	names := append(slices.Clone(oddTexts), "a", "m", "mira", "mir", "s", "s1", "o1", "Mira", "abcdefghijkl", "abcdefghijklm", strings.Repeat("a", 5000))
	for i, e := range list {
		if i%7 == 0 {
			names = append(names, e.Star, e.Observer, e.Star+" ", e.Observer+"-")
		}
	}
	return names
}

func TestOfStarForAllArguments(t *testing.T) {
	for _, list := range goodEstimateLists()[:30] {
		times := numbers(-1, 0, 1, 2, 10_000_000, 10_000_001)
		for i := 0; i < len(list); i += 11 {
			times = append(times, list[i].Time, min(list[i].Time+1, 10_000_000))
		}
		for _, star := range namesFor(list) {
			for _, from := range times {
				for _, to := range times {
					want, wantCode := []impl.Estimate(nil), int64(impl.ErrRange)
					if impl.IsName(star) && isTime(from) && isTime(to) {
						want, wantCode = those(list, func(e impl.Estimate) bool { return e.Star == star && e.Time >= from && e.Time <= to }), impl.OK
					}
					got, code := impl.OfStar(list, star, from, to)
					if code != wantCode || !slices.Equal(got, want) {
						t.Fatalf("OfStar(%v, %q, %d, %d): got %v %d", list, star, from, to, got, code)
					}
				}
			}
		}
	}
}

// TestSearchesForNames holds OfStar in all times, OfObserver and LastOf against each estimate.
func TestSearchesForNames(t *testing.T) {
	for _, list := range goodEstimateLists() {
		for _, name := range namesFor(list) {
			ofStar := those(list, func(e impl.Estimate) bool { return e.Star == name })
			ofObserver := those(list, func(e impl.Estimate) bool { return e.Observer == name })
			want := fmt.Sprint(ofStar, 0, ofObserver, 0)
			switch {
			case !impl.IsName(name):
				want = "[] 2 [] 2 {0   0 false} 2"
			case len(ofStar) == 0:
				want += " {0   0 false} 3"
			default:
				want += fmt.Sprint(" ", ofStar[len(ofStar)-1], " 0")
			}
			keepEstimates(t, "searches", list, func(list []impl.Estimate) {
				same(t, fmt.Sprintf("searches in %v for %q", list, name), want, twice(t, "searches", func() []any {
					star, one := impl.OfStar(list, name, 0, 10_000_000)
					own, two := impl.OfObserver(list, name)
					last, three := impl.LastOf(list, name)
					return []any{star, one, own, two, last, three}
				})...)
			})
		}
	}
	for _, list := range badEstimateLists() {
		for _, name := range []string{"m", "a", "nobody", "", "No Name"} {
			star, one := impl.OfStar(list, name, 0, 10_000_000)
			other, two := impl.OfStar(list, name, -1, 10_000_001)
			own, three := impl.OfObserver(list, name)
			last, four := impl.LastOf(list, name)
			same(t, fmt.Sprintf("searches in %v for %q", list, name), "[] 1 [] 1 [] 1 {0   0 false} 1", star, one, other, two, own, three, last, four)
		}
	}
}

func TestOfObserver(t *testing.T) {
	list := estimates("0 m a 1", "5 l a 2", "5 m a 3", "5 m b <4", "5 n c 5", "6 m ab <6", "10000000 b a <7")
	for name, want := range map[string]string{
		"a": "0: 0 m a 1, 5 l a 2, 5 m a 3, 10000000 b a <7", "b": "0: 5 m b <4", "c": "0: 5 n c 5", "ab": "0: 6 m ab <6",
		"m": "0:", "l": "0:", "aa": "0:", "nobody": "0:", "": "2:", "A": "2:", "a ": "2:", "abcdefghijklm": "2:",
	} {
		got, code := impl.OfObserver(list, name)
		same(t, fmt.Sprintf("OfObserver %q", name), want, codeAndLines(got, code))
	}
}

func TestLastOf(t *testing.T) {
	list := estimates("0 m a 1", "5 l a 2", "5 m a 3", "5 m b <4", "5 n c 5", "10000000 b a <7", "10000000 o b 8", "10000000 o c 9")
	for name, want := range map[string]string{
		"m": "{5 m b 4 true} 0", "l": "{5 l a 2 false} 0", "n": "{5 n c 5 false} 0", "b": "{10000000 b a 7 true} 0", "o": "{10000000 o c 9 false} 0",
		"a": "{0   0 false} 3", "c": "{0   0 false} 3", "mm": "{0   0 false} 3", "": "{0   0 false} 2", "M": "{0   0 false} 2", "m ": "{0   0 false} 2",
	} {
		got, code := impl.LastOf(list, name)
		same(t, fmt.Sprintf("LastOf %q", name), want, got, code)
	}
	none, code := impl.LastOf(nil, "m")
	same(t, "LastOf of none", "{0   0 false} 3", none, code)
}

func TestStarsIn(t *testing.T) {
	for _, x := range []struct {
		list []string
		want string
	}{
		{nil, "[] 0"}, {[]string{"5 m a 1"}, "[m] 0"}, {[]string{"5 m a <1"}, "[m] 0"}, {[]string{"5 m a 1", "5 m b 1", "6 m a 1"}, "[m] 0"},
		{[]string{"1 z a 1", "2 m a 1", "3 b a 1", "4 m a 1", "5 z a 1"}, "[b m z] 0"},
		{[]string{"1 aa a 1", "2 a0 a 1", "3 a- a 1", "4 a a 1", "5 b a 1", "6 a10 a 1", "7 a2 a 1"}, "[a a- a0 a10 a2 aa b] 0"},
		{[]string{"1 z a 1", "1 m a 1"}, "[] 1"}, {[]string{"1 m a 1", "1 m a 1"}, "[] 1"}, {[]string{"1 M a 1"}, "[] 1"},
	} {
		got, code := impl.StarsIn(estimates(x.list...))
		same(t, fmt.Sprint("StarsIn ", x.list), x.want, got, code)
	}
}

func TestStarsInForAllLists(t *testing.T) {
	for _, list := range goodEstimateLists() {
		keepEstimates(t, "StarsIn", list, func(list []impl.Estimate) {
			got, code := impl.StarsIn(list)
			again, codeAgain := impl.StarsIn(list)
			same(t, "StarsIn", fmt.Sprint(got, 0, 0), again, code, codeAgain)
			for i, name := range got {
				if i > 0 && got[i-1] >= name || !slices.ContainsFunc(list, func(e impl.Estimate) bool { return e.Star == name }) {
					t.Fatalf("StarsIn(%v): got %v", list, got)
				}
			}
			for _, e := range list {
				if !slices.Contains(got, e.Star) {
					t.Fatalf("StarsIn(%v): got %v, without %s", list, got, e.Star)
				}
			}
		})
	}
	for _, list := range badEstimateLists() {
		got, code := impl.StarsIn(list)
		same(t, fmt.Sprint("StarsIn ", list), "[] 1", got, code)
	}
}

// TestContradictionsOfTwo holds two estimates against each other, with magnitudes that differ by just `by`, and by one more.
func TestContradictionsOfTwo(t *testing.T) {
	const none, both = "[] 0", "[[0 1]] 0"
	for _, x := range []struct {
		first, second string // their magnitudes
		by            int64
		want          string
	}{
		{"9000", "9000", 1, none}, {"9000", "9001", 1, none}, {"9001", "9000", 1, none}, {"9000", "9002", 1, both}, {"9002", "9000", 1, both},
		{"9000", "9500", 500, none}, {"9000", "9501", 500, both}, {"9500", "9000", 500, none}, {"9501", "9000", 500, both},
		{"-100", "100", 200, none}, {"-100", "101", 200, both}, {"-2000", "18000", 20000, none}, {"-2000", "18001", 20000, both}, {"20000", "-2000", 20000, both},
		{"<9000", "9000", 1, none}, {"<9001", "9000", 1, none}, {"<9002", "9000", 1, both}, {"<9000", "9002", 1, none}, {"<9000", "20000", 1, none},
		{"<9500", "9000", 500, none}, {"<9501", "9000", 500, both}, {"<9000", "9500", 500, none}, {"<9000", "9501", 500, none},
		{"9000", "<9500", 500, none}, {"9000", "<9501", 500, both}, {"9500", "<9000", 500, none}, {"9501", "<9000", 500, none}, {"20000", "<-2000", 1, none},
		{"-100", "<100", 200, none}, {"-100", "<101", 200, both}, {"<101", "-100", 200, both}, {"<-100", "101", 200, none},
		{"-2000", "<18000", 20000, none}, {"-2000", "<18001", 20000, both}, {"<20000", "-2000", 20000, both},
		{"<9000", "<9000", 1, none}, {"<9000", "<9002", 1, none}, {"<9002", "<9000", 1, none}, {"<-2000", "<20000", 1, none}, {"<20000", "<-2000", 1, none},
	} {
		for _, observer := range []string{"b", "a"} { // also one observer contradicts the own estimates
			list := estimates("5 m a "+x.first, "6 m "+observer+" "+x.second)
			got, code := impl.Contradictions(list, 1, x.by)
			same(t, fmt.Sprint("Contradictions", x), x.want, got, code)
		}
	}
}

// TestContradictionsInTime has times that differ by just `apart`, and by one more.
func TestContradictionsInTime(t *testing.T) {
	for _, x := range []struct {
		first, second, apart int64
		want                 string
	}{
		{5, 5, 0, "[[0 1]] 0"}, {5, 6, 0, "[] 0"}, {5, 6, 1, "[[0 1]] 0"}, {5, 7, 1, "[] 0"}, {0, 100, 100, "[[0 1]] 0"}, {0, 101, 100, "[] 0"}, {0, 99, 100, "[[0 1]] 0"},
		{0, 100000, 100000, "[[0 1]] 0"}, {0, 100001, 100000, "[] 0"}, {9900000, 10000000, 100000, "[[0 1]] 0"}, {9899999, 10000000, 100000, "[] 0"},
		{0, 10000000, 100000, "[] 0"}, {10000000, 10000000, 0, "[[0 1]] 0"}, {5, 6, -1, "[] 2"}, {5, 5, -1, "[] 2"}, {5, 6, 100001, "[] 2"},
		{5, 6, math.MaxInt64, "[] 2"}, {5, 6, math.MinInt64, "[] 2"},
	} {
		for _, mags := range [][2]string{{"1", "9"}, {"9", "1"}, {"<9", "1"}, {"1", "<9"}} {
			list := estimates(fmt.Sprint(x.first, " m a ", mags[0]), fmt.Sprint(x.second, " m b ", mags[1]))
			got, code := impl.Contradictions(list, x.apart, 7)
			same(t, fmt.Sprint("Contradictions", x, mags), x.want, got, code)
			list = estimates(fmt.Sprint(x.first, " m a ", mags[0]), fmt.Sprint(x.second, " n b ", mags[1]))
			got, code = impl.Contradictions(list, x.apart, 7)
			same(t, "Contradictions of two stars", "[]"+x.want[len(x.want)-2:], got, code)
		}
	}
}

func TestContradictions(t *testing.T) {
	list := estimates("0 m a 1000", "10 l a 9000", "10 m a 2000", "10 m b <3000", "20 l a 5000", "20 m c <1", "30 m a 900", "30 m b 2500")
	for _, x := range []struct {
		apart, by int64
		want      string
	}{
		{0, 1, "[[2 3] [6 7]] 0"}, {0, 999, "[[2 3] [6 7]] 0"}, {0, 1000, "[[6 7]] 0"}, {0, 1599, "[[6 7]] 0"}, {0, 1600, "[] 0"},
		{9, 1, "[[2 3] [6 7]] 0"}, {10, 1, "[[0 2] [0 3] [1 4] [2 3] [6 7]] 0"}, {10, 1999, "[[0 3] [1 4]] 0"}, {10, 2000, "[[1 4]] 0"},
		{20, 1, "[[0 2] [0 3] [1 4] [2 3] [2 6] [2 7] [3 6] [3 7] [6 7]] 0"}, {30, 99, "[[0 2] [0 3] [0 6] [0 7] [1 4] [2 3] [2 6] [2 7] [3 6] [3 7] [6 7]] 0"},
		{100000, 1500, "[[0 3] [1 4] [3 6] [6 7]] 0"}, {100000, 20000, "[] 0"}, {100000, 20001, "[] 2"}, {100001, 1, "[] 2"}, {0, 0, "[] 2"}, {-1, 0, "[] 2"},
		{0, -1, "[] 2"}, {100001, 20001, "[] 2"}, {10, math.MaxInt64, "[] 2"}, {10, math.MinInt64, "[] 2"}, {math.MinInt64, math.MinInt64, "[] 2"},
	} {
		got, code := impl.Contradictions(list, x.apart, x.by)
		same(t, fmt.Sprint("Contradictions", x), x.want, got, code)
	}
	for _, list := range badEstimateLists() {
		one, oneCode := impl.Contradictions(list, 10, 1)
		two, twoCode := impl.Contradictions(list, -1, 0)
		same(t, fmt.Sprint("Contradictions ", list), "[] 1 [] 1", one, oneCode, two, twoCode)
	}
}

// contradict tells it in the order of the document's sentence.
func contradict(a, b impl.Estimate, by int64) bool {
	switch {
	case !a.Fainter && !b.Fainter:
		return a.Mag-b.Mag > by || b.Mag-a.Mag > by
	case !a.Fainter:
		return a.Mag+by < b.Mag
	case !b.Fainter:
		return b.Mag+by < a.Mag
	}
	return false
}

func contradictionsWanted(list []impl.Estimate, apart, by int64) string {
	if !between(apart, 0, 100_000) || !between(by, 1, 20_000) {
		return "[] 2"
	}
	var pairs [][]int
	for i, a := range list {
		for k, b := range list {
			if i < k && a.Star == b.Star && b.Time-a.Time <= apart && contradict(a, b, by) {
				pairs = append(pairs, []int{i, k})
			}
		}
	}
	return fmt.Sprint(pairs, 0)
}

func TestContradictionsForAllArguments(t *testing.T) {
	for _, list := range goodEstimateLists() {
		for _, apart := range edgeApart {
			for _, by := range edgeBy {
				want := contradictionsWanted(list, apart, by)
				keepEstimates(t, "Contradictions", list, func(list []impl.Estimate) {
					same(t, fmt.Sprint("Contradictions ", list, apart, by), want, twice(t, "Contradictions", func() []any {
						got, code := impl.Contradictions(list, apart, by)
						return []any{got, code}
					})...)
				})
			}
		}
	}
}

// TestContradictionsOfManyPairs has as many pairs as there can be: each two of all estimates.
func TestContradictionsOfManyPairs(t *testing.T) {
	list := make([]impl.Estimate, 100)
	for i := range list {
		list[i] = impl.Estimate{Time: int64(i), Star: "m", Observer: "a", Mag: int64(i) * 2}
	}
	pairs, code := impl.Contradictions(list, 99, 1)
	same(t, "all pairs", "4950 0", len(pairs), code)
	same(t, "all pairs", contradictionsWanted(list, 99, 1), pairs, code)
}

func TestResultsOfEstimatesAreNewSlices(t *testing.T) {
	list := exampleEstimates()
	for i, call := range []func() []impl.Estimate{
		func() []impl.Estimate { some, _ := impl.OfStar(list, "mira", 0, 10_000_000); return some },
		func() []impl.Estimate { some, _ := impl.OfObserver(list[:2], "ab"); return some },
		func() []impl.Estimate { some, _ := impl.MergeEstimates(list, nil); return some },
		func() []impl.Estimate { some, _ := impl.MergeEstimates(nil, list); return some },
		func() []impl.Estimate { some, _ := impl.ReadEstimates(exampleText); return some },
	} {
		first := call()
		want := fmt.Sprint(first)
		clear(first[:cap(first)])
		same(t, fmt.Sprint("call ", i), want+" "+fmt.Sprint(exampleEstimates()), call(), list)
	}
	stars, _ := impl.StarsIn(list)
	clear(stars[:cap(stars)])
	again, _ := impl.StarsIn(list)
	pairs, _ := impl.Contradictions(list, 100, 500)
	_ = append(pairs[0], spare)
	pairs[0][1] = spare
	same(t, "new slices", "[mira] [[1 -987654321] [2 3]]", again, pairs)
}

func lineWanted(e impl.Estimate) string {
	limit, sign, mag := "", "", e.Mag
	if e.Fainter {
		limit = "<"
	}
	if mag < 0 {
		sign, mag = "-", -mag
	}
	return fmt.Sprintf("%d %s %s %s%s%d.%03d\n", e.Time, e.Star, e.Observer, limit, sign, mag/1000, mag%1000)
}

func TestTextsOfEstimates(t *testing.T) {
	for want, list := range map[string][]impl.Estimate{
		"":                           nil,
		exampleText:                  exampleEstimates(),
		"0 a b 0.000\n":              estimates("0 a b 0"),
		"10000000 a b 20.000\n":      estimates("10000000 a b 20000"),
		"5 m a -2.000\n":             estimates("5 m a -2000"),
		"5 m a <-2.000\n":            estimates("5 m a <-2000"),
		"5 m a -0.001\n":             estimates("5 m a -1"),
		"5 m a <-0.999\n":            estimates("5 m a <-999"),
		"5 m a <0.000\n":             estimates("5 m a <0"),
		"5 m a <-1.400\n5 m b 1.0":   nil,
		"5 m a -1.400\n5 m b <9.1\n": nil,
		"5 z9- abcdefghijkl <19.999\n6 abcdefghijkl z9- 0.050\n": estimates("5 z9- abcdefghijkl <19999", "6 abcdefghijkl z9- 50"),
	} {
		got, ok := impl.ReadEstimates(want)
		text := impl.EstimatesText(list)
		if list == nil && want != "" {
			same(t, want, "[] false", got, ok)
			continue
		}
		same(t, want, fmt.Sprint(text == want, list, true), text == want, got, ok)
	}
	same(t, "the empty list", `"" ""`, fmt.Sprintf("%q", impl.EstimatesText(nil)), fmt.Sprintf("%q", impl.EstimatesText([]impl.Estimate{})))
}

func TestTextsOfAllEstimates(t *testing.T) {
	lists := goodEstimateLists()
	for mag := int64(-2000); mag <= 20000; mag += 2 { // with and without <, all magnitudes
		e := impl.Estimate{Time: mag + 2000, Star: "m", Observer: "a", Mag: mag, Fainter: mag%4 == 0}
		lists = append(lists, []impl.Estimate{e, {Time: e.Time, Star: "m", Observer: "b", Mag: max(mag-1, -2000), Fainter: !e.Fainter}})
	}
	for _, list := range lists {
		want := ""
		for _, e := range list {
			want += lineWanted(e)
		}
		keepEstimates(t, "EstimatesText", list, func(list []impl.Estimate) {
			text := impl.EstimatesText(list)
			back, ok := impl.ReadEstimates(text)
			again, okAgain := impl.ReadEstimates(want)
			if text != want || impl.EstimatesText(list) != want || !ok || !okAgain || !slices.Equal(back, list) || !slices.Equal(again, list) {
				t.Fatalf("EstimatesText(%v): got %q, read as %v %v", list, text, back, ok)
			}
		})
	}
	for _, list := range badEstimateLists() {
		same(t, fmt.Sprint("EstimatesText ", list), "", impl.EstimatesText(list))
		text := ""
		for _, e := range list {
			text += lineWanted(e)
		}
		back, ok := impl.ReadEstimates(text)
		same(t, fmt.Sprintf("ReadEstimates %q", text), "[] false", back, ok)
	}
}

var lineForm = regexp.MustCompile(`^(0|[1-9][0-9]{0,7}) ([a-z][a-z0-9-]{0,11}) ([a-z][a-z0-9-]{0,11}) (<?)(-?)(0|[1-9][0-9]?)\.([0-9]{3})$`)

// readWanted reads a text by the form of its lines.
func readWanted(s string) ([]impl.Estimate, bool) {
	list := []impl.Estimate{}
	lines := strings.Split(s, "\n")
	if lines[len(lines)-1] != "" {
		return nil, false
	}
	for i, line := range lines[:len(lines)-1] {
		m := lineForm.FindStringSubmatch(line)
		if m == nil {
			return nil, false
		}
		time, _ := strconv.ParseInt(m[1], 10, 64)
		mag, _ := strconv.ParseInt(m[6]+m[7], 10, 64)
		if m[5] == "-" && mag == 0 {
			return nil, false
		}
		if m[5] == "-" {
			mag = -mag
		}
		e := impl.Estimate{Time: time, Star: m[2], Observer: m[3], Mag: mag, Fainter: m[4] == "<"}
		if !isEstimate(e) || i >= 100 || i > 0 && !isBefore(list[i-1], e) {
			return nil, false
		}
		list = append(list, e)
	}
	return list, true
}

func checkReadEstimates(t *testing.T, s string) bool {
	t.Helper()
	want, wantOK := readWanted(s)
	got, ok := impl.ReadEstimates(s)
	again, okAgain := impl.ReadEstimates(s)
	if ok != wantOK || okAgain != wantOK || !slices.Equal(got, want) || !slices.Equal(again, want) || ok && impl.EstimatesText(got) != s {
		t.Fatalf("ReadEstimates(%q): got %v %v, want %v %v", s, got, ok, want, wantOK)
	}
	return ok
}

func TestReadEstimatesOfOtherTexts(t *testing.T) {
	texts := []string{
		"\n", "\n\n", " ", " \n", "   \n", "5\n", "5 m\n", "5 m a\n", "5 m a \n", "5 m a", "5 m a 1.000", "5 m a <1.000", "5 m a 1.000\n\n", "\n5 m a 1.000\n", "5 m a 1.000\r\n",
		"5 m a 1.000 \n", " 5 m a 1.000\n", "5  m a 1.000\n", "5 m  a 1.000\n", "5 m a  1.000\n", "5 m a 1.000\n ", "5 m a 1.000 2.000\n", "5 m a b 1.000\n", "5\tm a 1.000\n",
		"5 m a < 1.000\n", "5 m a <<1.000\n", "5 m a 1.000<\n", "5 m a <\n", "5 m a >1.000\n", "5 m a -<1.000\n", "5 m a <-0.000\n", "5 m a -0.000\n", "5 m a +1.000\n", "5 m a <+1.000\n",
		"5 m <a 1.000\n", "<5 m a 1.000\n", "5 m a --1.000\n", "5 m a 01.000\n", "5 m a 1.00\n", "5 m a 1.0000\n", "5 m a 1\n", "5 m a 1000\n", "5 m a .500\n", "5 m a <.500\n", "5 m a 1,000\n",
		"5 m a 20.001\n", "5 m a <20.001\n", "5 m a -2.001\n", "5 m a <-2.001\n", "5 m a 9223372036854775807\n", "5 m a 9223372036854775.807\n", "5 m a 18446744073709551.616\n",
		"05 m a 1.000\n", "-5 m a 1.000\n", "-0 m a 1.000\n", "+5 m a 1.000\n", "5.0 m a 1.000\n", "0x5 m a 1.000\n", "1_0 m a 1.000\n", "10000001 m a 1.000\n", "00 m a 1.000\n",
		"9223372036854775807 m a 1.000\n", "-9223372036854775808 m a 1.000\n", "18446744073709551621 m a 1.000\n", "99999999999999999999999999 m a 1.000\n",
		"5 M a 1.000\n", "5 m A 1.000\n", "5 9m a 1.000\n", "5 m -a 1.000\n", "5 abcdefghijklm a 1.000\n", "5 m abcdefghijklm 1.000\n", "5 m\x00 a 1.000\n", "5 m á 1.000\n",
		"5 m a 1.000\n5 m a 1.000\n", "5 m a 1.000\n5 m a 2.000\n", "5 m b 1.000\n5 m a 1.000\n", "5 n a 1.000\n5 m a 1.000\n", "6 m a 1.000\n5 m a 1.000\n", "5 m a 1.000\n6 m a 1.000",
		"5 m a 1.000 6 m a 1.000\n", "5 m a 1.000\n\n6 m a 1.000\n", "5 m a 1.000\n6\n", "5 m a 1.000\nx", strings.Repeat("5 m a 1.000\n", 3000), strings.Repeat(" ", 5000), strings.Repeat("\n", 5000),
		strings.Repeat("a", 5000) + " m a 1.000\n", "5 " + strings.Repeat("m", 5000) + " a 1.000\n", "5 m a " + strings.Repeat("0", 5000) + "1.000\n", "5 m a 1.000" + strings.Repeat(" x", 5000) + "\n",
	}
	for _, odd := range oddTexts {
		texts = append(texts, odd+"\n", odd+" m a 1.000\n", "5 "+odd+" a 1.000\n", "5 m "+odd+" 1.000\n", "5 m a <"+odd+"\n", "5 m a 1.000"+odd+"x\n", "5 m a 1.000\nx"+odd, "5"+odd+"x m a 1.000\n")
		if odd != "" {
			texts = append(texts, odd, "5 m a 1.000\n"+odd)
		}
	}
	for _, s := range texts {
		if checkReadEstimates(t, s) {
			t.Errorf("ReadEstimates(%q): got true", s)
		}
	}
	for _, s := range append(texts, "", "5 m a 1.000\n", exampleText) {
		checkReadEstimates(t, s+s)
		checkReadEstimates(t, s+"10000000 z z <20.000\n")
		checkReadEstimates(t, "0 a a -2.000\n"+s)
	}
}

// TestReadEstimatesWithOtherBytes removes, replaces and inserts a byte at each place of a text, and cuts it there.
func TestReadEstimatesWithOtherBytes(t *testing.T) {
	texts := []string{exampleText, "5 m a -0.400\n6 l b <-1.999\n", "0 a a <0.001\n10000000 a b 20.000\n"}
	read := 0
	for _, s := range texts {
		for i := range len(s) {
			checkReadEstimates(t, s[:i])
			checkReadEstimates(t, s[i:])
			checkReadEstimates(t, s[:i]+s[i+1:])
			for b := range 256 {
				for _, changed := range []string{s[:i] + string([]byte{byte(b)}) + s[i+1:], s[:i] + string([]byte{byte(b)}) + s[i:]} {
					if checkReadEstimates(t, changed) {
						read++
					}
				}
			}
		}
	}
	if read < 1000 {
		t.Errorf("only %d texts were read", read)
	}
}

func TestReadEstimatesOfLongTexts(t *testing.T) {
	lines := func(n int) string {
		var b strings.Builder
		for i := range n {
			fmt.Fprintf(&b, "%d m a <9.000\n", i)
		}
		return b.String()
	}
	for _, n := range []int{99, 100, 101, 102, 200, 5000} {
		got, ok := impl.ReadEstimates(lines(n))
		want := fmt.Sprint(n, true)
		if n > 100 {
			want = "0 false"
		}
		same(t, fmt.Sprint("lines ", n), want, len(got), ok)
	}
	cut, ok := impl.ReadEstimates(lines(100) + "100 m a <9.000")
	odd, okOdd := impl.ReadEstimates(lines(100) + " ")
	same(t, "100 lines and more", "[] false [] false", cut, ok, odd, okOdd)
}

// TestAddedEstimateIsThere is the first half of promise 6.
func TestAddedEstimateIsThere(t *testing.T) {
	adds := append(edgeEstimates(), estimates("7 mira ef <6500", "10000000 mira zz -5", "350 mira bb <-5", "0 s1 o4 0", "3000 s0 o9 1")...)
	for _, list := range goodEstimateLists() {
		for _, e := range adds {
			more, code := impl.AddEstimate(list, e)
			if code != impl.OK {
				continue
			}
			ofStar, one := impl.OfStar(more, e.Star, e.Time, e.Time)
			own, two := impl.OfObserver(more, e.Observer)
			stars, three := impl.StarsIn(more)
			last, four := impl.LastOf(more, e.Star)
			_, again := impl.AddEstimate(more, e)
			merged, five := impl.MergeEstimates(list, []impl.Estimate{e})
			text, ok := impl.ReadEstimates(impl.EstimatesText(more))
			same(t, fmt.Sprint("added ", e), "true true true true 0 0 0 0 4 0 true", slices.Contains(more, e), slices.Contains(ofStar, e), slices.Contains(own, e),
				slices.Contains(stars, e.Star), one, two, three, four, again, five, ok)
			at := slices.Index(more, e)
			same(t, "the others", fmt.Sprint(list, more, more), slices.Delete(slices.Clone(more), at, at+1), merged, text)
			if isBefore(last, e) {
				t.Errorf("LastOf(%v, %s): got %v", more, e.Star, last)
			}
		}
	}
}

// TestGreaterLimitsHaveNoMoreContradictions is the second half of promise 6, and the same for lesser times.
func TestGreaterLimitsHaveNoMoreContradictions(t *testing.T) {
	pairsOf := func(list []impl.Estimate, apart, by int64) map[string]bool {
		pairs, code := impl.Contradictions(list, apart, by)
		if code != impl.OK {
			t.Fatalf("Contradictions(%v, %d, %d): got %d", list, apart, by, code)
		}
		all := map[string]bool{}
		for _, pair := range pairs {
			all[fmt.Sprint(pair)] = true
		}
		return all
	}
	within := func(name string, few, many map[string]bool) {
		for pair := range few {
			if !many[pair] {
				t.Fatalf("%s: %s is not among %v", name, pair, many)
			}
		}
	}
	apart, by := []int64{0, 1, 2, 5, 60, 999, 1000, 100_000}, []int64{1, 2, 3, 10, 500, 501, 5000, 20_000}
	for n, list := range goodEstimateLists() {
		for i, a := range apart {
			for k, b := range by {
				pairs := pairsOf(list, a, b)
				if k > 0 {
					within(fmt.Sprint("list ", n, " by ", b), pairs, pairsOf(list, a, by[k-1]))
				}
				if i > 0 {
					within(fmt.Sprint("list ", n, " apart ", a), pairsOf(list, apart[i-1], b), pairs)
				}
			}
		}
	}
}

// TestEstimatesForAllArguments is promise 1 for chapter 6: each call returns, and returns the same again.
func TestEstimatesForAllArguments(t *testing.T) {
	lists := append(goodEstimateLists()[:15], badEstimateLists()...)
	for i, list := range lists {
		other := lists[i*31%len(lists)]
		for _, e := range append(badEstimates(), exampleEstimates()...) {
			keepEstimates(t, "estimates", list, func(list []impl.Estimate) {
				twice(t, "estimates", func() []any {
					more, one := impl.AddEstimate(list, e)
					merged, two := impl.MergeEstimates(list, other)
					ofStar, three := impl.OfStar(list, e.Star, e.Time, e.Mag)
					own, four := impl.OfObserver(list, e.Observer)
					stars, five := impl.StarsIn(list)
					last, six := impl.LastOf(list, e.Star)
					pairs, seven := impl.Contradictions(list, e.Time, e.Mag)
					read, ok := impl.ReadEstimates(e.Star)
					return []any{impl.ValidEstimates(list), impl.SameEstimates(list, other), more, one, merged, two, ofStar, three, own, four,
						stars, five, last, six, pairs, seven, impl.EstimatesText(list), read, ok}
				})
			})
		}
	}
}
