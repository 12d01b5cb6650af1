package tests

import (
	"fmt"
	"math/big"
	"math/rand/v2"
	"reflect"
	"slices"
	"strings"
	"testing"

	"loop.example/g01026/impl"
)

// edgeShifts are numbers at and beside the limits of shifts and differences.
var edgeShifts = numbers(-100000, -2001, -2000, -1999, -30, -1, 0, 1, 20, 1999, 2000, 2001, 100000)

// edgeNumbers are numbers at and beside the limits of counts and of the numbers of observers.
var edgeNumbers = numbers(-40, -2, -1, 0, 1, 2, 3, 4, 5, 38, 39, 40, 41, 60)

// fullObservers are as many observers as there may be, named o00 to o39.
func fullObservers() []impl.Observer {
	list := make([]impl.Observer, 40)
	for i := range list {
		list[i] = impl.Observer{Name: fmt.Sprintf("o%02d", i), Shift: int64(i)*100 - 1950}
	}
	return list
}

// edgeObservers have the shifts at both ends of their range.
func edgeObservers() []impl.Observer {
	return []impl.Observer{
		{Name: "a", Shift: -2000}, {Name: "a-", Shift: 2000}, {Name: "a0"}, {Name: "ab", Shift: -30},
		{Name: "b12345678901", Shift: -1999}, {Name: "eve", Shift: 20}, {Name: "zz", Shift: 1999},
	}
}

func goodObserverLists() [][]impl.Observer {
	return [][]impl.Observer{
		nil, {}, {{Name: "a"}}, edgeObservers(), fullObservers()[:2], fullObservers()[:39], fullObservers()[1:], fullObservers(),
	}
}

// badObservers are none by just one of their fields.
func badObservers() []impl.Observer {
	list := []impl.Observer{{}}
	for _, name := range append(slices.Clone(oddTexts), "Eve", "9eve", "-eve", "e ve", "abcdefghijklm", "eve\x00", "évé", strings.Repeat("a", 5000)) {
		list = append(list, impl.Observer{Name: name}, impl.Observer{Name: name, Shift: 2000})
	}
	for _, n := range numbers(-2001, 2001, -20000, 20000) {
		list = append(list, impl.Observer{Name: "eve", Shift: n})
	}
	return list
}

// badObserverLists are those with an observer who is none, with names out of order, or with too many observers.
func badObserverLists() [][]impl.Observer {
	named := func(names ...string) []impl.Observer {
		list := make([]impl.Observer, len(names))
		for i, name := range names {
			list[i].Name = name
		}
		return list
	}
	more := func(list []impl.Observer, names ...string) []impl.Observer { return append(list, named(names...)...) }
	list := [][]impl.Observer{
		named("a", "a"), named("b", "a"), named("a", "b", "b"), named("a", "a", "b"), named("a", "c", "b"), named("b", "a", "c"),
		named("a0", "a-"), named("aa", "a0"), named("aa", "a"), named("eve", "ab"), named("a", "b", "c", "d", "a"),
		more(fullObservers(), "p"), more(fullObservers(), "o00"), more(fullObservers()[:39], "o37"), more(fullObservers()[:39], "o38"),
		make([]impl.Observer, 1), make([]impl.Observer, 40), make([]impl.Observer, 41),
	}
	for _, x := range badObservers() {
		list = append(list, []impl.Observer{x}, []impl.Observer{{Name: "a"}, x}, []impl.Observer{x, {Name: "zz"}}, append(fullObservers()[:39], x))
	}
	for _, n := range numbers(-2001, 2001) { // names in order, so that nothing else is wrong
		list = append(list, append(fullObservers()[:39], impl.Observer{Name: "p", Shift: n}))
	}
	var long []impl.Observer // in order, but too long
	for i := range 300 {
		long = append(long, impl.Observer{Name: fmt.Sprintf("o%03d", i)})
	}
	return append(list, long, long[:41])
}

// keepObservers is keep for lists of observers.
func keepObservers(t *testing.T, name string, list []impl.Observer, f func(list []impl.Observer)) {
	t.Helper()
	keep(t, name, list, impl.Observer{Name: "spare", Shift: spare}, f)
}

func TestConstantsOfObservers(t *testing.T) {
	same(t, "constants", "40 2000 60", impl.MaxObserverList, impl.MaxShift, impl.MaxCommon)
}

func TestValidObservers(t *testing.T) {
	check := func(lists [][]impl.Observer, want string) {
		for _, list := range lists {
			keepObservers(t, "ValidObservers", list, func(list []impl.Observer) {
				same(t, fmt.Sprint("ValidObservers ", list), want, twice(t, "ValidObservers", func() []any { return []any{impl.ValidObservers(list)} })...)
			})
		}
	}
	check(goodObserverLists(), "true")
	check(badObserverLists(), "false")
}

// TestObserversAtTheirLimits holds both fields at and beside their limits against what the document says of an observer.
func TestObserversAtTheirLimits(t *testing.T) {
	check := func(x impl.Observer) {
		t.Helper()
		want := impl.IsName(x.Name) && between(x.Shift, -2000, 2000)
		_, added := impl.AddObserver(nil, x)
		_, applied := impl.ApplyShifts([]impl.Observer{{Name: "a"}}, []int64{x.Shift})
		if impl.ValidObservers([]impl.Observer{x}) != want || (added == impl.OK) != want || (impl.ObserverText(x) != "") != want {
			t.Errorf("%v: ValidObservers %v, AddObserver %d, ObserverText %q", x, !want, added, impl.ObserverText(x))
		}
		if !want && added != impl.ErrRange || (applied == impl.OK) != between(x.Shift, -2000, 2000) {
			t.Errorf("%v: AddObserver %d, ApplyShifts %d", x, added, applied)
		}
	}
	for _, n := range edgeShifts {
		check(impl.Observer{Name: "a", Shift: n})
		check(impl.Observer{Name: "A", Shift: n})
	}
	for _, name := range append(slices.Clone(oddTexts), "a", "z9-", "abcdefghijkl", "abcdefghijklm", "A") {
		check(impl.Observer{Name: name})
	}
	for _, x := range badObservers() {
		check(x)
	}
}

func TestSameObservers(t *testing.T) {
	lists := append(goodObserverLists(), badObserverLists()...)
	for i, a := range lists {
		for k, b := range lists {
			want := len(a) == 0 && len(b) == 0 || reflect.DeepEqual(a, b)
			if got := impl.SameObservers(a, b); got != want {
				t.Fatalf("SameObservers of lists %d and %d: got %v", i, k, got)
			}
		}
	}
	for _, list := range [][]impl.Observer{edgeObservers(), fullObservers(), make([]impl.Observer, 100)} {
		for i := range list {
			other := slices.Clone(list)
			equal := impl.SameObservers(list, other)
			other[i].Shift++
			shifted := impl.SameObservers(list, other)
			other[i] = impl.Observer{Name: list[i].Name + "x", Shift: list[i].Shift}
			keepObservers(t, "SameObservers", other, func(other []impl.Observer) {
				same(t, "SameObservers", "true false false false", equal, shifted, impl.SameObservers(list, other), impl.SameObservers(other, list))
			})
		}
	}
}

func TestAddObserver(t *testing.T) {
	for _, x := range []struct {
		names []string
		add   impl.Observer
		want  string
	}{
		{nil, impl.Observer{Name: "m", Shift: 5}, "[{m 5}] 0"},
		{[]string{"b"}, impl.Observer{Name: "a", Shift: -2000}, "[{a -2000} {b 0}] 0"},
		{[]string{"b"}, impl.Observer{Name: "c", Shift: 2000}, "[{b 0} {c 2000}] 0"},
		{[]string{"b", "d"}, impl.Observer{Name: "c"}, "[{b 0} {c 0} {d 1}] 0"},
		{[]string{"a-", "a0", "aa"}, impl.Observer{Name: "a", Shift: 9}, "[{a 9} {a- 0} {a0 1} {aa 2}] 0"},
		{[]string{"a1", "a2"}, impl.Observer{Name: "a10", Shift: 9}, "[{a1 0} {a10 9} {a2 1}] 0"},
		{[]string{"b", "d"}, impl.Observer{Name: "b"}, "[] 4"},
		{[]string{"b", "d"}, impl.Observer{Name: "d", Shift: 7}, "[] 4"},
		{[]string{"b", "d"}, impl.Observer{Name: "b", Shift: 2001}, "[] 2"},
		{[]string{"b", "d"}, impl.Observer{Name: "c", Shift: -2001}, "[] 2"},
		{[]string{"b", "d"}, impl.Observer{Name: "c c"}, "[] 2"},
		{[]string{"b", "d"}, impl.Observer{}, "[] 2"},
		{[]string{"d", "b"}, impl.Observer{Name: "c"}, "[] 1"},
		{[]string{"d", "b"}, impl.Observer{Name: "b", Shift: 2001}, "[] 1"},
		{[]string{"b", "b"}, impl.Observer{}, "[] 1"},
	} {
		list := []impl.Observer{}
		for i, name := range x.names {
			list = append(list, impl.Observer{Name: name, Shift: int64(i)})
		}
		more, code := impl.AddObserver(list, x.add)
		same(t, fmt.Sprint("AddObserver ", x.names, x.add), x.want, more, code)
	}
}

func TestAddObserverForAllLists(t *testing.T) {
	for _, list := range goodObserverLists() {
		for _, name := range []string{"a", "a-", "a00", "ab", "eve", "eve-", "n", "o", "o00", "o000", "o17", "o38", "o39", "o39-", "p", "zz", "zzz"} {
			x := impl.Observer{Name: name, Shift: -77}
			want, wantCode := addedWanted(list, x, 40, func(x impl.Observer) string { return x.Name })
			keepObservers(t, "AddObserver", list, func(list []impl.Observer) {
				got, code := impl.AddObserver(list, x)
				again, codeAgain := impl.AddObserver(list, x)
				same(t, fmt.Sprint("AddObserver ", list, x), fmt.Sprint(want, wantCode, want, wantCode), got, code, again, codeAgain)
				if code == impl.OK && !impl.ValidObservers(got) {
					t.Errorf("AddObserver(%v, %v): got %v", list, x, got)
				}
				// The result shares memory neither with the argument nor with the other result.
				clear(got)
				same(t, "the other result", fmt.Sprint(want), again)
			})
		}
		for _, x := range badObservers() {
			more, code := impl.AddObserver(list, x)
			same(t, fmt.Sprint("AddObserver ", list, x), "[] 2", more, code)
		}
	}
	for _, list := range badObserverLists() {
		for _, x := range []impl.Observer{{Name: "eve"}, {}, {Name: "a"}, {Name: "zzz"}, {Name: "a", Shift: 2001}} {
			more, code := impl.AddObserver(list, x)
			same(t, fmt.Sprint("AddObserver ", list, x), "[] 1", more, code)
		}
	}
}

func TestAddObserverUntilFull(t *testing.T) {
	var list []impl.Observer
	for i := range int64(40) {
		x := impl.Observer{Name: fmt.Sprintf("o%02d", i*17%40), Shift: i}
		more, code := impl.AddObserver(list, x)
		k, codeNamed := impl.ObserverNamed(more, x.Name)
		if code != impl.OK || codeNamed != impl.OK || more[k] != x || !impl.ValidObservers(more) {
			t.Fatalf("AddObserver of observer %d: got %v %d, at %d %d", i, more, code, k, codeNamed)
		}
		list = more
	}
	_, one := impl.AddObserver(list, impl.Observer{Name: "p"})
	_, two := impl.AddObserver(list, impl.Observer{Name: "o00"})
	_, three := impl.AddObserver(list, impl.Observer{Name: "o00", Shift: 2001})
	_, four := impl.AddObserver(list, impl.Observer{Name: "P"})
	_, five := impl.AddObserver(append(list, impl.Observer{Name: "p"}), impl.Observer{Name: "o00", Shift: 2001})
	same(t, "full", "40 5 4 2 2 1", len(list), one, two, three, four, five)
}

// observerNames are names to be searched in a list, those that it has among them.
func observerNames(list []impl.Observer) []string {
	names := append(slices.Clone(oddTexts), "a", "a-", "ab", "ev", "eve", "evex", "Eve", "o", "o40", "zzz", strings.Repeat("a", 5000))
	for _, x := range list {
		names = append(names, x.Name, x.Name+" ", x.Name[:len(x.Name)-1])
	}
	return names
}

// observerWanted searches a list from its end, and returns -1 if there is none.
func observerWanted(list []impl.Observer, name string) int {
	k := len(list) - 1
	for k >= 0 && list[k].Name != name {
		k--
	}
	return k
}

func TestObserverNamed(t *testing.T) {
	for _, list := range goodObserverLists() {
		for _, name := range observerNames(list) {
			want := fmt.Sprint(0, impl.ErrNotFound)
			if k := observerWanted(list, name); k >= 0 {
				want = fmt.Sprint(k, impl.OK)
			}
			keepObservers(t, "ObserverNamed", list, func(list []impl.Observer) {
				same(t, fmt.Sprintf("ObserverNamed %v %q", list, name), want, twice(t, "ObserverNamed", func() []any {
					k, code := impl.ObserverNamed(list, name)
					return []any{k, code}
				})...)
			})
		}
	}
	for _, list := range badObserverLists() {
		for _, name := range []string{"eve", "a", "o01", "", "No Name"} {
			k, code := impl.ObserverNamed(list, name)
			same(t, fmt.Sprintf("ObserverNamed %v %q", list, name), "0 1", k, code)
		}
	}
}

func TestCorrectMag(t *testing.T) {
	for _, x := range []struct {
		name string
		m    int64
		want string
	}{
		{"ab", 9000, "8970 0"}, {"eve", 9000, "9020 0"}, {"a0", 9000, "9000 0"}, {"a0", -2000, "-2000 0"}, {"a0", 20000, "20000 0"},
		{"eve", 19979, "19999 0"}, {"eve", 19980, "20000 0"}, {"eve", 19981, "0 5"}, {"eve", 20000, "0 5"}, {"eve", 20001, "0 2"},
		{"ab", -1969, "-1999 0"}, {"ab", -1970, "-2000 0"}, {"ab", -1971, "0 5"}, {"ab", -2000, "0 5"}, {"ab", -2001, "0 2"},
		{"a", 0, "-2000 0"}, {"a", -1, "0 5"}, {"a", 2000, "0 0"}, {"a", 20000, "18000 0"}, {"a", 20001, "0 2"},
		{"a-", 18000, "20000 0"}, {"a-", 18001, "0 5"}, {"a-", -2000, "0 0"}, {"a-", -2001, "0 2"},
		{"zz", 18001, "20000 0"}, {"zz", 18002, "0 5"}, {"b12345678901", -1, "-2000 0"}, {"b12345678901", -2, "0 5"},
		{"bob", 9000, "0 3"}, {"", 9000, "0 3"}, {"Eve", 9000, "0 3"}, {"eve ", 20000, "0 3"}, {"bob", 20001, "0 2"}, {"", -2001, "0 2"},
	} {
		got, code := impl.CorrectMag(edgeObservers(), x.name, x.m)
		same(t, fmt.Sprint("CorrectMag", x), x.want, got, code)
	}
}

func correctedWanted(list []impl.Observer, name string, m int64) string {
	k := observerWanted(list, name)
	switch {
	case !isMag(m):
		return "0 2"
	case k < 0:
		return "0 3"
	case !isMag(m + list[k].Shift):
		return "0 5"
	}
	return fmt.Sprint(m+list[k].Shift, 0)
}

func TestCorrectMagForAllArguments(t *testing.T) {
	for _, list := range goodObserverLists() {
		for _, name := range observerNames(list) {
			for _, m := range append([]int64{-30, 18050, 18051, -51, -50}, edgeMags...) {
				keepObservers(t, "CorrectMag", list, func(list []impl.Observer) {
					same(t, fmt.Sprintf("CorrectMag %v %q %d", list, name, m), correctedWanted(list, name, m), twice(t, "CorrectMag", func() []any {
						got, code := impl.CorrectMag(list, name, m)
						return []any{got, code}
					})...)
				})
			}
		}
	}
	for _, list := range badObserverLists() {
		for _, m := range []int64{9000, 20000, 20001, -2001} {
			for _, name := range []string{"a", "o01", "nobody", ""} {
				got, code := impl.CorrectMag(list, name, m)
				same(t, fmt.Sprintf("CorrectMag %v %q %d", list, name, m), "0 1", got, code)
			}
		}
	}
}

func TestApplyShifts(t *testing.T) {
	list := []impl.Observer{{Name: "ab", Shift: -30}, {Name: "eve", Shift: 20}}
	for _, x := range []struct {
		shifts []int64
		want   string
	}{
		{[]int64{5, 6}, "[{ab 5} {eve 6}] 0"}, {[]int64{6, 5}, "[{ab 6} {eve 5}] 0"}, {[]int64{0, 0}, "[{ab 0} {eve 0}] 0"},
		{[]int64{-2000, 2000}, "[{ab -2000} {eve 2000}] 0"}, {[]int64{2000, -2000}, "[{ab 2000} {eve -2000}] 0"},
		{[]int64{-2001, 0}, "[] 2"}, {[]int64{0, -2001}, "[] 2"}, {[]int64{2001, 0}, "[] 2"}, {[]int64{0, 2001}, "[] 2"},
		{nil, "[] 2"}, {[]int64{5}, "[] 2"}, {[]int64{5, 6, 7}, "[] 2"}, {[]int64{2001}, "[] 2"},
	} {
		keepList(t, "ApplyShifts", x.shifts, func(shifts []int64) {
			got, code := impl.ApplyShifts(list, shifts)
			same(t, fmt.Sprint("ApplyShifts", x), x.want, got, code)
		})
	}
	same(t, "their list", "[{ab -30} {eve 20}]", list)
}

func TestApplyShiftsForAllLists(t *testing.T) {
	for _, list := range goodObserverLists() {
		want, shifts := slices.Clone(list), make([]int64, len(list))
		for i := range list {
			shifts[i] = 2000 - int64(i)*100
			want[i].Shift = shifts[i]
		}
		keepObservers(t, "ApplyShifts", list, func(list []impl.Observer) {
			got, code := impl.ApplyShifts(list, shifts)
			again, codeAgain := impl.ApplyShifts(list, shifts)
			same(t, fmt.Sprint("ApplyShifts ", list), fmt.Sprint(want, 0, want, 0), got, code, again, codeAgain)
			clear(got)
			same(t, "the other result", fmt.Sprint(want), again)
		})
		for i := range list {
			for _, n := range numbers(-2001, 2001) {
				wrong := slices.Clone(shifts)
				wrong[i] = n
				got, code := impl.ApplyShifts(list, wrong)
				same(t, fmt.Sprint("ApplyShifts ", list, wrong), "[] 2", got, code)
			}
		}
		more, code := impl.ApplyShifts(list, append(shifts, 0))
		same(t, "one shift too many", "[] 2", more, code)
	}
	for _, list := range badObserverLists() {
		for _, shifts := range [][]int64{make([]int64, len(list)), nil, {2001}, {0, 0}} {
			got, code := impl.ApplyShifts(list, shifts)
			same(t, fmt.Sprint("ApplyShifts ", list, shifts), "[] 1", got, code)
		}
	}
}

func TestObserverText(t *testing.T) {
	for want, x := range map[string]impl.Observer{
		"ab -30": {Name: "ab", Shift: -30}, "eve +20": {Name: "eve", Shift: 20}, "a +0": {Name: "a"}, "a -1": {Name: "a", Shift: -1},
		"a +1": {Name: "a", Shift: 1}, "z9- +2000": {Name: "z9-", Shift: 2000}, "abcdefghijkl -2000": {Name: "abcdefghijkl", Shift: -2000},
	} {
		got, ok := impl.ReadObserver(want)
		same(t, want, fmt.Sprintf("%s %v true", want, x), impl.ObserverText(x), got, ok)
	}
	for _, x := range badObservers() {
		same(t, fmt.Sprint("ObserverText ", x), "", impl.ObserverText(x))
	}
	for _, name := range []string{"a", "a-", "a0", "eve", "abcdefghijkl"} {
		for n := int64(-2000); n <= 2000; n++ {
			x := impl.Observer{Name: name, Shift: n}
			want := fmt.Sprintf("%s %+d", name, n)
			if got, ok := impl.ReadObserver(want); impl.ObserverText(x) != want || got != x || !ok {
				t.Fatalf("%q: text %q, read %v %v", want, impl.ObserverText(x), got, ok)
			}
		}
	}
}

func TestReadObserverOfOtherTexts(t *testing.T) {
	texts := []string{
		"ab", "ab ", "ab 30", "ab +", "ab -", "ab +-3", "ab -+3", "ab ++3", "ab --3", "ab 0", "ab -0", "ab +00", "ab +03", "ab -030",
		"ab  +3", " ab +3", "ab +3 ", "ab +3\n", "ab\t+3", "ab +3 +4", "ab+3", "+3", " +3", "ab + 3", "ab +3.0", "ab +0x3", "ab +1_0", "ab +3e1",
		"ab +2001", "ab -2001", "ab +20000", "ab +9223372036854775807", "ab -9223372036854775808", "ab +9223372036854775808", "ab +18446744073709551616",
		"ab +99999999999999999999999999", "Ab +1", "aB +1", "9ab +1", "-ab +1", "a b +1", "a_b +1", "abcdefghijklm +1", "ab\x00 +1", "ab +1\x00", "áb +1",
		"ab +٣", "ab ＋3", "ab −3", "ab\u00a0+3", "ab +\xff", "\xffab +1", strings.Repeat("a", 5000) + " +1", "ab +" + strings.Repeat("0", 5000) + "1",
	}
	for _, odd := range oddTexts {
		texts = append(texts, odd, "ab "+odd, "ab +"+odd, "ab -"+odd, odd+" +1", "ab"+odd+"+1", "ab +1 "+odd)
	}
	for _, s := range texts {
		if s == "ab +1" {
			continue
		}
		same(t, fmt.Sprintf("ReadObserver %q", s), "{ 0} false", twice(t, "ReadObserver", func() []any {
			x, ok := impl.ReadObserver(s)
			return []any{x, ok}
		})...)
	}
}

// commonsCase is a list of common estimates for some observers.
type commonsCase struct {
	count int64
	list  []impl.Common
}

// commons has a common estimate for each three numbers: A, B and Diff.
func commons(list ...int64) []impl.Common {
	var c []impl.Common
	for x := range slices.Chunk(list, 3) {
		c = append(c, impl.Common{A: x[0], B: x[1], Diff: x[2]})
	}
	return c
}

// chain links each of 40 observers with the next one, with all differences at one end of their range.
func chain(diff int64) commonsCase {
	x := commonsCase{count: 40}
	for i := range int64(39) {
		x.list = append(x.list, impl.Common{A: i, B: i + 1, Diff: diff})
	}
	return x
}

// dice are common estimates by chance, the same ones in every run; few of many observers are not linked.
func dice(seed uint64) commonsCase {
	r := rand.New(rand.NewPCG(5, seed))
	x := commonsCase{count: 1 + r.Int64N(40)}
	if seed%2 == 0 {
		x.count = 2 + r.Int64N(7) // so that there are several differences of the same two
	}
	limit := []int64{1, 3, 100, 2000}[r.IntN(4)]
	for range r.IntN(61) {
		a, b := r.Int64N(x.count), r.Int64N(x.count)
		if a != b {
			x.list = append(x.list, impl.Common{A: a, B: b, Diff: r.Int64N(2*limit+1) - limit})
		}
	}
	return x
}

func goodCommons() []commonsCase {
	pairs := commonsCase{count: 2}
	for i := range int64(60) {
		pairs.list = append(pairs.list, impl.Common{A: i % 2, B: 1 - i%2, Diff: i*67%4001 - 2000})
	}
	ends := commonsCase{40, commons(39, 0, 2000, 0, 39, -2000, 38, 39, 0, 1, 0, 0)}
	cases := []commonsCase{
		{count: 1}, {count: 1, list: []impl.Common{}}, {count: 2}, {count: 40}, pairs, ends, chain(2000), chain(-2000),
		{2, commons(1, 0, -120)}, {4, commons(0, 1, 100, 1, 0, -120, 1, 2, 50)}, {5, commons(3, 4, 7, 0, 1, 100)},
	}
	for seed := range uint64(300) {
		cases = append(cases, dice(seed))
	}
	return cases
}

func badCommons() []commonsCase {
	var cases []commonsCase
	for _, n := range numbers(-40, -1, 0, 41, 60) {
		cases = append(cases, commonsCase{count: n}, commonsCase{count: n, list: []impl.Common{{A: 0, B: 1}}}, commonsCase{count: n, list: []impl.Common{{A: 0, B: 0}}})
	}
	cases = append(cases, commonsCase{count: 1, list: []impl.Common{{A: 0, B: 1}}}, commonsCase{count: 1, list: make([]impl.Common, 1)})
	wrong := []impl.Common{{A: 0, B: 0}, {A: 3, B: 3, Diff: 5}, {A: 4, B: 4}, {A: -1, B: -1}, {A: 1, B: 0, Diff: 2001}, {A: 1, B: 0, Diff: -2001}}
	for _, n := range numbers(-1, 4, 40) {
		wrong = append(wrong, impl.Common{A: n, B: 0}, impl.Common{A: 0, B: n}, impl.Common{A: n, B: n}, impl.Common{A: n, B: 0, Diff: n})
	}
	for _, n := range extremes {
		wrong = append(wrong, impl.Common{A: 0, B: 1, Diff: n})
	}
	good := impl.Common{A: 0, B: 1, Diff: 9}
	for _, c := range wrong {
		cases = append(cases, commonsCase{4, []impl.Common{c}}, commonsCase{4, []impl.Common{good, c}}, commonsCase{4, []impl.Common{c, good}},
			commonsCase{4, append(slices.Repeat([]impl.Common{good}, 59), c)})
	}
	for _, n := range []int{61, 62, 300} {
		cases = append(cases, commonsCase{4, slices.Repeat([]impl.Common{good}, n)})
	}
	return cases
}

// keepCommons is keep for common estimates.
func keepCommons(t *testing.T, name string, list []impl.Common, f func(list []impl.Common)) {
	t.Helper()
	keep(t, name, list, impl.Common{A: spare, B: spare, Diff: spare}, f)
}

func TestValidCommons(t *testing.T) {
	check := func(cases []commonsCase, want string) {
		for _, x := range cases {
			keepCommons(t, "ValidCommons", x.list, func(list []impl.Common) {
				same(t, fmt.Sprint("ValidCommons ", x), want, twice(t, "ValidCommons", func() []any { return []any{impl.ValidCommons(x.count, list)} })...)
			})
		}
	}
	check(goodCommons(), "true")
	check(badCommons(), "false")
	for _, count := range edgeNumbers {
		same(t, fmt.Sprint("ValidCommons without any ", count), fmt.Sprint(between(count, 1, 40)), impl.ValidCommons(count, nil))
		for _, a := range edgeNumbers {
			for _, b := range edgeNumbers {
				want := between(count, 1, 40) && a != b && a >= 0 && a < count && b >= 0 && b < count
				if got := impl.ValidCommons(count, []impl.Common{{A: a, B: b}}); got != want {
					t.Errorf("ValidCommons for %d observers of %d and %d: got %v", count, a, b, got)
				}
			}
		}
	}
	for _, n := range edgeShifts {
		same(t, fmt.Sprint("ValidCommons of ", n), fmt.Sprint(between(n, -2000, 2000)), impl.ValidCommons(2, []impl.Common{{A: 1, B: 0, Diff: n}}))
	}
}

// diffsWanted are the differences of b against a.
func diffsWanted(list []impl.Common, a, b int64) []int64 {
	var diffs []int64
	for _, c := range list {
		switch {
		case c.A == a && c.B == b:
			diffs = append(diffs, c.Diff)
		case c.A == b && c.B == a:
			diffs = append(diffs, -c.Diff)
		}
	}
	return diffs
}

func medianWanted(list []int64) int64 {
	ordered := slices.Sorted(slices.Values(list))
	n := len(ordered)
	return nearestOf(big.NewRat(ordered[(n-1)/2]+ordered[n/2], 2))
}

func TestMedianDiff(t *testing.T) {
	for _, x := range []struct {
		there, back []int64 // of 1 against 0, and of 0 against 1
		want        string
	}{
		{nil, nil, "0 3 0 3"},
		{[]int64{0}, nil, "0 0 0 0"},
		{[]int64{7}, nil, "7 0 -7 0"},
		{nil, []int64{7}, "-7 0 7 0"},
		{[]int64{100}, []int64{-120}, "110 0 -110 0"},
		{[]int64{0, 1}, nil, "1 0 0 0"},
		{[]int64{-1, 0}, nil, "0 0 1 0"},
		{[]int64{-2, -1}, nil, "-1 0 2 0"},
		{[]int64{1}, []int64{0}, "1 0 0 0"},
		{[]int64{5, 1, 3}, nil, "3 0 -3 0"},
		{[]int64{5, 1, 3, 100}, nil, "4 0 -4 0"},
		{[]int64{2000, -2000, 1}, nil, "1 0 -1 0"},
		{[]int64{2000, 2000}, []int64{-2000}, "2000 0 -2000 0"},
		{nil, []int64{2000, 2000, 2000, 2000}, "-2000 0 2000 0"},
		{[]int64{2000, -2000}, nil, "0 0 0 0"},
		{[]int64{3, 3, 3}, []int64{-1, -1}, "3 0 -3 0"},
		{[]int64{3, 3}, []int64{-1, -1}, "2 0 -2 0"},
		{[]int64{9, 8, 7, 6, 5, 4, 3, 2, 1, 0}, nil, "5 0 -4 0"},
	} {
		list := commons(2, 0, 1000, 1, 2, -1000)
		for _, d := range x.there {
			list = append(list, impl.Common{A: 0, B: 1, Diff: d})
		}
		for _, d := range x.back {
			list = append(list, impl.Common{A: 1, B: 0, Diff: d})
		}
		there, one := impl.MedianDiff(3, list, 0, 1)
		back, two := impl.MedianDiff(3, list, 1, 0)
		same(t, fmt.Sprint("MedianDiff", x), x.want, there, one, back, two)
	}
}

// TestMedianDiffIsThatOfMedianMag holds medians of differences that are magnitudes against those of chapter 2.
func TestMedianDiffIsThatOfMedianMag(t *testing.T) {
	r := rand.New(rand.NewPCG(5, 5))
	for n := 1; n <= 60; n++ {
		for range 20 {
			limit := []int64{1, 2, 10, 2000}[r.IntN(4)]
			var list []impl.Common
			var mags []int64
			for range n {
				mags = append(mags, r.Int64N(2*limit+1)-limit)
				list = append(list, impl.Common{A: 3, B: 1, Diff: mags[len(mags)-1]})
			}
			want, wantCode := impl.MedianMag(mags)
			got, code := impl.MedianDiff(4, list, 3, 1)
			same(t, fmt.Sprint("MedianDiff ", mags), fmt.Sprint(want, wantCode), got, code)
		}
	}
}

func TestMedianDiffForAllArguments(t *testing.T) {
	for _, x := range goodCommons()[:60] {
		for _, a := range edgeNumbers {
			for _, b := range edgeNumbers {
				want := "0 2"
				if between(a, 0, x.count-1) && between(b, 0, x.count-1) && a != b {
					want = "0 3"
					if diffs := diffsWanted(x.list, a, b); len(diffs) > 0 {
						want = fmt.Sprint(medianWanted(diffs), 0)
					}
				}
				keepCommons(t, "MedianDiff", x.list, func(list []impl.Common) {
					same(t, fmt.Sprint("MedianDiff ", x, a, b), want, twice(t, "MedianDiff", func() []any {
						got, code := impl.MedianDiff(x.count, list, a, b)
						return []any{got, code}
					})...)
				})
			}
		}
	}
	for _, x := range badCommons() {
		for _, n := range numbers(-1, 0, 1, 4) {
			one, code := impl.MedianDiff(x.count, x.list, 0, n)
			two, codeTwo := impl.MedianDiff(x.count, x.list, n, 0)
			same(t, fmt.Sprint("MedianDiff ", x, n), "0 1 0 1", one, code, two, codeTwo)
		}
	}
}

// shiftsWanted finds shifts in rounds, as the document tells it: only those from before a round count in it.
func shiftsWanted(x commonsCase, first int64) ([]int64, []int64) {
	shifts, has := make([]int64, x.count), make([]bool, x.count)
	has[first] = true
	for found := true; found; {
		found = false
		before := slices.Clone(has)
		for b := range x.count {
			var list []int64
			for a := range x.count {
				if !before[a] || before[b] {
					continue
				}
				for _, d := range diffsWanted(x.list, a, b) {
					list = append(list, shifts[a]-d)
				}
			}
			if len(list) > 0 {
				shifts[b], has[b], found = medianWanted(list), true, true
			}
		}
	}
	var linked []int64
	for i, is := range has {
		if is {
			linked = append(linked, int64(i))
		}
	}
	return shifts, linked
}

func TestShiftsFrom(t *testing.T) {
	for _, x := range []struct {
		name   string
		x      commonsCase
		first  int64
		linked string
		shifts string
	}{
		{"one observer", commonsCase{count: 1}, 0, "[0]", "[0]"},
		{"nobody linked", commonsCase{count: 4}, 2, "[2]", "[0 0 0 0]"},
		{"one pair", commonsCase{2, commons(0, 1, 100)}, 0, "[0 1]", "[0 -100]"},
		{"one pair from its other end", commonsCase{2, commons(0, 1, 100)}, 1, "[0 1]", "[100 0]"},
		{"one turned pair", commonsCase{2, commons(1, 0, 100)}, 0, "[0 1]", "[0 100]"},
		{"some not linked", commonsCase{6, commons(4, 5, 9, 1, 0, 7, 3, 4, -8)}, 0, "[0 1]", "[0 7 0 0 0 0]"},
		{"others not linked", commonsCase{6, commons(4, 5, 9, 1, 0, 7, 3, 4, -8)}, 5, "[3 4 5]", "[0 0 0 1 9 0]"},
		{"linked to nobody", commonsCase{6, commons(4, 5, 9, 1, 0, 7, 3, 4, -8)}, 2, "[2]", "[0 0 0 0 0 0]"},
		{"both directions", commonsCase{4, commons(0, 1, 100, 1, 0, -120, 1, 2, 50)}, 0, "[0 1 2]", "[0 -110 -160 0]"},
		{"from the middle", commonsCase{4, commons(0, 1, 100, 1, 0, -120, 1, 2, 50)}, 1, "[0 1 2]", "[110 0 -50 0]"},
		{"the same round does not count", commonsCase{3, commons(0, 1, 100, 0, 2, 200, 1, 2, 10)}, 0, "[0 1 2]", "[0 -100 -200]"},
		{"nor from behind", commonsCase{3, commons(2, 1, 100, 2, 0, 200, 1, 0, 10)}, 2, "[0 1 2]", "[-200 -100 0]"},
		{"two ways in a later round", commonsCase{4, commons(0, 1, 100, 1, 2, 50, 2, 3, 10, 0, 3, 30)}, 0, "[0 1 2 3]", "[0 -100 -85 -30]"},
		{"half numbers go up", commonsCase{2, commons(0, 1, 1, 0, 1, 2)}, 0, "[0 1]", "[0 -1]"},
		{"half numbers go up on the other side", commonsCase{2, commons(0, 1, 1, 0, 1, 2)}, 1, "[0 1]", "[2 0]"},
		{"half numbers of two ways", commonsCase{4, commons(0, 1, 0, 0, 2, 1, 1, 3, 0, 2, 3, 0)}, 0, "[0 1 2 3]", "[0 0 -1 0]"},
		{"a later round against a lesser number", commonsCase{5, commons(4, 3, 1, 3, 1, 2, 1, 2, 4, 2, 0, 8)}, 4, "[0 1 2 3 4]", "[-15 -3 -7 -1 0]"},
		{"each estimate counts", commonsCase{4, commons(0, 1, 0, 0, 2, 0, 1, 3, 10, 1, 3, 10, 1, 3, 10, 2, 3, 90)}, 0, "[0 1 2 3]", "[0 0 0 -10]"},
	} {
		linked, one := impl.LinkedTo(x.x.count, x.x.list, x.first)
		shifts, two := impl.ShiftsFrom(x.x.count, x.x.list, x.first)
		same(t, x.name, x.linked+" 0 "+x.shifts+" 0", linked, one, shifts, two)
	}
}

// TestShiftsOfLongChains has shifts that are no magnitudes and more than MaxShift.
func TestShiftsOfLongChains(t *testing.T) {
	for _, diff := range []int64{2000, -2000, 1} {
		x := chain(diff)
		shifts, code := impl.ShiftsFrom(40, x.list, 0)
		back, codeBack := impl.ShiftsFrom(40, x.list, 39)
		spread, codeSpread := impl.SpreadLeft(40, x.list, shifts)
		linked, codeLinked := impl.LinkedTo(40, x.list, 17)
		same(t, "chain", fmt.Sprint(-39*diff, 0, 39*diff, 0, 0, 0, 40, 0), shifts[39], code, back[0], codeBack, spread, codeSpread, len(linked), codeLinked)
		for i := range shifts {
			same(t, fmt.Sprint("chain at ", i), fmt.Sprint(-diff*int64(i), diff*int64(39-i)), shifts[i], back[i])
		}
	}
}

func TestShiftsForAllCommons(t *testing.T) {
	for _, x := range goodCommons() {
		for first := range x.count {
			shifts, linked := shiftsWanted(x, first)
			want := fmt.Sprint(linked, 0, shifts, 0)
			keepCommons(t, "ShiftsFrom", x.list, func(list []impl.Common) {
				same(t, fmt.Sprint("ShiftsFrom ", x, first), want, twice(t, "ShiftsFrom", func() []any {
					linked, one := impl.LinkedTo(x.count, list, first)
					shifts, two := impl.ShiftsFrom(x.count, list, first)
					return []any{linked, one, shifts, two}
				})...)
			})
		}
	}
}

// TestShiftsDoNotDependOnOrder turns lists around, and each common estimate as well.
func TestShiftsDoNotDependOnOrder(t *testing.T) {
	for _, x := range goodCommons() {
		var other []impl.Common
		for _, c := range slices.Backward(x.list) {
			other = append(other, impl.Common{A: c.B, B: c.A, Diff: -c.Diff})
		}
		one, _ := impl.ShiftsFrom(x.count, x.list, x.count-1)
		two, _ := impl.ShiftsFrom(x.count, other, x.count-1)
		same(t, fmt.Sprint("ShiftsFrom ", other), fmt.Sprint(one), two)
	}
}

func TestShiftsOfOtherArguments(t *testing.T) {
	for _, x := range append(goodCommons()[:60], badCommons()...) {
		valid := impl.ValidCommons(x.count, x.list)
		for _, first := range edgeNumbers {
			if valid && between(first, 0, x.count-1) {
				continue
			}
			want := "[] 1 [] 1"
			if valid {
				want = "[] 2 [] 2"
			}
			keepCommons(t, "ShiftsFrom", x.list, func(list []impl.Common) {
				linked, one := impl.LinkedTo(x.count, list, first)
				shifts, two := impl.ShiftsFrom(x.count, list, first)
				same(t, fmt.Sprint("LinkedTo and ShiftsFrom ", x, first), want, linked, one, shifts, two)
			})
		}
	}
}

func TestShiftsAreNewSlices(t *testing.T) {
	x := goodCommons()[9]
	for i, call := range []func() ([]int64, int64){
		func() ([]int64, int64) { return impl.LinkedTo(x.count, x.list, 2) },
		func() ([]int64, int64) { return impl.ShiftsFrom(x.count, x.list, 2) },
	} {
		first, _ := call()
		want := fmt.Sprint(first)
		clear(first)
		second, _ := call()
		same(t, fmt.Sprint("call ", i), want, second)
	}
}

func TestSpreadLeft(t *testing.T) {
	list := commons(0, 1, 100, 1, 0, -120, 1, 2, 50)
	for _, x := range []struct {
		list   []impl.Common
		shifts []int64
		want   string
	}{
		{list, []int64{0, -110, -160, 0}, "10 0"}, {list, []int64{0, 0, 0, 0}, "120 0"}, {list, []int64{0, -100, -150, 0}, "20 0"},
		{list, []int64{0, -120, -170, 2000}, "20 0"}, {list, []int64{5, -105, -155, 77}, "10 0"}, {list, []int64{0, 0, -1000, 0}, "950 0"},
		{list, []int64{0, 0, 1000, 0}, "1050 0"}, {list[2:], []int64{0, 0, -50, 0}, "0 0"}, {list[2:], []int64{9, 50, 0, 9}, "0 0"},
		{nil, []int64{1, 2, 3, 4}, "0 0"}, {nil, []int64{100000, -100000, 0, 0}, "0 0"},
		{list[:1], []int64{-100000, 100000, 0, 0}, "200100 0"}, {list[:1], []int64{100000, -100000, 0, 0}, "199900 0"},
		{list, []int64{100001, 0, 0, 0}, "0 2"}, {list, []int64{-100001, 0, 0, 0}, "0 2"}, {list, []int64{0, 0, 0, 100001}, "0 2"},
		{list, []int64{0, 0, 0, -100001}, "0 2"}, {nil, []int64{0, 0, 0, -100001}, "0 2"}, {list, nil, "0 2"}, {nil, nil, "0 2"},
		{list, []int64{0, 0, 0}, "0 2"}, {list, []int64{0, 0, 0, 0, 0}, "0 2"}, {nil, []int64{0, 0, 0, 0, 0}, "0 2"},
		{[]impl.Common{{A: 3, B: 3}}, []int64{0, 0, 0, 0}, "0 1"}, {[]impl.Common{{A: 3, B: 4}}, []int64{100001}, "0 1"},
		{[]impl.Common{{A: 3, B: 1, Diff: 2001}}, nil, "0 1"},
	} {
		keepList(t, "SpreadLeft", x.shifts, func(shifts []int64) {
			got, code := impl.SpreadLeft(4, x.list, shifts)
			same(t, fmt.Sprint("SpreadLeft", x), x.want, got, code)
		})
	}
}

func TestSpreadLeftForAllCommons(t *testing.T) {
	for seed, x := range goodCommons() {
		r := rand.New(rand.NewPCG(7, uint64(seed)))
		shifts := make([]int64, x.count)
		for i := range shifts {
			shifts[i] = []int64{-100000, 100000, 0, r.Int64N(2001) - 1000}[r.IntN(4)]
		}
		var want int64
		for _, c := range x.list {
			left := c.Diff + shifts[c.B] - shifts[c.A]
			want = max(want, left, -left)
		}
		keepCommons(t, "SpreadLeft", x.list, func(list []impl.Common) {
			same(t, fmt.Sprint("SpreadLeft ", x, shifts), fmt.Sprint(want, 0), twice(t, "SpreadLeft", func() []any {
				got, code := impl.SpreadLeft(x.count, list, shifts)
				return []any{got, code}
			})...)
		})
		for _, n := range numbers(-100001, 100001) {
			wrong := slices.Clone(shifts)
			wrong[seed%len(wrong)] = n
			got, code := impl.SpreadLeft(x.count, x.list, wrong)
			same(t, fmt.Sprint("SpreadLeft ", x, wrong), "0 2", got, code)
		}
		few, one := impl.SpreadLeft(x.count, x.list, shifts[1:])
		many, two := impl.SpreadLeft(x.count, x.list, append(shifts, 0))
		same(t, "another number of shifts", "0 2 0 2", few, one, many, two)
	}
	for _, x := range badCommons() {
		for _, shifts := range [][]int64{nil, make([]int64, 4), {100001}, make([]int64, 40)} {
			got, code := impl.SpreadLeft(x.count, x.list, shifts)
			same(t, fmt.Sprint("SpreadLeft ", x, shifts), "0 1", got, code)
		}
	}
}

// TestLinkedObserversAreLinkedBack is the first half of promise 5.
func TestLinkedObserversAreLinkedBack(t *testing.T) {
	for _, x := range goodCommons() {
		lists := make([][]int64, x.count)
		for first := range x.count {
			linked, code := impl.LinkedTo(x.count, x.list, first)
			if code != impl.OK || !slices.Contains(linked, first) || !slices.IsSorted(linked) || len(slices.Compact(slices.Clone(linked))) != len(linked) {
				t.Fatalf("LinkedTo(%v, %d): got %v %d", x, first, linked, code)
			}
			lists[first] = linked
		}
		for first, linked := range lists {
			for _, other := range linked {
				if !slices.Equal(lists[other], linked) {
					t.Fatalf("%v: %d is linked to %v, but %d to %v", x, first, linked, other, lists[other])
				}
			}
		}
		for _, c := range x.list {
			if !slices.Contains(lists[c.A], c.B) {
				t.Fatalf("%v: %d is not linked to %d", x, c.A, c.B)
			}
		}
	}
}

// TestShiftsLeaveNoDifferenceOfASinglePair is the second half of promise 5.
func TestShiftsLeaveNoDifferenceOfASinglePair(t *testing.T) {
	for _, count := range []int64{2, 3, 40} {
		for diff := int64(-2000); diff <= 2000; diff++ {
			for _, c := range []impl.Common{{A: 0, B: count - 1, Diff: diff}, {A: count - 1, B: 0, Diff: diff}} {
				for _, first := range []int64{0, count - 1} {
					shifts, one := impl.ShiftsFrom(count, []impl.Common{c}, first)
					spread, two := impl.SpreadLeft(count, []impl.Common{c}, shifts)
					if one != impl.OK || two != impl.OK || spread != 0 || shifts[first] != 0 {
						t.Fatalf("%v from %d: shifts %v %d, spread %d %d", c, first, shifts, one, spread, two)
					}
				}
			}
		}
	}
}

// TestObserversForAllArguments is promise 1 for chapter 5: each call returns, and returns the same again.
func TestObserversForAllArguments(t *testing.T) {
	lists := append(goodObserverLists(), badObserverLists()[:40]...)
	for _, list := range lists {
		for _, x := range badObservers() {
			keepObservers(t, "observers", list, func(list []impl.Observer) {
				twice(t, "observers", func() []any {
					more, one := impl.AddObserver(list, x)
					place, two := impl.ObserverNamed(list, x.Name)
					m, three := impl.CorrectMag(list, x.Name, x.Shift)
					shifted, four := impl.ApplyShifts(list, []int64{x.Shift, x.Shift})
					read, ok := impl.ReadObserver(x.Name)
					return []any{impl.ValidObservers(list), impl.SameObservers(list, more), more, one, place, two, m, three, shifted, four, impl.ObserverText(x), read, ok}
				})
			})
		}
	}
	for _, x := range append(goodCommons()[:20], badCommons()...) {
		for _, count := range edgeNumbers {
			for _, first := range []int64{extremes[0], -1, 0, 1, 39, 40, extremes[len(extremes)-1]} {
				keepCommons(t, "commons", x.list, func(list []impl.Common) {
					twice(t, "commons", func() []any {
						median, one := impl.MedianDiff(count, list, first, count-1)
						linked, two := impl.LinkedTo(count, list, first)
						shifts, three := impl.ShiftsFrom(count, list, first)
						spread, four := impl.SpreadLeft(count, list, []int64{first, count})
						return []any{impl.ValidCommons(count, list), median, one, linked, two, shifts, three, spread, four}
					})
				})
			}
		}
	}
}
