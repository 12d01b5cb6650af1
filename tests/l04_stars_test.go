package tests

import (
	"fmt"
	"reflect"
	"slices"
	"strings"
	"testing"

	"loop.example/g01026/impl"
)

// circle is how many right ascensions there are.
const circle = 86400

// edgeAscensions are numbers at and beside the limits of right ascensions and the middle of the circle.
var edgeAscensions = numbers(-86400, -2, -1, 0, 1, 2, 5, 100, 43198, 43199, 43200, 43201, 43202, 86390, 86398, 86399, 86400, 86401, 172799)

// edgeDecls are numbers at and beside the limits of declinations.
var edgeDecls = numbers(-324001, -324000, -323999, -3600, -60, -2, -1, 0, 1, 2, 60, 3600, 323999, 324000, 324001, 648000)

// edgeWidths are numbers at and beside the limits of widths.
var edgeWidths = numbers(-2, -1, 0, 1, 2, 100, 21599, 21600, 21601, 39999, 40000, 40001, 43199, 43200, 86400)

// middleMags are numbers within and at the limits of the ranges of the stars of goodCatalogues.
var middleMags = []int64{-1000, 499, 500, 501, 1999, 2000, 2001, 2999, 3000, 3001, 7000, 9999, 10000, 12400, 15000}

var mira = impl.Star{Name: "mira", Ascend: 8360, Decl: -10723, Bright: 2000, Faint: 10100}

func isAscension(n int64) bool { return between(n, 0, 86399) }

func isDecl(n int64) bool { return between(n, -324000, 324000) }

// full is a catalogue with as many stars as there may be, named a00 to a59.
func full() []impl.Star {
	list := make([]impl.Star, 60)
	seed := int64(11)
	for i := range list {
		seed = (75*seed + 74) % 65537
		bright := seed%9000 - 2000
		list[i] = impl.Star{
			Name:   fmt.Sprintf("a%02d", i),
			Ascend: seed * 7919 % circle,
			Decl:   seed*104729%648001 - 324000,
			Bright: bright,
			Faint:  bright + seed%7*500, // with many equal amplitudes
		}
	}
	return list
}

// edges is a catalogue with the stars at the limits of positions and magnitudes.
func edges() []impl.Star {
	return []impl.Star{
		{Name: "a", Ascend: 0, Decl: -324000, Bright: -2000, Faint: -2000},
		{Name: "a-", Ascend: 86399, Decl: 324000, Bright: -2000, Faint: 20000},
		{Name: "a0", Ascend: 43200, Decl: 0, Bright: 20000, Faint: 20000},
		{Name: "aa", Ascend: 43199, Decl: -1, Bright: 0, Faint: 0},
		{Name: "b", Ascend: 1, Decl: 1, Bright: -1, Faint: 0},
		{Name: "b12345678901", Ascend: 86398, Decl: 323999, Bright: 500, Faint: 501},
		{Name: "mira", Ascend: 8360, Decl: -10723, Bright: 2000, Faint: 10100},
		{Name: "zz", Ascend: 43201, Decl: -323999, Bright: 7700, Faint: 12400},
	}
}

func goodCatalogues() [][]impl.Star {
	return [][]impl.Star{nil, {}, {mira}, edges(), full()[:2], full()[:59], full()[1:], full()}
}

// badStars are what differs from mira just so that it is no star.
func badStars() []impl.Star {
	list := []impl.Star{{}}
	change := func(f func(x *impl.Star)) {
		x := mira
		f(&x)
		list = append(list, x)
	}
	for _, name := range append(slices.Clone(oddTexts), "Mira", "9mira", "-mira", "o ceti", "omicron-ceti-", strings.Repeat("a", 13), "mira\x00", "míra") {
		change(func(x *impl.Star) { x.Name = name })
	}
	for _, n := range numbers(-1, 86400, 172800, -86400) {
		change(func(x *impl.Star) { x.Ascend = n })
	}
	for _, n := range numbers(-324001, 324001, 648000, -648000) {
		change(func(x *impl.Star) { x.Decl = n })
	}
	for _, n := range numbers(-2001, 10101, 20001) {
		change(func(x *impl.Star) { x.Bright = n })
	}
	for _, n := range numbers(20001, 1999, -2001) {
		change(func(x *impl.Star) { x.Faint = n })
	}
	for _, n := range numbers(-2001, 20001) {
		change(func(x *impl.Star) { x.Bright, x.Faint = n, n })
	}
	return list
}

// badCatalogues are those with a star that is none, with names out of order, or with too many stars.
func badCatalogues() [][]impl.Star {
	named := func(names ...string) []impl.Star {
		list := make([]impl.Star, len(names))
		for i, name := range names {
			list[i] = mira
			list[i].Name = name
		}
		return list
	}
	more := func(list []impl.Star, names ...string) []impl.Star { return append(list, named(names...)...) }
	list := [][]impl.Star{
		named("a", "a"), named("b", "a"), named("a", "b", "b"), named("a", "a", "b"), named("a", "c", "b"), named("b", "a", "c"),
		named("a0", "a-"), named("aa", "a0"), named("aa", "a"), named("z", "b12345678901"), named("a", "b", "c", "d", "a"),
		more(full(), "b"), more(full(), "a00"), more(full(), "z", "zz", "zzz"), more(full()[:59], "a57"), more(full()[:59], "a58"),
		make([]impl.Star, 1), make([]impl.Star, 60), make([]impl.Star, 61), make([]impl.Star, 200),
	}
	for _, x := range badStars() {
		list = append(list, []impl.Star{x}, []impl.Star{mira, x}, []impl.Star{x, mira}, append(full()[:59], x))
	}
	var long []impl.Star // in order, but far too long
	for i := range 400 {
		long = append(long, impl.Star{Name: fmt.Sprintf("a%03d", i)})
	}
	list = append(list, long, long[:61])
	bad := mira
	for _, n := range numbers(-1, 86400) { // names in order, so that nothing else is wrong
		bad.Name, bad.Ascend = "mirb", n
		list = append(list, []impl.Star{mira, bad}, append(full()[:59], bad))
	}
	return list
}

// keepStars is keep for catalogues.
func keepStars(t *testing.T, name string, list []impl.Star, f func(list []impl.Star)) {
	t.Helper()
	keep(t, name, list, impl.Star{Name: "spare", Ascend: spare}, f)
}

func TestConstantsOfStars(t *testing.T) {
	same(t, "constants", "86399 324000 60", impl.MaxAscension, impl.MaxDeclination, impl.MaxStars)
}

func TestValidStars(t *testing.T) {
	for _, list := range goodCatalogues() {
		keepStars(t, "ValidStars", list, func(list []impl.Star) {
			same(t, fmt.Sprint("ValidStars ", list), "true", twice(t, "ValidStars", func() []any { return []any{impl.ValidStars(list)} })...)
		})
	}
	for _, list := range badCatalogues() {
		keepStars(t, "ValidStars", list, func(list []impl.Star) {
			same(t, fmt.Sprint("ValidStars ", list), "false", twice(t, "ValidStars", func() []any { return []any{impl.ValidStars(list)} })...)
		})
	}
}

// TestStarsAtTheirLimits holds each field at and beside its limits against what the document says of a star.
func TestStarsAtTheirLimits(t *testing.T) {
	check := func(x impl.Star) {
		t.Helper()
		want := impl.IsName(x.Name) && isAscension(x.Ascend) && isDecl(x.Decl) && isMag(x.Bright) && isMag(x.Faint) && x.Bright <= x.Faint
		_, added := impl.AddStar(nil, x)
		_, boxed := impl.BoxAround(x, 1)
		if impl.ValidStars([]impl.Star{x}) != want || (added == impl.OK) != want || (boxed == impl.OK) != want || (impl.PositionText(x) != "") != want {
			t.Errorf("%v: ValidStars %v, AddStar %d, BoxAround %d, PositionText %q", x, !want, added, boxed, impl.PositionText(x))
		}
		if !want && (added != impl.ErrRange || boxed != impl.ErrRange) {
			t.Errorf("%v: AddStar %d, BoxAround %d", x, added, boxed)
		}
	}
	for _, n := range edgeAscensions {
		check(impl.Star{Name: "a", Ascend: n})
	}
	for _, n := range edgeDecls {
		check(impl.Star{Name: "a", Decl: n})
	}
	for _, bright := range edgeMags {
		for _, faint := range edgeMags {
			check(impl.Star{Name: "a", Bright: bright, Faint: faint})
		}
	}
	for _, name := range append(slices.Clone(oddTexts), "a", "z9-", "abcdefghijkl", "abcdefghijklm", "A") {
		check(impl.Star{Name: name})
	}
	for _, x := range badStars() {
		check(x)
	}
}

func TestSameStars(t *testing.T) {
	lists := append(goodCatalogues(), badCatalogues()...)
	for i, a := range lists {
		for k, b := range lists {
			want := len(a) == 0 && len(b) == 0 || reflect.DeepEqual(a, b)
			if got := impl.SameStars(a, b); got != want {
				t.Fatalf("SameStars of lists %d and %d: got %v", i, k, got)
			}
		}
	}
	same(t, "without stars", "true true true true", impl.SameStars(nil, nil), impl.SameStars(nil, []impl.Star{}),
		impl.SameStars([]impl.Star{}, nil), impl.SameStars([]impl.Star{}, []impl.Star{}))
}

func TestSameStarsOfEachField(t *testing.T) {
	for _, list := range [][]impl.Star{edges(), full(), badCatalogues()[0], make([]impl.Star, 100)} {
		for i := range list {
			for field, f := range []func(x *impl.Star){
				func(x *impl.Star) { x.Name += "x" }, func(x *impl.Star) { x.Ascend++ }, func(x *impl.Star) { x.Decl-- },
				func(x *impl.Star) { x.Bright-- }, func(x *impl.Star) { x.Faint++ }, func(*impl.Star) {},
			} {
				other := slices.Clone(list)
				f(&other[i])
				keepStars(t, "SameStars", other, func(other []impl.Star) {
					if there, back := impl.SameStars(list, other), impl.SameStars(other, list); there != (field == 5) || back != there {
						t.Fatalf("SameStars with field %d of star %d changed: got %v and %v", field, i, there, back)
					}
				})
			}
		}
	}
}

func TestAddStar(t *testing.T) {
	star := func(name string) impl.Star { return impl.Star{Name: name, Ascend: 1, Decl: 2, Bright: 3, Faint: 4} }
	for _, x := range []struct {
		names []string
		name  string
		want  string
	}{
		{nil, "m", "[m] 0"},
		{[]string{"b"}, "a", "[a b] 0"},
		{[]string{"b"}, "c", "[b c] 0"},
		{[]string{"b"}, "b", "[] 4"},
		{[]string{"b", "d", "f"}, "a", "[a b d f] 0"},
		{[]string{"b", "d", "f"}, "c", "[b c d f] 0"},
		{[]string{"b", "d", "f"}, "e", "[b d e f] 0"},
		{[]string{"b", "d", "f"}, "g", "[b d f g] 0"},
		{[]string{"b", "d", "f"}, "b", "[] 4"},
		{[]string{"b", "d", "f"}, "d", "[] 4"},
		{[]string{"b", "d", "f"}, "f", "[] 4"},
		{[]string{"a-", "a0", "aa"}, "a", "[a a- a0 aa] 0"},
		{[]string{"a", "a0", "aa"}, "a-", "[a a- a0 aa] 0"},
		{[]string{"a10", "a2"}, "a1", "[a1 a10 a2] 0"},
		{[]string{"a1", "a2"}, "a10", "[a1 a10 a2] 0"},
		{[]string{"b", "d"}, "c c", "[] 2"},
		{[]string{"b", "d"}, "", "[] 2"},
		{[]string{"d", "b"}, "c", "[] 1"},
		{[]string{"d", "b"}, "b", "[] 1"},
		{[]string{"d", "b"}, "", "[] 1"},
		{[]string{"b", "b"}, "b", "[] 1"},
	} {
		list := []impl.Star{}
		for _, name := range x.names {
			list = append(list, star(name))
		}
		more, code := impl.AddStar(list, star(x.name))
		names := []string{}
		for _, y := range more {
			names = append(names, y.Name)
			if y != star(y.Name) {
				t.Errorf("AddStar(%v, %q): changed to %v", x.names, x.name, y)
			}
		}
		same(t, fmt.Sprint("AddStar ", x.names, x.name), x.want, names, code)
	}
}

func TestAddStarForAllCatalogues(t *testing.T) {
	for _, list := range goodCatalogues() {
		for _, name := range []string{"a", "a-", "a00", "a000", "a005", "a01", "a30", "a58", "a59", "a59-", "aa", "b", "mira", "mirb", "zz", "zzz"} {
			x := impl.Star{Name: name, Ascend: 86399, Decl: -324000, Bright: -2000, Faint: 20000}
			want, wantCode := addedWanted(list, x, 60, func(x impl.Star) string { return x.Name })
			keepStars(t, "AddStar", list, func(list []impl.Star) {
				got, code := impl.AddStar(list, x)
				again, codeAgain := impl.AddStar(list, x)
				same(t, fmt.Sprint("AddStar ", list, x), fmt.Sprint(want, wantCode, want, wantCode), got, code, again, codeAgain)
				if code == impl.OK && (!impl.ValidStars(got) || len(got) != len(list)+1) {
					t.Errorf("AddStar(%v, %v): got %v", list, x, got)
				}
				// The result shares memory neither with the argument nor with the other result.
				clear(got)
				same(t, "the other result", fmt.Sprint(want), again)
			})
		}
		for _, x := range badStars() {
			keepStars(t, "AddStar", list, func(list []impl.Star) {
				more, code := impl.AddStar(list, x)
				same(t, fmt.Sprint("AddStar ", list, x), "[] 2", more, code)
			})
		}
	}
	for _, list := range badCatalogues() {
		for _, x := range []impl.Star{mira, {}, {Name: "zzz"}, {Name: "a"}, {Name: "mira", Ascend: -1}} {
			keepStars(t, "AddStar", list, func(list []impl.Star) {
				more, code := impl.AddStar(list, x)
				same(t, fmt.Sprint("AddStar ", list, x), "[] 1", more, code)
			})
		}
	}
}

func TestAddStarUntilFull(t *testing.T) {
	var list []impl.Star
	for i := range int64(60) {
		x := impl.Star{Name: fmt.Sprintf("s%02d", i*37%60), Ascend: i, Faint: i}
		more, code := impl.AddStar(list, x)
		k, codeNamed := impl.StarNamed(more, x.Name)
		if code != impl.OK || codeNamed != impl.OK || more[k] != x || !impl.ValidStars(more) {
			t.Fatalf("AddStar of star %d: got %v %d, at %d %d", i, more, code, k, codeNamed)
		}
		list = more
	}
	_, one := impl.AddStar(list, impl.Star{Name: "t"})
	_, two := impl.AddStar(list, impl.Star{Name: "s00"})
	_, three := impl.AddStar(list, impl.Star{Name: "s00", Ascend: -1})
	_, four := impl.AddStar(list, impl.Star{Name: "T"})
	_, five := impl.AddStar(append(list, impl.Star{Name: "t"}), impl.Star{Name: "s00", Ascend: -1})
	same(t, "full", "60 5 4 2 2 1", len(list), one, two, three, four, five)
}

func TestStarNamed(t *testing.T) {
	for _, list := range goodCatalogues() {
		names := append(slices.Clone(oddTexts), "a", "a-", "a0", "a00", "a01", "a58", "a59", "a60", "aa", "b", "mir", "mira", "mirab", "Mira", "MIRA", "zz", "zzz", strings.Repeat("a", 5000))
		for _, x := range list {
			names = append(names, x.Name, x.Name+" ", x.Name[:len(x.Name)-1])
		}
		for _, name := range names {
			want := fmt.Sprint(0, impl.ErrNotFound)
			for i, x := range list {
				if x.Name == name {
					want = fmt.Sprint(i, impl.OK)
				}
			}
			keepStars(t, "StarNamed", list, func(list []impl.Star) {
				same(t, fmt.Sprintf("StarNamed %v %q", list, name), want, twice(t, "StarNamed", func() []any {
					k, code := impl.StarNamed(list, name)
					return []any{k, code}
				})...)
			})
		}
	}
	for _, list := range badCatalogues() {
		for _, name := range []string{"mira", "a", "a01", "", "No Name"} {
			k, code := impl.StarNamed(list, name)
			same(t, fmt.Sprintf("StarNamed %v %q", list, name), "0 1", k, code)
		}
	}
}

// ascensionsOf walks from one right ascension upwards to the other one.
func ascensionsOf(b impl.Box) []bool {
	in := make([]bool, circle)
	for a := b.FromAscend; ; a++ {
		if a == circle {
			a = 0
		}
		in[a] = true
		if a == b.ToAscend {
			return in
		}
	}
}

func TestInBox(t *testing.T) {
	const pole = 324000
	for _, x := range []struct {
		box  impl.Box
		want string
	}{
		{impl.Box{FromAscend: 0, ToAscend: 86399, FromDecl: -pole, ToDecl: pole}, "[0 1 2 3 4 5 6 7] 0"},
		{impl.Box{FromAscend: 1, ToAscend: 0, FromDecl: -pole, ToDecl: pole}, "[0 1 2 3 4 5 6 7] 0"},
		{impl.Box{FromAscend: 43200, ToAscend: 43199, FromDecl: -pole, ToDecl: pole}, "[0 1 2 3 4 5 6 7] 0"},
		{impl.Box{FromAscend: 86399, ToAscend: 86398, FromDecl: -pole, ToDecl: pole}, "[0 1 2 3 4 5 6 7] 0"},
		{impl.Box{FromAscend: 86399, ToAscend: 0, FromDecl: -pole, ToDecl: pole}, "[0 1] 0"},
		{impl.Box{FromAscend: 86398, ToAscend: 1, FromDecl: -pole, ToDecl: pole}, "[0 1 4 5] 0"},
		{impl.Box{FromAscend: 86398, ToAscend: 1, FromDecl: 1, ToDecl: 323999}, "[4 5] 0"},
		{impl.Box{FromAscend: 0, ToAscend: 0, FromDecl: -pole, ToDecl: pole}, "[0] 0"},
		{impl.Box{FromAscend: 86399, ToAscend: 86399, FromDecl: -pole, ToDecl: pole}, "[1] 0"},
		{impl.Box{FromAscend: 0, ToAscend: 1, FromDecl: -pole, ToDecl: pole}, "[0 4] 0"},
		{impl.Box{FromAscend: 1, ToAscend: 43199, FromDecl: -pole, ToDecl: pole}, "[3 4 6] 0"},
		{impl.Box{FromAscend: 43200, ToAscend: 0, FromDecl: -pole, ToDecl: pole}, "[0 1 2 5 7] 0"},
		{impl.Box{FromAscend: 43201, ToAscend: 43199, FromDecl: -pole, ToDecl: pole}, "[0 1 3 4 5 6 7] 0"},
		{impl.Box{FromAscend: 0, ToAscend: 86399, FromDecl: -pole, ToDecl: -pole}, "[0] 0"},
		{impl.Box{FromAscend: 0, ToAscend: 86399, FromDecl: pole, ToDecl: pole}, "[1] 0"},
		{impl.Box{FromAscend: 0, ToAscend: 86399, FromDecl: -pole, ToDecl: -323999}, "[0 7] 0"},
		{impl.Box{FromAscend: 0, ToAscend: 86399, FromDecl: 323999, ToDecl: pole}, "[1 5] 0"},
		{impl.Box{FromAscend: 0, ToAscend: 86399, FromDecl: -1, ToDecl: 1}, "[2 3 4] 0"},
		{impl.Box{FromAscend: 0, ToAscend: 86399, FromDecl: 0, ToDecl: 0}, "[2] 0"},
		{impl.Box{FromAscend: 2, ToAscend: 8359, FromDecl: -pole, ToDecl: pole}, "[] 0"},
		{impl.Box{}, "[] 0"},
		{impl.Box{FromAscend: 0, ToAscend: 86399, FromDecl: 1, ToDecl: 0}, "[] 1"},
		{impl.Box{FromAscend: -1, ToAscend: 0}, "[] 1"},
		{impl.Box{FromAscend: 86400, ToAscend: 0}, "[] 1"},
		{impl.Box{FromAscend: 0, ToAscend: -1}, "[] 1"},
		{impl.Box{FromAscend: 0, ToAscend: 86400}, "[] 1"},
		{impl.Box{FromDecl: -324001}, "[] 1"},
		{impl.Box{ToDecl: 324001}, "[] 1"},
		{impl.Box{FromDecl: 324001, ToDecl: 324001}, "[] 1"},
		{impl.Box{FromDecl: -324001, ToDecl: -324001}, "[] 1"},
	} {
		in, code := impl.InBox(edges(), x.box)
		same(t, fmt.Sprint("InBox ", x.box), x.want, in, code)
	}
}

func isBox(b impl.Box) bool {
	return isAscension(b.FromAscend) && isAscension(b.ToAscend) && isDecl(b.FromDecl) && isDecl(b.ToDecl) && b.FromDecl <= b.ToDecl
}

// checkInBox holds InBox for some catalogues against the walk along the right ascensions of a box.
func checkInBox(t *testing.T, b impl.Box, lists [][]impl.Star) {
	t.Helper()
	valid := isBox(b)
	ascensions := []bool(nil)
	if valid {
		ascensions = ascensionsOf(b)
	}
	for _, list := range lists {
		want, wantCode := []int64(nil), int64(impl.ErrInvalid)
		if valid {
			wantCode = impl.OK
			for i, x := range list {
				if ascensions[x.Ascend] && between(x.Decl, b.FromDecl, b.ToDecl) {
					want = append(want, int64(i))
				}
			}
		}
		keepStars(t, "InBox", list, func(list []impl.Star) {
			same(t, fmt.Sprint("InBox ", list, b), fmt.Sprint(want, wantCode), twice(t, "InBox", func() []any {
				in, code := impl.InBox(list, b)
				return []any{in, code}
			})...)
		})
	}
}

func TestInBoxForAllArguments(t *testing.T) {
	lists := goodCatalogues()
	for _, from := range edgeAscensions {
		for _, to := range edgeAscensions {
			checkInBox(t, impl.Box{FromAscend: from, ToAscend: to, FromDecl: -324000, ToDecl: 324000}, lists[3:])
		}
	}
	for _, from := range edgeDecls {
		for _, to := range edgeDecls {
			checkInBox(t, impl.Box{FromAscend: 80000, ToAscend: 50000, FromDecl: from, ToDecl: to}, lists)
		}
	}
	for i, x := range full() {
		y := full()[(i+1)%60]
		checkInBox(t, impl.Box{FromAscend: x.Ascend, ToAscend: y.Ascend, FromDecl: min(x.Decl, y.Decl), ToDecl: max(x.Decl, y.Decl)}, lists)
		checkInBox(t, impl.Box{FromAscend: x.Ascend, ToAscend: x.Ascend, FromDecl: x.Decl, ToDecl: x.Decl}, lists)
	}
	for _, list := range badCatalogues() {
		for _, b := range []impl.Box{{ToAscend: 86399, FromDecl: -324000, ToDecl: 324000}, {}, {FromDecl: 1}, {FromAscend: -1}} {
			in, code := impl.InBox(list, b)
			same(t, fmt.Sprint("InBox ", list, b), "[] 1", in, code)
		}
	}
}

func TestIndicesAreNewSlices(t *testing.T) {
	list := full()
	calls := []func() ([]int64, int64){
		func() ([]int64, int64) {
			return impl.InBox(list, impl.Box{ToAscend: 86399, FromDecl: -324000, ToDecl: 324000})
		},
		func() ([]int64, int64) { return impl.ByAmplitude(list) },
		func() ([]int64, int64) { return impl.VisibleAt(list, 3000) },
	}
	for i, call := range calls {
		first, _ := call()
		want := fmt.Sprint(first)
		clear(first)
		second, _ := call()
		same(t, fmt.Sprint("call ", i), want, second)
	}
}

func TestBoxAround(t *testing.T) {
	for _, x := range []struct {
		ascend, decl, width int64
		want                string
	}{
		{8360, -10723, 100, "{8260 8460 -12223 -9223} 0"},
		{8360, -10723, 0, "{8360 8360 -10723 -10723} 0"},
		{8360, -10723, 1, "{8359 8361 -10738 -10708} 0"},
		{0, 0, 0, "{0 0 0 0} 0"},
		{0, 0, 1, "{86399 1 -15 15} 0"},
		{86399, 0, 1, "{86398 0 -15 15} 0"},
		{86399, 0, 0, "{86399 86399 0 0} 0"},
		{5, 0, 5, "{0 10 -75 75} 0"},
		{5, 0, 6, "{86399 11 -90 90} 0"},
		{86390, 0, 9, "{86381 86399 -135 135} 0"},
		{86390, 0, 10, "{86380 0 -150 150} 0"},
		{43200, 0, 40000, "{3200 83200 -324000 324000} 0"},
		{0, 0, 40000, "{46400 40000 -324000 324000} 0"},
		{86399, 324000, 40000, "{46399 39999 -276000 324000} 0"},
		{0, -324000, 40000, "{46400 40000 -324000 276000} 0"},
		{40000, 0, 21600, "{18400 61600 -324000 324000} 0"},
		{40000, 1, 21600, "{18400 61600 -323999 324000} 0"},
		{40000, -1, 21600, "{18400 61600 -324000 323999} 0"},
		{40000, 0, 21599, "{18401 61599 -323985 323985} 0"},
		{0, 324000, 0, "{0 0 324000 324000} 0"},
		{0, -324000, 0, "{0 0 -324000 -324000} 0"},
		{0, 324000, 1, "{86399 1 323985 324000} 0"},
		{0, -324000, 1, "{86399 1 -324000 -323985} 0"},
		{0, 323985, 1, "{86399 1 323970 324000} 0"},
		{0, 323984, 1, "{86399 1 323969 323999} 0"},
		{0, 0, -1, "{0 0 0 0} 2"},
		{0, 0, 40001, "{0 0 0 0} 2"},
		{0, 0, 43200, "{0 0 0 0} 2"},
		{-1, 0, 0, "{0 0 0 0} 2"},
		{86400, 0, 0, "{0 0 0 0} 2"},
		{0, 324001, 0, "{0 0 0 0} 2"},
		{0, -324001, 0, "{0 0 0 0} 2"},
		{-1, 324001, -1, "{0 0 0 0} 2"},
	} {
		b, code := impl.BoxAround(impl.Star{Name: "a", Ascend: x.ascend, Decl: x.decl}, x.width)
		same(t, fmt.Sprint("BoxAround", x), x.want, b, code)
	}
}

func TestBoxAroundOfOtherArguments(t *testing.T) {
	for _, x := range append(badStars(), mira) {
		for _, width := range edgeWidths {
			want := fmt.Sprint(impl.Box{}, impl.ErrRange)
			if x == mira && between(width, 0, 40000) {
				continue
			}
			same(t, fmt.Sprint("BoxAround ", x, width), want, twice(t, "BoxAround", func() []any {
				b, code := impl.BoxAround(x, width)
				return []any{b, code}
			})...)
		}
	}
}

// apartWanted returns how far all right ascensions are apart from one, by walking both ways from it.
func apartWanted(from int64) []int64 {
	apart := make([]int64, circle)
	for d := int64(0); d <= circle/2; d++ {
		apart[(from+d)%circle] = d
		apart[(from-d+circle)%circle] = d
	}
	return apart
}

// TestBoxAroundHasTheNearPositions is the first half of promise 4: the right ascensions and the
// declinations of the box are just those that are near enough, that of the star among them.
func TestBoxAroundHasTheNearPositions(t *testing.T) {
	for _, ascend := range edgeAscensions {
		for _, decl := range edgeDecls {
			if !isAscension(ascend) || !isDecl(decl) {
				continue
			}
			for _, width := range edgeWidths {
				if !between(width, 0, 40000) {
					continue
				}
				x := impl.Star{Name: "a", Ascend: ascend, Decl: decl}
				b, code := impl.BoxAround(x, width)
				in, codeIn := impl.InBox([]impl.Star{x}, b)
				if code != impl.OK || codeIn != impl.OK || len(in) != 1 || !isBox(b) {
					t.Fatalf("BoxAround(%v, %d): got %v %d, in it %v %d", x, width, b, code, in, codeIn)
				}
				checkDeclsAround(t, b, decl, width)
			}
		}
		if isAscension(ascend) {
			checkAscensionsAround(t, ascend)
		}
	}
}

// checkDeclsAround checks that the declinations of a box are near enough, and the next ones are not.
func checkDeclsAround(t *testing.T, b impl.Box, decl, width int64) {
	t.Helper()
	near := func(n int64) bool { return isDecl(n) && max(n-decl, decl-n) <= 15*width }
	if !near(b.FromDecl) || near(b.FromDecl-1) || !near(b.ToDecl) || near(b.ToDecl+1) {
		t.Fatalf("box around %d with width %d: %v", decl, width, b)
	}
}

func checkAscensionsAround(t *testing.T, ascend int64) {
	t.Helper()
	apart := apartWanted(ascend)
	for _, width := range []int64{0, 1, 2, 5, 9, 10, 100, 21600, 39999, 40000} {
		b, _ := impl.BoxAround(impl.Star{Name: "a", Ascend: ascend}, width)
		for a, in := range ascensionsOf(b) {
			if in != (apart[a] <= width) {
				t.Fatalf("box around %d with width %d: %v for %d", ascend, width, in, a)
			}
		}
		for a := range int64(circle) {
			if a%97 > 2 && max(apart[a]-width, width-apart[a]) > 2 {
				continue
			}
			y := impl.Star{Name: "b", Ascend: a}
			if in, code := impl.InBox([]impl.Star{y}, b); code != impl.OK || (len(in) == 1) != (apart[a] <= width) {
				t.Fatalf("InBox of %d around %d with width %d: got %v %d", a, ascend, width, in, code)
			}
		}
	}
}

func TestAscensionApart(t *testing.T) {
	for _, x := range []struct {
		a, b int64
		want string
	}{
		{86390, 5, "15 0"}, {5, 86390, "15 0"}, {0, 0, "0 0"}, {86399, 86399, "0 0"}, {0, 86399, "1 0"}, {86399, 0, "1 0"},
		{0, 1, "1 0"}, {1, 0, "1 0"}, {0, 43199, "43199 0"}, {0, 43200, "43200 0"}, {0, 43201, "43199 0"}, {43200, 0, "43200 0"},
		{43201, 0, "43199 0"}, {43199, 86399, "43200 0"}, {43198, 86399, "43199 0"}, {86399, 43199, "43200 0"}, {100, 43300, "43200 0"},
		{100, 43301, "43199 0"}, {-1, 0, "0 2"}, {0, -1, "0 2"}, {86400, 0, "0 2"}, {0, 86400, "0 2"}, {86400, 86400, "0 2"}, {-1, -1, "0 2"},
	} {
		apart, code := impl.AscensionApart(x.a, x.b)
		same(t, fmt.Sprint("AscensionApart", x), x.want, apart, code)
	}
}

func TestAscensionApartForAllArguments(t *testing.T) {
	for _, a := range edgeAscensions {
		for _, b := range edgeAscensions {
			if isAscension(a) && isAscension(b) {
				continue
			}
			same(t, fmt.Sprint("AscensionApart ", a, b), "0 2", twice(t, "AscensionApart", func() []any {
				apart, code := impl.AscensionApart(a, b)
				return []any{apart, code}
			})...)
		}
		if !isAscension(a) {
			continue
		}
		for b, want := range apartWanted(a) {
			there, one := impl.AscensionApart(a, int64(b))
			back, two := impl.AscensionApart(int64(b), a)
			if there != want || back != want || one != impl.OK || two != impl.OK {
				t.Fatalf("AscensionApart(%d, %d): got %d %d, and back %d %d, want %d", a, b, there, one, back, two, want)
			}
		}
	}
}

func TestByAmplitude(t *testing.T) {
	for _, x := range []struct {
		ranges [][2]int64
		want   string
	}{
		{nil, "[] 0"},
		{[][2]int64{{5, 5}}, "[0] 0"},
		{[][2]int64{{2000, 10100}, {7100, 8100}}, "[0 1] 0"},
		{[][2]int64{{7100, 8100}, {2000, 10100}}, "[1 0] 0"},
		{[][2]int64{{1, 2}, {5, 6}, {3, 4}}, "[0 1 2] 0"},
		{[][2]int64{{1, 1}, {1, 2}, {1, 3}}, "[2 1 0] 0"},
		{[][2]int64{{1, 2}, {1, 4}, {2, 3}, {2, 5}, {0, 9}, {0, 0}, {7, 8}}, "[4 1 3 0 2 6 5] 0"},
		{[][2]int64{{20000, 20000}, {-2000, 20000}, {-2000, -2000}, {-1, 1}, {-2000, -1998}}, "[1 3 4 0 2] 0"},
	} {
		list := []impl.Star{}
		for i, r := range x.ranges {
			list = append(list, impl.Star{Name: fmt.Sprint("a", i), Bright: r[0], Faint: r[1]})
		}
		order, code := impl.ByAmplitude(list)
		same(t, fmt.Sprint("ByAmplitude ", x.ranges), x.want, order, code)
	}
}

// TestStarsAreOrderedByTheirRanges is the second half of promise 4.
func TestStarsAreOrderedByTheirRanges(t *testing.T) {
	lists := goodCatalogues()
	equal, falling := full(), full()
	for i := range equal {
		equal[i].Bright, equal[i].Faint = int64(i), int64(i)+700
		falling[i].Bright, falling[i].Faint = 0, int64(60-i)
	}
	for _, list := range append(lists, equal, falling) {
		want := make([]int64, len(list))
		for i := range want {
			want[i] = int64(i)
		}
		slices.SortStableFunc(want, func(i, k int64) int {
			return int(list[k].Faint - list[k].Bright - (list[i].Faint - list[i].Bright))
		})
		keepStars(t, "ByAmplitude", list, func(list []impl.Star) {
			same(t, fmt.Sprint("ByAmplitude ", list), fmt.Sprint(want, 0), twice(t, "ByAmplitude", func() []any {
				order, code := impl.ByAmplitude(list)
				return []any{order, code}
			})...)
		})
	}
	for _, list := range badCatalogues() {
		order, code := impl.ByAmplitude(list)
		same(t, fmt.Sprint("ByAmplitude ", list), "[] 1", order, code)
	}
}

func TestVisibleAt(t *testing.T) {
	for m, want := range map[int64]string{
		-2000: "[0 1] 0", -1999: "[1] 0", -2: "[1] 0", -1: "[1 4] 0", 0: "[1 3 4] 0", 1: "[1] 0", 499: "[1] 0", 500: "[1 5] 0",
		501: "[1 5] 0", 502: "[1] 0", 1999: "[1] 0", 2000: "[1 6] 0", 7699: "[1 6] 0", 7700: "[1 6 7] 0", 10100: "[1 6 7] 0",
		10101: "[1 7] 0", 12400: "[1 7] 0", 12401: "[1] 0", 19999: "[1] 0", 20000: "[1 2] 0", 20001: "[] 2", -2001: "[] 2",
	} {
		seen, code := impl.VisibleAt(edges(), m)
		same(t, fmt.Sprint("VisibleAt ", m), want, seen, code)
	}
}

func TestVisibleAtForAllArguments(t *testing.T) {
	for _, list := range goodCatalogues() {
		mags := append(slices.Clone(middleMags), edgeMags...)
		for _, x := range list {
			mags = append(mags, x.Bright-1, x.Bright, x.Bright+1, x.Faint-1, x.Faint, x.Faint+1)
		}
		for _, m := range mags {
			want, wantCode := []int64(nil), int64(impl.ErrRange)
			if isMag(m) {
				wantCode = impl.OK
				for i, x := range list {
					if x.Bright <= m && m <= x.Faint {
						want = append(want, int64(i))
					}
				}
			}
			keepStars(t, "VisibleAt", list, func(list []impl.Star) {
				same(t, fmt.Sprint("VisibleAt ", list, m), fmt.Sprint(want, wantCode), twice(t, "VisibleAt", func() []any {
					seen, code := impl.VisibleAt(list, m)
					return []any{seen, code}
				})...)
			})
		}
	}
	for _, list := range badCatalogues() {
		for _, m := range []int64{3000, -2001, 20001} {
			seen, code := impl.VisibleAt(list, m)
			same(t, fmt.Sprint("VisibleAt ", list, m), "[] 1", seen, code)
		}
	}
}

func TestPositionText(t *testing.T) {
	for _, x := range []struct {
		ascend, decl int64
		want         string
	}{
		{8360, -10723, "02:19:20 -02:58:43"}, {0, 0, "00:00:00 +00:00:00"}, {0, -1, "00:00:00 -00:00:01"}, {0, 1, "00:00:00 +00:00:01"},
		{0, -59, "00:00:00 -00:00:59"}, {0, -60, "00:00:00 -00:01:00"}, {0, -61, "00:00:00 -00:01:01"}, {0, -3599, "00:00:00 -00:59:59"},
		{0, -3600, "00:00:00 -01:00:00"}, {0, -3601, "00:00:00 -01:00:01"}, {0, 3599, "00:00:00 +00:59:59"}, {0, 3600, "00:00:00 +01:00:00"},
		{59, 324000, "00:00:59 +90:00:00"}, {60, -324000, "00:01:00 -90:00:00"}, {3599, 323999, "00:59:59 +89:59:59"}, {3600, -323999, "01:00:00 -89:59:59"},
		{36000, 36000, "10:00:00 +10:00:00"}, {86399, 0, "23:59:59 +00:00:00"}, {43200, 0, "12:00:00 +00:00:00"}, {69900, 154200, "19:25:00 +42:50:00"},
		{86400, 0, ""}, {-1, 0, ""}, {0, 324001, ""}, {0, -324001, ""},
	} {
		if got := impl.PositionText(impl.Star{Name: "a", Ascend: x.ascend, Decl: x.decl}); got != x.want {
			t.Errorf("PositionText of %d and %d: got %q, want %q", x.ascend, x.decl, got, x.want)
		}
	}
	for _, x := range badStars() {
		if got := impl.PositionText(x); got != "" {
			t.Errorf("PositionText(%v): got %q", x, got)
		}
	}
}

func positionWanted(ascend, decl int64) string {
	sign, size := "+", decl
	if decl < 0 {
		sign, size = "-", -decl
	}
	return fmt.Sprintf("%02d:%02d:%02d %s%02d:%02d:%02d", ascend/3600, ascend%3600/60, ascend%60, sign, size/3600, size%3600/60, size%60)
}

func TestPositionTextOfManyPositions(t *testing.T) {
	x := mira
	for x.Ascend = 0; x.Ascend < circle; x.Ascend++ {
		if got := impl.PositionText(x); got != positionWanted(x.Ascend, x.Decl) {
			t.Fatalf("PositionText(%v): got %q", x, got)
		}
	}
	x = mira
	for x.Decl = -324000; x.Decl <= 324000; x.Decl++ {
		if x.Decl%41 != 0 && !between(x.Decl, -8000, 8000) {
			continue
		}
		if got := impl.PositionText(x); got != positionWanted(x.Ascend, x.Decl) {
			t.Fatalf("PositionText(%v): got %q", x, got)
		}
	}
}

// TestStarsForAllArguments is promise 1 for chapter 4: each call returns, and returns the same again.
func TestStarsForAllArguments(t *testing.T) {
	lists := append(goodCatalogues(), badCatalogues()[:40]...)
	stars := append(badStars(), mira)
	for _, list := range lists {
		for _, x := range stars {
			keepStars(t, "catalogues", list, func(list []impl.Star) {
				twice(t, "catalogues", func() []any {
					more, one := impl.AddStar(list, x)
					place, two := impl.StarNamed(list, x.Name)
					in, three := impl.InBox(list, impl.Box{FromAscend: x.Ascend, ToAscend: x.Decl, FromDecl: x.Bright, ToDecl: x.Faint})
					order, four := impl.ByAmplitude(list)
					seen, five := impl.VisibleAt(list, x.Bright)
					return []any{impl.ValidStars(list), impl.SameStars(list, more), more, one, place, two, in, three, order, four, seen, five}
				})
			})
		}
	}
	for _, x := range stars {
		for _, n := range edgeWidths {
			twice(t, "stars", func() []any {
				b, one := impl.BoxAround(x, n)
				apart, two := impl.AscensionApart(x.Ascend, n)
				return []any{b, one, apart, two, impl.PositionText(x)}
			})
		}
	}
}
