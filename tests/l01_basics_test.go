package tests

import (
	"math"
	"math/big"
	"slices"
	"strings"
	"testing"

	"loop.example/g01026/impl"
)

func TestCodes(t *testing.T) {
	codes := []int64{
		impl.OK, impl.ErrInvalid, impl.ErrRange, impl.ErrNotFound, impl.ErrExists, impl.ErrFull,
		impl.ErrState, impl.ErrSyntax, impl.ErrFormat, impl.ErrClash, impl.ErrCloudy,
	}
	names := []string{
		"ok", "invalid", "range", "not-found", "exists", "full",
		"state", "syntax", "format", "clash", "cloudy",
	}
	for i, code := range codes {
		if code != int64(i) {
			t.Errorf("code %d is %d", i, code)
		}
		if got := impl.CodeName(int64(i)); got != names[i] {
			t.Errorf("CodeName(%d): got %q, want %q", i, got, names[i])
		}
	}
	if impl.MaxName != 12 {
		t.Errorf("MaxName: got %d", impl.MaxName)
	}
}

func TestCodeNameOfOtherNumbers(t *testing.T) {
	for _, code := range numbers(-1, -2, -10, 11, 12, 255, 256, 1000) {
		if got := impl.CodeName(code); got != "" {
			t.Errorf("CodeName(%d): got %q", code, got)
		}
	}
}

func TestIsName(t *testing.T) {
	for _, s := range []string{
		"a", "z", "m", "star-3", "ab", "mira", "a0", "z9", "a-", "a--b", "a-9",
		"abcdefghijkl", "a12345678901", "a-----------",
	} {
		if !impl.IsName(s) {
			t.Errorf("IsName(%q): got false", s)
		}
	}
	for _, s := range []string{
		"abcdefghijklm", strings.Repeat("a", 1000), "0", "9a", "-", "-a", "A", "Z", "aB", "mirA",
		"a b", " a", "a ", "a_b", "a.b", "a/", "a:", "a`", "a{", "`", "{", "@", "a,", "a+",
		"ä", "aé", "a\u0301", "ａ", "a−b", "a\x00", "\x00a", "a\x7f", "a\x80", "a\xe1", "abcdefghijk\xff",
	} {
		if impl.IsName(s) {
			t.Errorf("IsName(%q): got true", s)
		}
	}
	for _, s := range oddTexts {
		if impl.IsName(s) {
			t.Errorf("IsName(%q): got true", s)
		}
	}
}

func TestIsNameOfEachByte(t *testing.T) {
	const letters = "abcdefghijklmnopqrstuvwxyz"
	for i := range 256 {
		c := string([]byte{byte(i)})
		first := strings.Contains(letters, c)
		behind := strings.Contains(letters+"0123456789-", c)
		for s, want := range map[string]bool{c: first, "a" + c: behind, c + "a": first, "a" + c + "b": behind} {
			if got := impl.IsName(s); got != want {
				t.Errorf("IsName(%q): got %v", s, got)
			}
		}
	}
}

func TestDecimal(t *testing.T) {
	for s, n := range map[string]int64{
		"0": 0, "1": 1, "-1": -1, "9": 9, "10": 10, "-10": -10, "1000": 1000, "-907": -907,
		"999999999999999999":   999999999999999999,
		"1000000000000000000":  1000000000000000000,
		"-1000000000000000000": -1000000000000000000,
		"9223372036854775807":  math.MaxInt64,
		"-9223372036854775807": math.MinInt64 + 1,
		"-9223372036854775808": math.MinInt64,
	} {
		if got := impl.Decimal(n); got != s {
			t.Errorf("Decimal(%d): got %q, want %q", n, got, s)
		}
	}
	for _, n := range extremes {
		if got, want := impl.Decimal(n), big.NewInt(n).String(); got != want {
			t.Errorf("Decimal(%d): got %q", n, got)
		}
	}
}

func TestReadDecimalGivesBackDecimal(t *testing.T) {
	const greatest = 999999999999999999
	list := []int64{0, greatest, -greatest, greatest - 1, 1 - greatest}
	for n := int64(1); n < greatest/10; n *= 10 {
		list = append(list, n, -n, n-1, 1-n, n+1, 7*n, -7*n)
	}
	for _, n := range list {
		if got, ok := impl.ReadDecimal(impl.Decimal(n)); got != n || !ok {
			t.Errorf("ReadDecimal(%q): got %d %v", impl.Decimal(n), got, ok)
		}
	}
	for _, n := range []int64{greatest + 1, -greatest - 1, math.MaxInt64, math.MinInt64} {
		if got, ok := impl.ReadDecimal(impl.Decimal(n)); got != 0 || ok {
			t.Errorf("ReadDecimal(%q): got %d %v", impl.Decimal(n), got, ok)
		}
	}
}

func TestReadDecimalOfNearlyRightTexts(t *testing.T) {
	list := append(slices.Clone(oddTexts),
		"00", "01", "007", "-0", "-00", "-01", "+1", "+0", "1 ", " 1", "1\n", "\t1", "- 1", "1-", "1-1",
		"1.", "1.0", ".1", "1a", "a1", "--1", "-+1", "1,000", "0b1", "0o7", "0x1f",
		"9223372036854775808", "-9223372036854775809", "18446744073709551616", "18446744073709551617",
		"000000000000000001", strings.Repeat("0", 19), strings.Repeat("9", 19), strings.Repeat("1", 5000))
	for _, s := range list {
		if got, ok := impl.ReadDecimal(s); got != 0 || ok {
			t.Errorf("ReadDecimal(%q): got %d %v", s, got, ok)
		}
	}
}

func TestSplitWords(t *testing.T) {
	for _, x := range []struct {
		text string
		want []string
	}{
		{"", nil},
		{" ", nil},
		{"    ", nil},
		{"mira", []string{"mira"}},
		{" mira", []string{"mira"}},
		{"mira ", []string{"mira"}},
		{"  est 400   mira ab ", []string{"est", "400", "mira", "ab"}},
		{"b a b a", []string{"b", "a", "b", "a"}},
		{"a\tb\nc\rd\ve\ff", []string{"a\tb\nc\rd\ve\ff"}},
		{"\t \n", []string{"\t", "\n"}},
		{"a\u00a0b\u2003c d", []string{"a\u00a0b\u2003c", "d"}},
		{"\x00 \x00", []string{"\x00", "\x00"}},
		{"\xff \xc3 (\xe2\x80 \xa0", []string{"\xff", "\xc3", "(\xe2\x80", "\xa0"}},
		{"é ö", []string{"é", "ö"}},
	} {
		if got := impl.SplitWords(x.text); !slices.Equal(got, x.want) {
			t.Errorf("SplitWords(%q): got %q, want %q", x.text, got, x.want)
		}
	}
}

func TestSplitWordsKeepsAllOtherBytes(t *testing.T) {
	for i := range 256 {
		if i == ' ' {
			continue
		}
		c := string([]byte{byte(i)})
		want := []string{c, "x" + c + "y"}
		if got := impl.SplitWords(" " + c + "  x" + c + "y "); !slices.Equal(got, want) {
			t.Errorf("SplitWords with byte %d: got %q", i, got)
		}
	}
}

func TestSplitWordsReturnsNewSlices(t *testing.T) {
	const text = "est 400 mira"
	first := impl.SplitWords(text)
	clear(first)
	if got := impl.SplitWords(text); !slices.Equal(got, []string{"est", "400", "mira"}) {
		t.Errorf("SplitWords after a change of its result: got %q", got)
	}
}

// TestBasicsForAllArguments is promise 1 for chapter 1: each call returns, and returns the same again.
func TestBasicsForAllArguments(t *testing.T) {
	for _, n := range numbers(-1, 0, 5, 10, 11) {
		twice(t, "numbers", func() []any { return []any{impl.CodeName(n), impl.Decimal(n)} })
	}
	texts := append(slices.Clone(oddTexts), "star-3", "-12", "a b", strings.Repeat("\xff ", 3000))
	for _, s := range texts {
		twice(t, "texts", func() []any {
			n, ok := impl.ReadDecimal(s)
			return []any{impl.IsName(s), n, ok, impl.SplitWords(s)}
		})
	}
}
