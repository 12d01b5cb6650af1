package impl

import (
	"slices"
	"sort"
	"strconv"
	"strings"
)

// Limits of magnitudes.
const (
	MinMag   = -2000
	MaxMag   = 20000
	MaxSteps = 50
	MaxMags  = 100
)

// Limits of the fractions that RoundFraction and BySteps take.
const (
	maxRoundNum = 1_000_000_000_000_000
	maxRoundDen = 1_000_000_000
	maxSizeNum  = 1_000_000
	maxSizeDen  = 1000
)

// Fraction is the number Num / Den.
type Fraction struct {
	Num int64
	Den int64
}

// within reports whether Num is -maxNum to maxNum, and Den is 1 to maxDen.
func (f Fraction) within(maxNum, maxDen int64) bool {
	return inRange(f.Num, -maxNum, maxNum) && inRange(f.Den, 1, maxDen)
}

// nearest returns the nearest integer of a fraction with a positive Den.
func (f Fraction) nearest() int64 {
	return floorDiv(2*f.Num+f.Den, 2*f.Den)
}

// lowest returns the fraction, which has a positive Den, in lowest terms.
func (f Fraction) lowest() Fraction {
	a, b := f.Den, f.Num
	if b < 0 {
		b = -b
	}
	for b != 0 {
		a, b = b, a%b
	}
	return Fraction{Num: f.Num / a, Den: f.Den / a}
}

func inRange(n, low, high int64) bool { return low <= n && n <= high }

// floorDiv returns a / b, rounded down, for a positive b; Go's division rounds towards 0.
func floorDiv(a, b int64) int64 {
	if a%b < 0 {
		return a/b - 1
	}
	return a / b
}

// ValidMag reports whether a number is a magnitude.
func ValidMag(m int64) bool { return inRange(m, MinMag, MaxMag) }

// RoundFraction returns the nearest integer of a fraction.
func RoundFraction(f Fraction) (int64, int64) {
	if !f.within(maxRoundNum, maxRoundDen) {
		return 0, ErrInvalid
	}
	return f.nearest(), OK
}

// magBetween returns the magnitude that is p parts from a and q parts from b, p and q not both 0.
func magBetween(a, b, p, q int64) int64 { return Fraction{Num: a*q + b*p, Den: p + q}.nearest() }

// BetweenStars returns the magnitude between two comparison stars.
func BetweenStars(a, b, p, q int64) (int64, int64) {
	if !ValidMag(a) || !ValidMag(b) || !inRange(p, 0, MaxSteps) || !inRange(q, 0, MaxSteps) {
		return 0, ErrRange
	}
	if p == 0 && q == 0 {
		return 0, ErrState
	}
	return magBetween(a, b, p, q), OK
}

// StepSize returns the size of a step from two comparison stars.
func StepSize(a, b, steps int64) (Fraction, int64) {
	if !ValidMag(a) || !ValidMag(b) || !inRange(steps, 1, MaxSteps) {
		return Fraction{}, ErrRange
	}
	return Fraction{Num: b - a, Den: steps}.lowest(), OK
}

// BySteps returns the magnitude that is some steps from a comparison star.
func BySteps(a, steps int64, size Fraction) (int64, int64) {
	if !ValidMag(a) || !inRange(steps, -MaxSteps, MaxSteps) || !size.within(maxSizeNum, maxSizeDen) {
		return 0, ErrRange
	}
	m := Fraction{Num: a*size.Den + steps*size.Num, Den: size.Den}.nearest()
	if !ValidMag(m) {
		return 0, ErrFull
	}
	return m, OK
}

// areMags reports whether a list has at most MaxMags elements, all of them magnitudes.
func areMags(list []int64) bool {
	if len(list) > MaxMags {
		return false
	}
	for _, m := range list {
		if !ValidMag(m) {
			return false
		}
	}
	return true
}

// checkSomeMags returns the code for a list from which one magnitude is formed.
func checkSomeMags(list []int64) int64 {
	if !areMags(list) {
		return ErrRange
	}
	if len(list) == 0 {
		return ErrNotFound
	}
	return OK
}

// MeanMag returns the mean of magnitudes.
func MeanMag(list []int64) (int64, int64) {
	if code := checkSomeMags(list); code != OK {
		return 0, code
	}
	var sum int64
	for _, m := range list {
		sum += m
	}
	return Fraction{Num: sum, Den: int64(len(list))}.nearest(), OK
}

// MedianMag returns the median of magnitudes.
func MedianMag(list []int64) (int64, int64) {
	if code := checkSomeMags(list); code != OK {
		return 0, code
	}
	return medianOf(list), OK
}

// medianOf returns the median of any numbers, of which there is at least one.
func medianOf(list []int64) int64 {
	ordered := slices.Clone(list)
	sort.Slice(ordered, func(i, k int) bool { return ordered[i] < ordered[k] })
	middle := len(ordered) / 2
	if len(ordered)%2 == 1 {
		return ordered[middle]
	}
	return Fraction{Num: ordered[middle-1] + ordered[middle], Den: 2}.nearest()
}

// RangeOfMags returns the brightest and the faintest magnitude.
func RangeOfMags(list []int64) (int64, int64, int64) {
	if code := checkSomeMags(list); code != OK {
		return 0, 0, code
	}
	return slices.Min(list), slices.Max(list), OK
}

// placedMag is a magnitude and its index in a list.
type placedMag struct {
	index int64
	mag   int64
}

// EnclosingPair returns the nearest comparison stars on both sides of a magnitude.
func EnclosingPair(comps []int64, m int64) (int64, int64, int64) {
	if !areMags(comps) || !ValidMag(m) {
		return 0, 0, ErrRange
	}
	none := placedMag{index: -1}
	below, above := none, none
	for i, mag := range comps {
		here := placedMag{index: int64(i), mag: mag}
		if mag <= m && (below == none || mag > below.mag) {
			below = here
		}
		if mag > m && (above == none || mag < above.mag) {
			above = here
		}
	}
	if below == none || above == none {
		return 0, 0, ErrNotFound
	}
	return below.index, above.index, OK
}

// MagText returns the text form of a magnitude.
func MagText(m int64) string {
	if !ValidMag(m) {
		return ""
	}
	var b strings.Builder
	if m < 0 {
		b.WriteByte('-')
		m = -m
	}
	b.WriteString(Decimal(m / 1000))
	b.WriteByte('.')
	writePadded(&b, m%1000, 3)
	return b.String()
}

// ReadMag returns the magnitude with a text form.
func ReadMag(s string) (int64, bool) {
	m, err := strconv.ParseInt(strings.Replace(s, ".", "", 1), 10, 64)
	// Without its point the text says the number, but not where the point was.
	if err != nil || MagText(m) != s {
		return 0, false
	}
	return m, true
}
