package impl

import (
	"strconv"
	"strings"
)

// Codes, in the order of codeNames.
const (
	OK = iota
	ErrInvalid
	ErrRange
	ErrNotFound
	ErrExists
	ErrFull
	ErrState
	ErrSyntax
	ErrFormat
	ErrClash
	ErrCloudy
)

// MaxName is the greatest length of a name.
const MaxName = 12

// beyondDigits is the least number with more digits than ReadDecimal reads.
const beyondDigits = 1_000_000_000_000_000_000

var codeNames = [...]string{
	"ok", "invalid", "range", "not-found", "exists", "full",
	"state", "syntax", "format", "clash", "cloudy",
}

// CodeName returns the name of a code.
func CodeName(code int64) string {
	if code < 0 || code >= int64(len(codeNames)) {
		return ""
	}
	return codeNames[code]
}

// IsName reports whether s is a name.
func IsName(s string) bool {
	if len(s) < 1 || len(s) > MaxName {
		return false
	}
	for i, r := range s {
		if !isSmallLetter(r) && (i == 0 || !isDigit(r) && r != '-') {
			return false
		}
	}
	return true
}

func isSmallLetter(r rune) bool { return 'a' <= r && r <= 'z' }

func isDigit(r rune) bool { return '0' <= r && r <= '9' }

func isBlank(r rune) bool { return r == ' ' }

// Decimal returns the decimal form of a number.
func Decimal(n int64) string { return strconv.FormatInt(n, 10) }

// ReadDecimal returns the number with a decimal form.
func ReadDecimal(s string) (int64, bool) {
	n, err := strconv.ParseInt(s, 10, 64)
	if err != nil || n <= -beyondDigits || n >= beyondDigits {
		return 0, false
	}
	// ParseInt also takes a plus sign, leading zeros and -0.
	if Decimal(n) != s {
		return 0, false
	}
	return n, true
}

// SplitWords returns the parts of a text without blanks.
func SplitWords(s string) []string { return strings.FieldsFunc(s, isBlank) }

// writePadded appends n, which is not negative, with at least width digits.
func writePadded(b *strings.Builder, n int64, width int) {
	digits := Decimal(n)
	for i := len(digits); i < width; i++ {
		b.WriteByte('0')
	}
	b.WriteString(digits)
}
