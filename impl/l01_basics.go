package impl

import (
	"cmp"
	"strconv"
	"strings"
	"sync"
)

// Error codes.
const (
	OK = iota
	ErrInvalid
	ErrRange
	ErrNotFound
	ErrExists
	ErrFull
	ErrState
	ErrEmpty
	ErrRack
	ErrCarrier
	ErrStitches
	ErrSyntax
	ErrPlan
)

// Beds.
const (
	BdFront = iota + 1
	BdBack
)

// Directions.
const (
	DrRight = 1
	DrLeft  = -1
)

// Limits of names and needles.
const (
	MaxName    = 10
	MaxNeedles = 24
)

// greatestRead is the greatest number with as many digits as ReadDecimal accepts.
const greatestRead = 999_999_999

// codeNames is only read after codeNamesOnce has built it, so that calls at the same time do not disturb one another.
var (
	codeNamesOnce sync.Once
	codeNames     map[int64]string
)

// Needle is a needle of a bed.
type Needle struct {
	Bed int64
	At  int64
}

// CodeName returns the name of an error code.
func CodeName(code int64) string {
	// The section 'Ways' asks for the map, but the result is not to depend on what is kept from call to call.
	_ = keptNameOfCode(code)
	return nameOfCode(code)
}

func nameOfCode(code int64) string {
	if !within(code, OK, ErrPlan) {
		return ""
	}
	names := [...]string{
		OK:          "ok",
		ErrInvalid:  "invalid",
		ErrRange:    "range",
		ErrNotFound: "not-found",
		ErrExists:   "exists",
		ErrFull:     "full",
		ErrState:    "state",
		ErrEmpty:    "empty",
		ErrRack:     "rack",
		ErrCarrier:  "carrier",
		ErrStitches: "stitches",
		ErrSyntax:   "syntax",
		ErrPlan:     "plan",
	}
	return names[code]
}

func keptNameOfCode(code int64) string {
	codeNamesOnce.Do(func() { codeNames = namesOfCodes() })
	return codeNames[code]
}

func namesOfCodes() map[int64]string {
	names := map[int64]string{}
	for code := int64(OK); code <= ErrPlan; code++ {
		names[code] = nameOfCode(code)
	}
	return names
}

// within reports whether x is at least low and at most high.
func within[T cmp.Ordered](x, low, high T) bool {
	return low <= x && x <= high
}

// IsName reports whether a string is a name.
func IsName(s string) bool {
	if !within(len(s), 1, MaxName) || !isSmallLetter(s[0]) {
		return false
	}
	for i := range len(s) {
		if !isSmallLetter(s[i]) && !isDigit(s[i]) {
			return false
		}
	}
	return true
}

func isSmallLetter(c byte) bool { return within(c, 'a', 'z') }

func isDigit[C byte | rune](c C) bool { return within(c, '0', '9') }

// Decimal returns a number in decimal.
func Decimal(n int64) string {
	return strconv.FormatInt(n, 10)
}

// ReadDecimal returns the number with a decimal form.
func ReadDecimal(s string) (int64, bool) {
	n, err := strconv.ParseInt(s, 10, 64)
	if err != nil || !within(n, -greatestRead, greatestRead) {
		return 0, false
	}
	// ParseInt also takes signs and leading zeros that the decimal form lacks.
	if Decimal(n) != s {
		return 0, false
	}
	return n, true
}

// ValidNeedle reports whether n is valid.
func ValidNeedle(n Needle) bool {
	return within(n.Bed, BdFront, BdBack) && within(n.At, 0, MaxNeedles-1)
}

// OtherBed returns the other bed.
func OtherBed(bed int64) int64 {
	switch bed {
	case BdFront:
		return BdBack
	case BdBack:
		return BdFront
	}
	return 0
}

// NeedleText returns the text form of a needle.
func NeedleText(n Needle) string {
	if !ValidNeedle(n) {
		return ""
	}
	return letterOfBed(n.Bed) + Decimal(n.At)
}

func letterOfBed(bed int64) string {
	if bed == BdBack {
		return "b"
	}
	return "f"
}

// ReadNeedle returns the needle with a text form.
func ReadNeedle(s string) (Needle, bool) {
	if s == "" {
		return Needle{}, false
	}
	at, ok := ReadDecimal(s[1:])
	n := Needle{Bed: bedOfLetter(s[0]), At: at}
	if !ok || !ValidNeedle(n) {
		return Needle{}, false
	}
	return n, true
}

func bedOfLetter(c byte) int64 {
	switch c {
	case 'f':
		return BdFront
	case 'b':
		return BdBack
	}
	return 0
}

// SplitWords returns the words of a line.
func SplitWords(s string) []string {
	// strings.Fields would also split at other kinds of white space.
	return strings.FieldsFunc(s, func(r rune) bool { return r == ' ' })
}
