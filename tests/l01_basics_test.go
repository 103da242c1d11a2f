package tests

import (
	"math"
	"strconv"
	"strings"
	"testing"

	"loop.example/g00856/impl"
)

func TestCodeNames(t *testing.T) {
	codes := []int64{impl.OK, impl.ErrInvalid, impl.ErrRange, impl.ErrNotFound, impl.ErrExists, impl.ErrFull, impl.ErrState, impl.ErrEmpty, impl.ErrRack, impl.ErrCarrier, impl.ErrStitches, impl.ErrSyntax, impl.ErrPlan}
	names := strings.Fields("ok invalid range not-found exists full state empty rack carrier stitches syntax plan")
	for i, code := range codes {
		is(t, names[i], code, i)
		is(t, "CodeName", impl.CodeName(code), names[i])
	}
	for _, code := range []int64{-1, 13, math.MinInt64, math.MaxInt64} {
		is(t, "CodeName of no code", impl.CodeName(code), "")
	}
}

func TestConstants(t *testing.T) {
	is(t, "beds", result(impl.BdFront, impl.BdBack), "[1 2]")
	is(t, "directions", result(impl.DrRight, impl.DrLeft), "[1 -1]")
	is(t, "limits", result(impl.MaxName, impl.MaxNeedles, impl.MaxPermutation, impl.MaxExchanges), "[10 24 12 200]")
}

func TestNames(t *testing.T) {
	for _, s := range []string{"a", "z", "rib2", "a0123456789"[:10], "zzzzzzzzzz", "a9z"} {
		is(t, s, impl.IsName(s), true)
	}
	for _, s := range []string{"", "2", "2rib", "abcdefghijk", "a_b", "Rib", "riB", "a b", " a", "a-", "a`", "a{", "a/", "a:", "ä", "aä", "a\x00", "a\xff"} {
		is(t, strconv.Quote(s), impl.IsName(s), false)
	}
}

func TestDecimal(t *testing.T) {
	is(t, "zero", impl.Decimal(0), "0")
	is(t, "negative", impl.Decimal(-10), "-10")
	is(t, "least", impl.Decimal(math.MinInt64), "-9223372036854775808")
	is(t, "greatest", impl.Decimal(math.MaxInt64), "9223372036854775807")
}

// P2: numbers are read back from their texts.
func TestNumbersAreReadBack(t *testing.T) {
	numbers := []int64{0, 9, 10, 99999999, 100000000, 999999998, 999999999}
	for n := range int64(2000) {
		numbers = append(numbers, n, n*n*n/9)
	}
	for _, n := range numbers {
		is(t, "read back", result(impl.ReadDecimal(impl.Decimal(n))), result(n, true))
		is(t, "read back", result(impl.ReadDecimal(impl.Decimal(-n))), result(-n, true))
	}
	for _, n := range []int64{1000000000, -1000000000, 9999999999, math.MaxInt64, math.MinInt64} {
		is(t, "too many digits", result(impl.ReadDecimal(impl.Decimal(n))), "[0 false]")
	}
}

func TestOnlyCanonicalNumbersAreRead(t *testing.T) {
	for _, s := range []string{"-0", "007", "1000000000", "-1000000000", "00", "01", "-01", "", "-", "--1", "+1", "+0", "1x", "x1", " 1", "1 ", "-  1", "1_0", "0x1", "1e3", "1.0", "1\n", "\x001", "000000001", "0000000001", "१", "18446744073709551617", "9223372036854775808"} {
		is(t, strconv.Quote(s), result(impl.ReadDecimal(s)), "[0 false]")
	}
	is(t, "long text", result(impl.ReadDecimal(strings.Repeat("1", 100000))), "[0 false]")
}

// P2: a text is read exactly if it is the text of what is read.
func TestShortTextsOfNumbers(t *testing.T) {
	for _, s := range textsOver("-+019 ", 4) {
		n, ok := impl.ReadDecimal(s)
		want, err := strconv.Atoi(s)
		canonical := err == nil && strconv.Itoa(want) == s
		if !canonical {
			want = 0
		}
		is(t, strconv.Quote(s), result(n, ok), result(want, canonical))
	}
}

// textsOver returns all texts of at most length bytes of an alphabet.
func textsOver(alphabet string, length int) []string {
	all, last := []string{""}, []string{""}
	for range length {
		var next []string
		for _, s := range last {
			for i := range len(alphabet) {
				next = append(next, s+alphabet[i:i+1])
			}
		}
		all, last = append(all, next...), next
	}
	return all
}

// P2: needles are read back from their texts, and nothing else is read.
func TestNeedlesAreReadBack(t *testing.T) {
	texts := map[string]impl.Needle{}
	for at := range int64(24) {
		texts["f"+strconv.Itoa(int(at))] = impl.Needle{Bed: impl.BdFront, At: at}
		texts["b"+strconv.Itoa(int(at))] = impl.Needle{Bed: impl.BdBack, At: at}
	}
	for s, n := range texts {
		is(t, s, result(impl.ValidNeedle(n), impl.NeedleText(n)), result(true, s))
		is(t, s, result(impl.ReadNeedle(s)), result(n, true))
	}
	for _, s := range textsOver("fb-+0123456789 ", 4) {
		n, ok := impl.ReadNeedle(s)
		want, known := texts[s]
		if n != want || ok != known {
			t.Errorf("ReadNeedle of %q: got %v %v", s, n, ok)
		}
	}
	is(t, "example", result(impl.ReadNeedle("b10")), "[{2 10} true]")
}

func TestInvalidNeedles(t *testing.T) {
	for _, n := range []impl.Needle{{}, {Bed: 0, At: 5}, {Bed: 3}, {Bed: -1}, {Bed: 1, At: -1}, {Bed: 2, At: 24}, {Bed: 1, At: math.MaxInt64}, {Bed: 2, At: math.MinInt64}, {Bed: math.MaxInt64, At: 1}, {Bed: math.MinInt64, At: 1}} {
		is(t, "invalid needle", result(impl.ValidNeedle(n), impl.NeedleText(n)), "[false ]")
	}
	for _, s := range []string{"", "f", "b", "f24", "b24", "f-1", "f-0", "f01", "f+1", "c1", "F1", "B1", "f1 ", " f1", "ff1", "1f", "1", "f 1", "f1000000000", "ｆ1"} {
		is(t, strconv.Quote(s), result(impl.ReadNeedle(s)), "[{0 0} false]")
	}
}

func TestOtherBed(t *testing.T) {
	is(t, "beds", result(impl.OtherBed(impl.BdFront), impl.OtherBed(impl.BdBack)), "[2 1]")
	for _, bed := range []int64{0, 3, -1, math.MinInt64, math.MaxInt64} {
		is(t, "no bed", impl.OtherBed(bed), 0)
	}
}

func TestSplitWords(t *testing.T) {
	words := map[string][]string{
		"":             {},
		" ":            {},
		"    ":         {},
		"a":            {"a"},
		"  a bc  d ":   {"a", "bc", "d"},
		"a\tb\nc d":    {"a\tb\nc", "d"},
		"a\u00a0b":     {"a\u00a0b"},
		"\xff \xc3 ä ": {"\xff", "\xc3", "ä"},
		"\x00 \x00":    {"\x00", "\x00"},
	}
	for s, want := range words {
		got := impl.SplitWords(s)
		is(t, strconv.Quote(s), len(got), len(want))
		is(t, strconv.Quote(s), strings.Join(got, "|"), strings.Join(want, "|"))
	}
}
