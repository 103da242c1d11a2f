package tests

import (
	"fmt"
	"math"
	"slices"
	"strings"
	"sync"
	"testing"

	"loop.example/g00856/impl"
)

// listCalls are calls of all functions that have slices as arguments.
func listCalls() map[string]func(a, b []int64) []any {
	return map[string]func(a, b []int64) []any{
		"ValidPermutation":    func(a, _ []int64) []any { return result(impl.ValidPermutation(a)) },
		"ComposePermutations": func(a, b []int64) []any { return result(impl.ComposePermutations(a, b)) },
		"InvertPermutation":   func(a, _ []int64) []any { return result(impl.InvertPermutation(a)) },
		"InversionsOf":        func(a, _ []int64) []any { return result(impl.InversionsOf(a)) },
		"DescentsOf":          func(a, _ []int64) []any { return result(impl.DescentsOf(a)) },
		"ReducedWord":         func(a, _ []int64) []any { return result(impl.ReducedWord(a)) },
		"PermutationOfWord":   func(a, b []int64) []any { return result(impl.PermutationOfWord(int64(len(b)), a)) },
		"MeetPermutations":    func(a, b []int64) []any { return result(impl.MeetPermutations(a, b)) },
		"JoinPermutations":    func(a, b []int64) []any { return result(impl.JoinPermutations(a, b)) },
		"RankOf":              func(a, _ []int64) []any { return result(impl.RankOf(a)) },
	}
}

// numberCalls are calls of all functions that have only numbers and texts as arguments.
func numberCalls() map[string]func(n, k int64, s string) []any {
	return map[string]func(n, k int64, s string) []any{
		"CodeName":            func(n, _ int64, _ string) []any { return result(impl.CodeName(n)) },
		"IsName":              func(_, _ int64, s string) []any { return result(impl.IsName(s)) },
		"Decimal":             func(n, _ int64, _ string) []any { return result(impl.Decimal(n)) },
		"ReadDecimal":         func(_, _ int64, s string) []any { return result(impl.ReadDecimal(s)) },
		"ValidNeedle":         func(n, k int64, _ string) []any { return result(impl.ValidNeedle(impl.Needle{Bed: n, At: k})) },
		"OtherBed":            func(n, _ int64, _ string) []any { return result(impl.OtherBed(n)) },
		"NeedleText":          func(n, k int64, _ string) []any { return result(impl.NeedleText(impl.Needle{Bed: n, At: k})) },
		"ReadNeedle":          func(_, _ int64, s string) []any { return result(impl.ReadNeedle(s)) },
		"SplitWords":          func(_, _ int64, s string) []any { return result(impl.SplitWords(s)) },
		"IdentityPermutation": func(n, _ int64, _ string) []any { return result(impl.IdentityPermutation(n)) },
		"PermutationAt":       func(n, k int64, _ string) []any { return result(impl.PermutationAt(n, k)) },
	}
}

// scribble overwrites all that a result holds, so that memory shared with it shows.
func scribble(values []any) {
	for _, v := range values {
		switch list := v.(type) {
		case []int64:
			list = list[:cap(list)]
			for i := range list {
				list[i] = -9
			}
		case []string:
			list = list[:cap(list)]
			for i := range list {
				list[i] = "scribble"
			}
		}
	}
}

// P1, for arguments that are slices.
func TestListsAreNeitherChangedNorShared(t *testing.T) {
	lists := [][]int64{nil, {}, {0}, {0, 0, 0}, {0, 1}, {1, 0}, {0, 1, 2}, {2, 0, 1}, {1, 2, 0}, {3, 0, 2, 1}, rising(12), falling(12), make([]int64, 1000)}
	lists = append(lists, notPermutations()...)
	for name, call := range listCalls() {
		for _, a := range lists {
			for _, b := range lists {
				x, y := withSpare(a), withSpare(b)
				first := call(x, y)
				text := fmt.Sprint(first)
				again := call(x, y)
				scribble(first)
				is(t, name, again, text)
				is(t, name, call(x, y), text)
				if !isUntouched(x, a) || !isUntouched(y, b) {
					t.Errorf("%s: changed or shared %v or %v", name, a, b)
				}
			}
		}
	}
}

// A list may be given twice in one call.
func TestOneListAsBothArguments(t *testing.T) {
	for name, call := range listCalls() {
		for _, p := range manyPermutations(12, 10) {
			x := withSpare(p)
			is(t, name, call(x, x), call(slices.Clone(p), slices.Clone(p)))
			is(t, name, isUntouched(x, p), true)
		}
	}
}

// P1, for numbers and texts.
func TestNumbersAndTexts(t *testing.T) {
	numbers := []int64{math.MinInt64, -1000000000, -1, 0, 1, 2, 3, 11, 12, 13, 23, 24, 1000000000, math.MaxInt64}
	texts := []string{"", " ", "\t", "-", "-0", "7", "007", "f1", "b 2", "rib", "\xff\xfe", "a b c", strings.Repeat("9", 5000), strings.Repeat(" x", 5000)}
	for name, call := range numberCalls() {
		for _, n := range numbers {
			for i, s := range texts {
				k := numbers[i%len(numbers)]
				first := call(n, k, s)
				text := fmt.Sprint(first)
				scribble(first)
				is(t, name, call(n, k, s), text)
			}
		}
	}
}

// P1: the names of codes do not depend on which call comes first.
func TestCallsAtTheSameTime(t *testing.T) {
	var group sync.WaitGroup
	names := make([]string, 64)
	for i := range names {
		group.Go(func() { names[i] = impl.CodeName(int64(i % 13)) })
	}
	group.Wait()
	for i, name := range names {
		is(t, "CodeName", name, impl.CodeName(int64(i%13)))
		is(t, "named", name != "", true)
	}
}
