package tests

import (
	"fmt"
	"slices"
	"testing"
)

// is compares texts, so that nil and empty slices count as equal.
func is(t *testing.T, name string, got, want any) {
	t.Helper()
	if g, w := fmt.Sprint(got), fmt.Sprint(want); g != w {
		t.Errorf("%s: got %s, want %s", name, g, w)
	}
}

// result gathers several results into one value.
func result(values ...any) []any { return values }

const spareMark = 77

// withSpare returns a copy of list with unused capacity that holds marks.
func withSpare(list []int64) []int64 {
	return append(slices.Clone(list), spareMark, spareMark)[:len(list)]
}

// isUntouched reports whether a list made by withSpare still is what it was.
func isUntouched(list, original []int64) bool {
	n := len(original)
	whole := list[:n+2]
	return slices.Equal(whole[:n], original) && whole[n] == spareMark && whole[n+1] == spareMark
}

// allPermutations returns the permutations of n things in lexicographic order, made without the program.
func allPermutations(n int) [][]int64 {
	var list [][]int64
	used := make([]bool, n)
	var extend func(prefix []int64)
	extend = func(prefix []int64) {
		if len(prefix) == n {
			list = append(list, slices.Clone(prefix))
			return
		}
		for k := range n {
			if !used[k] {
				used[k] = true
				extend(append(prefix, int64(k)))
				used[k] = false
			}
		}
	}
	extend([]int64{})
	return list
}

func rising(n int) []int64 {
	p := make([]int64, n)
	for i := range p {
		p[i] = int64(i)
	}
	return p
}

func falling(n int) []int64 {
	p := rising(n)
	slices.Reverse(p)
	return p
}

// inversionsByHand returns all pairs of things that change their order.
func inversionsByHand(p []int64) map[[2]int]bool {
	pairs := map[[2]int]bool{}
	for i := range p {
		for j := range i {
			if p[j] > p[i] {
				pairs[[2]int{j, i}] = true
			}
		}
	}
	return pairs
}

func isBelow(a, b []int64) bool {
	pairs := inversionsByHand(b)
	for pair := range inversionsByHand(a) {
		if !pairs[pair] {
			return false
		}
	}
	return true
}

// manyPermutations returns permutations of n things that a fixed rule shuffles.
func manyPermutations(n, count int) [][]int64 {
	list := [][]int64{rising(n), falling(n)}
	state := uint64(1)
	for len(list) < count {
		p := rising(n)
		for i := n - 1; i > 0; i-- {
			state = state*6364136223846793005 + 1442695040888963407
			k := int(state>>33) % (i + 1)
			p[i], p[k] = p[k], p[i]
		}
		list = append(list, p)
	}
	return list
}
