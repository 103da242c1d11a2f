package tests

import (
	"fmt"
	"slices"
	"testing"

	"loop.example/g00856/impl"
)

// is compares texts, so that nil and empty slices count as equal.
func is(t *testing.T, name string, got, want any) {
	t.Helper()
	if g, w := fmt.Sprint(got), fmt.Sprint(want); g != w {
		t.Errorf("%s: got %s, want %s", name, g, w)
	}
}

// result gathers several results into one value.
func result(values ...any) []any { return values }

const spareMark = 77

// withSpare returns a copy of list with unused capacity that holds marks.
func withSpare(list []int64) []int64 {
	return append(slices.Clone(list), spareMark, spareMark)[:len(list)]
}

// isUntouched reports whether a list made by withSpare still is what it was.
func isUntouched(list, original []int64) bool {
	n := len(original)
	whole := list[:n+2]
	return slices.Equal(whole[:n], original) && whole[n] == spareMark && whole[n+1] == spareMark
}

// allPermutations returns the permutations of n things in lexicographic order, made without the program.
func allPermutations(n int) [][]int64 {
	var list [][]int64
	used := make([]bool, n)
	var extend func(prefix []int64)
	extend = func(prefix []int64) {
		if len(prefix) == n {
			list = append(list, slices.Clone(prefix))
			return
		}
		for k := range n {
			if !used[k] {
				used[k] = true
				extend(append(prefix, int64(k)))
				used[k] = false
			}
		}
	}
	extend([]int64{})
	return list
}

func rising(n int) []int64 {
	p := make([]int64, n)
	for i := range p {
		p[i] = int64(i)
	}
	return p
}

func falling(n int) []int64 {
	p := rising(n)
	slices.Reverse(p)
	return p
}

// inversionsByHand returns all pairs of things that change their order.
func inversionsByHand(p []int64) map[[2]int]bool {
	pairs := map[[2]int]bool{}
	for i := range p {
		for j := range i {
			if p[j] > p[i] {
				pairs[[2]int{j, i}] = true
			}
		}
	}
	return pairs
}

func isBelow(a, b []int64) bool {
	pairs := inversionsByHand(b)
	for pair := range inversionsByHand(a) {
		if !pairs[pair] {
			return false
		}
	}
	return true
}

// manyPermutations returns permutations of n things that a fixed rule shuffles.
func manyPermutations(n, count int) [][]int64 {
	list := [][]int64{rising(n), falling(n)}
	state := uint64(1)
	for len(list) < count {
		p := rising(n)
		for i := n - 1; i > 0; i-- {
			state = state*6364136223846793005 + 1442695040888963407
			k := int(state>>33) % (i + 1)
			p[i], p[k] = p[k], p[i]
		}
		list = append(list, p)
	}
	return list
}

func braid(strands int64, letters ...int64) impl.Braid {
	return impl.Braid{Strands: strands, Word: letters}
}

func repeated(strands, letter int64, count int) impl.Braid {
	return impl.Braid{Strands: strands, Word: slices.Repeat([]int64{letter}, count)}
}

// manyBraids returns braids of at most length letters that a fixed rule shuffles; those of fewer than two strands have none.
func manyBraids(strands int64, length, count int) []impl.Braid {
	list := []impl.Braid{braid(strands)}
	state := uint64(strands)
	for len(list) < count {
		b := braid(strands)
		for range min(length, length*len(list)/4) {
			state = state*6364136223846793005 + 1442695040888963407
			if letter := int64(state>>33)%(2*strands+1) - strands; letter != 0 && letter != strands && letter != -strands {
				b.Word = append(b.Word, letter)
			}
		}
		list = append(list, b)
	}
	return list
}

// someBraids returns braids with all numbers of strands, many of them with letters that cancel.
func someBraids() []impl.Braid {
	var list []impl.Braid
	for n := range int64(13) {
		list = append(list, manyBraids(n, 12, 20)...)
		list = append(list, manyBraids(n, 40, 20)...)
	}
	return list
}

func joinOfBraids(t *testing.T, a, b impl.Braid) impl.Braid {
	t.Helper()
	joined, code := impl.JoinBraids(a, b)
	is(t, "code of joined braids", code, impl.OK)
	return joined
}

func doubleOf(t *testing.T, b impl.Braid, sizes []int64) impl.Braid {
	t.Helper()
	doubled, code := impl.DoubleBraid(b, sizes)
	is(t, "code of doubled braid", code, impl.OK)
	return doubled
}

// isEqualAsBraid compares how two braids act on the free group, which is the same exactly if they are equal as braids.
func isEqualAsBraid(t *testing.T, name string, a, b impl.Braid) {
	t.Helper()
	is(t, name, a.Strands, b.Strands)
	if x, y := fmt.Sprint(actionByHand(a)), fmt.Sprint(actionByHand(b)); x != y {
		t.Errorf("%s: %v and %v are not equal as braids", name, a, b)
	}
}

// actionByHand returns what a braid makes of each generator of the free group.
func actionByHand(b impl.Braid) [][]int64 {
	images := make([][]int64, b.Strands)
	for i := range images {
		images[i] = []int64{int64(i + 1)}
		for _, letter := range b.Word {
			images[i] = actedOn(images[i], letter)
		}
	}
	return images
}

func actedOn(free []int64, letter int64) []int64 {
	var list []int64
	for _, g := range free {
		image := imageOfGenerator(max(g, -g), letter)
		if g < 0 {
			slices.Reverse(image)
		}
		for _, x := range image {
			if g < 0 {
				x = -x
			}
			if n := len(list); n > 0 && list[n-1] == -x {
				list = list[:n-1]
			} else {
				list = append(list, x)
			}
		}
	}
	return list
}

func imageOfGenerator(g, letter int64) []int64 {
	switch k := max(letter, -letter); {
	case letter > 0 && g == k:
		return []int64{k, k + 1, -k}
	case letter > 0 && g == k+1:
		return []int64{k}
	case letter < 0 && g == k:
		return []int64{k + 1}
	case letter < 0 && g == k+1:
		return []int64{-(k + 1), k, k + 1}
	}
	return []int64{g}
}
