package tests

import (
	"math"
	"slices"
	"testing"

	"loop.example/g00856/impl"
)

// notPermutations are lists that ValidPermutation rejects.
func notPermutations() [][]int64 {
	return [][]int64{{1}, {-1}, {0, 0}, {1, 1}, {0, 2}, {1, 2}, {3, 0}, {0, 1, 3}, {0, -1, 1}, {2, 1, 2},
		{math.MaxInt64, 0}, {0, math.MinInt64}, rising(13), falling(13), make([]int64, 100)}
}

func TestPermutationExamples(t *testing.T) {
	is(t, "word of 2 0 1", impl.ReducedWord([]int64{2, 0, 1}), []int64{0, 1})
	is(t, "join", result(impl.JoinPermutations([]int64{1, 0, 2}, []int64{0, 2, 1})), "[[2 1 0] true]")
	is(t, "meet", result(impl.MeetPermutations([]int64{1, 0, 2}, []int64{0, 2, 1})), "[[0 1 2] true]")
	is(t, "rank of 2 0 1", impl.RankOf([]int64{2, 0, 1}), 4)
}

func TestValidPermutation(t *testing.T) {
	for n := range 7 {
		for _, p := range allPermutations(n) {
			is(t, "permutation", impl.ValidPermutation(p), true)
		}
	}
	is(t, "nil", impl.ValidPermutation(nil), true)
	is(t, "most things", result(impl.ValidPermutation(rising(12)), impl.ValidPermutation(falling(12))), "[true true]")
	for _, p := range notPermutations() {
		is(t, "no permutation", impl.ValidPermutation(p), false)
	}
}

func TestFunctionsOfNoPermutation(t *testing.T) {
	for _, p := range notPermutations() {
		none := impl.InvertPermutation(p) == nil && impl.DescentsOf(p) == nil && impl.ReducedWord(p) == nil
		is(t, "nil", none, true)
		is(t, "numbers", result(impl.InversionsOf(p), impl.RankOf(p)), "[-1 -1]")
		isNoPair(t, p, rising(min(len(p), 12)))
		isNoPair(t, p, p)
	}
	isNoPair(t, rising(2), rising(3))
	isNoPair(t, rising(0), rising(1))
	isNoPair(t, rising(11), falling(12))
}

func isNoPair(t *testing.T, a, b []int64) {
	t.Helper()
	for _, f := range pairFunctions() {
		for _, args := range [][2][]int64{{a, b}, {b, a}} {
			p, ok := f(args[0], args[1])
			if p != nil || ok {
				t.Errorf("%v: got %v %v", args, p, ok)
			}
		}
	}
}

func pairFunctions() []func(a, b []int64) ([]int64, bool) {
	return []func(a, b []int64) ([]int64, bool){impl.ComposePermutations, impl.MeetPermutations, impl.JoinPermutations}
}

func TestNoThings(t *testing.T) {
	for _, p := range [][]int64{nil, {}} {
		is(t, "lists", result(impl.InvertPermutation(p), impl.DescentsOf(p), impl.ReducedWord(p)), "[[] [] []]")
		is(t, "numbers", result(impl.InversionsOf(p), impl.RankOf(p)), "[0 0]")
		for _, f := range pairFunctions() {
			is(t, "pair", result(f(p, nil)), "[[] true]")
		}
	}
	is(t, "identity", result(impl.IdentityPermutation(0)), "[[] true]")
	is(t, "word", result(impl.PermutationOfWord(0, nil)), "[[] true]")
	is(t, "rank", result(impl.PermutationAt(0, 0)), "[[] true]")
	is(t, "no rank", result(impl.PermutationAt(0, 1)), "[[] false]")
}

func TestMostThings(t *testing.T) {
	up, down := rising(12), falling(12)
	is(t, "inversions", result(impl.InversionsOf(up), impl.InversionsOf(down)), "[0 66]")
	is(t, "descents", result(impl.DescentsOf(up), impl.DescentsOf(down)), result([]int64{}, rising(11)))
	is(t, "words", result(len(impl.ReducedWord(up)), len(impl.ReducedWord(down))), "[0 66]")
	is(t, "ranks", result(impl.RankOf(up), impl.RankOf(down)), "[0 479001599]")
	is(t, "inverse", impl.InvertPermutation(down), down)
	is(t, "composed", result(impl.ComposePermutations(down, down)), result(up, true))
	is(t, "last", result(impl.PermutationAt(12, 479001599)), result(down, true))
	is(t, "after the last", result(impl.PermutationAt(12, 479001600)), "[[] false]")
	is(t, "meet", result(impl.MeetPermutations(up, down)), result(up, true))
	is(t, "join", result(impl.JoinPermutations(up, down)), result(down, true))
}

func TestIdentityPermutation(t *testing.T) {
	for n := range 13 {
		is(t, "identity", result(impl.IdentityPermutation(int64(n))), result(rising(n), true))
	}
	for _, n := range []int64{-1, 13, math.MinInt64, math.MaxInt64} {
		is(t, "no identity", result(impl.IdentityPermutation(n)), "[[] false]")
	}
}

func TestComposeAndInvert(t *testing.T) {
	is(t, "order", result(impl.ComposePermutations([]int64{1, 0, 2}, []int64{0, 2, 1})), "[[2 0 1] true]")
	is(t, "inverse", impl.InvertPermutation([]int64{2, 0, 1, 3}), "[1 2 0 3]")
	for n := range 5 {
		for _, a := range allPermutations(n) {
			is(t, "undone", result(impl.ComposePermutations(a, impl.InvertPermutation(a))), result(rising(n), true))
			for _, b := range allPermutations(n) {
				c, ok := impl.ComposePermutations(a, b)
				is(t, "composed", ok, true)
				for i := range a {
					is(t, "place", c[i], b[a[i]])
				}
			}
		}
	}
}

func TestInversionsAndDescents(t *testing.T) {
	for n := range 7 {
		for _, p := range allPermutations(n) {
			is(t, "inversions", impl.InversionsOf(p), len(inversionsByHand(p)))
			is(t, "descents", impl.DescentsOf(p), descentsByHand(p))
		}
	}
}

func descentsByHand(p []int64) []int64 {
	list := []int64{}
	for i := 1; i < len(p); i++ {
		if p[i-1] > p[i] {
			list = append(list, int64(i-1))
		}
	}
	return list
}

// P3: reduced words have as many exchanges as inversions and make up their permutations.
func TestReducedWords(t *testing.T) {
	var list [][]int64
	for n := range 7 {
		list = append(list, allPermutations(n)...)
	}
	list = append(list, manyPermutations(11, 50)...)
	list = append(list, manyPermutations(12, 50)...)
	for _, p := range list {
		word := impl.ReducedWord(p)
		is(t, "length", len(word), impl.InversionsOf(p))
		is(t, "made up", result(impl.PermutationOfWord(int64(len(p)), word)), result(p, true))
		isLeastWord(t, p, word)
	}
}

// isLeastWord checks that each exchange is the least one that is possible.
func isLeastWord(t *testing.T, p, word []int64) {
	t.Helper()
	rest := slices.Clone(p)
	for _, k := range word {
		if least := descentsByHand(rest)[0]; k != least {
			t.Fatalf("word of %v: %d instead of %d", p, k, least)
		}
		rest[k], rest[k+1] = rest[k+1], rest[k]
	}
	is(t, "sorted", rest, rising(len(p)))
}

func TestPermutationOfWord(t *testing.T) {
	is(t, "no exchanges", result(impl.PermutationOfWord(3, nil)), "[[0 1 2] true]")
	is(t, "not reduced", result(impl.PermutationOfWord(3, []int64{0, 1, 1, 1})), "[[2 0 1] true]")
	is(t, "greatest exchange", result(impl.PermutationOfWord(3, []int64{1})), "[[0 2 1] true]")
	is(t, "most exchanges", result(impl.PermutationOfWord(2, make([]int64, 200))), "[[0 1] true]")
	is(t, "odd exchanges", result(impl.PermutationOfWord(2, make([]int64, 199))), "[[1 0] true]")
	is(t, "most things", result(impl.PermutationOfWord(12, []int64{10})), "[[0 1 2 3 4 5 6 7 8 9 11 10] true]")
	is(t, "one thing", result(impl.PermutationOfWord(1, nil)), "[[0] true]")
}

func TestNoPermutationOfWord(t *testing.T) {
	words := []struct {
		n    int64
		word []int64
	}{{2, make([]int64, 201)}, {3, []int64{2}}, {3, []int64{0, -1}}, {1, []int64{0}}, {0, []int64{0}}, {0, []int64{-1}}, {1, []int64{-1}},
		{-1, nil}, {13, nil}, {12, []int64{11}}, {math.MinInt64, []int64{0}}, {math.MaxInt64, nil}, {3, []int64{math.MaxInt64}}, {3, []int64{math.MinInt64}}}
	for _, w := range words {
		if p, ok := impl.PermutationOfWord(w.n, w.word); p != nil || ok {
			t.Errorf("PermutationOfWord of %d %v: got %v %v", w.n, w.word, p, ok)
		}
	}
}

// P3: meets and joins are the greatest lower and the least upper ones.
func TestLattice(t *testing.T) {
	for n := range 5 {
		all := allPermutations(n)
		for _, a := range all {
			for _, b := range all {
				isMeetAndJoin(t, all, a, b)
			}
		}
	}
	all := allPermutations(6)
	for i := range 200 {
		isMeetAndJoin(t, all, all[i*307%len(all)], all[i*521%len(all)])
	}
}

func isMeetAndJoin(t *testing.T, all [][]int64, a, b []int64) {
	t.Helper()
	meet, one := impl.MeetPermutations(a, b)
	join, two := impl.JoinPermutations(a, b)
	if !one || !two || !slices.ContainsFunc(all, func(p []int64) bool { return slices.Equal(p, meet) }) || !slices.ContainsFunc(all, func(p []int64) bool { return slices.Equal(p, join) }) {
		t.Fatalf("%v and %v: no meet %v or no join %v", a, b, meet, join)
	}
	for _, p := range all {
		if below := isBelow(p, a) && isBelow(p, b); below != isBelow(p, meet) {
			t.Fatalf("meet of %v and %v: %v, but %v", a, b, meet, p)
		}
		if above := isBelow(a, p) && isBelow(b, p); above != isBelow(join, p) {
			t.Fatalf("join of %v and %v: %v, but %v", a, b, join, p)
		}
	}
}

// P3: the laws of a lattice hold for permutations of the greatest length, too.
func TestLatticeLaws(t *testing.T) {
	list := manyPermutations(12, 30)
	for i, a := range list {
		b, c := list[(i*7+3)%len(list)], list[(i*11+5)%len(list)]
		meet, join := meetOf(t, a, b), joinOf(t, a, b)
		bounds := isBelow(meet, a) && isBelow(meet, b) && isBelow(a, join) && isBelow(b, join)
		is(t, "bounds", bounds, true)
		is(t, "commutative meet", meetOf(t, b, a), meet)
		is(t, "commutative join", joinOf(t, b, a), join)
		is(t, "associative meet", meetOf(t, meet, c), meetOf(t, a, meetOf(t, b, c)))
		is(t, "associative join", joinOf(t, join, c), joinOf(t, a, joinOf(t, b, c)))
		is(t, "absorbed join", meetOf(t, a, join), a)
		is(t, "absorbed meet", joinOf(t, a, meet), a)
	}
}

func TestMeetsAndJoinsOfOne(t *testing.T) {
	for n := range 13 {
		for _, p := range manyPermutations(n, 10) {
			back := slices.Clone(p)
			for i := range back {
				back[i] = int64(n-1) - p[i]
			}
			is(t, "with itself", result(meetOf(t, p, p), joinOf(t, p, p)), result(p, p))
			is(t, "with the identity", result(meetOf(t, p, rising(n)), joinOf(t, rising(n), p)), result(rising(n), p))
			is(t, "with the half twist", result(meetOf(t, p, falling(n)), joinOf(t, falling(n), p)), result(p, falling(n)))
			is(t, "with its reverse", result(meetOf(t, p, back), joinOf(t, p, back)), result(rising(n), falling(n)))
		}
	}
}

func meetOf(t *testing.T, a, b []int64) []int64 {
	t.Helper()
	p, ok := impl.MeetPermutations(a, b)
	is(t, "meet", ok, true)
	return p
}

func joinOf(t *testing.T, a, b []int64) []int64 {
	t.Helper()
	p, ok := impl.JoinPermutations(a, b)
	is(t, "join", ok, true)
	return p
}

func TestRanks(t *testing.T) {
	for n := range 7 {
		all := allPermutations(n)
		for rank, p := range all {
			is(t, "rank", impl.RankOf(p), rank)
			is(t, "permutation", result(impl.PermutationAt(int64(n), int64(rank))), result(p, true))
		}
		is(t, "after the last", result(impl.PermutationAt(int64(n), int64(len(all)))), "[[] false]")
	}
	for n := 7; n < 13; n++ {
		for _, p := range manyPermutations(n, 20) {
			is(t, "back", result(impl.PermutationAt(int64(n), impl.RankOf(p))), result(p, true))
		}
	}
}

func TestNoRanks(t *testing.T) {
	for _, n := range []int64{-1, 13, math.MinInt64, math.MaxInt64} {
		is(t, "length", result(impl.PermutationAt(n, 0)), "[[] false]")
	}
	for _, rank := range []int64{-1, 6, math.MinInt64, math.MaxInt64} {
		is(t, "rank", result(impl.PermutationAt(3, rank)), "[[] false]")
	}
}
