package impl

import (
	"cmp"
	"math/bits"
	"slices"
)

// Limits of permutations.
const (
	MaxPermutation = 12
	MaxExchanges   = 200
)

// pairSet is a set of pairs of things i < j; bit j of row i stands for the pair i, j.
// The inversions of a permutation are such a set, in which the lattice is computed.
type pairSet [MaxPermutation]uint16

func inversionPairs(p []int64) pairSet {
	var s pairSet
	for i := range p {
		for j := i + 1; j < len(p); j++ {
			if p[i] > p[j] {
				s[i] |= 1 << j
			}
		}
	}
	return s
}

func (s pairSet) has(i, j int64) bool { return s[i]>>j&1 == 1 }

func (s pairSet) size() int64 {
	n := 0
	for _, row := range s {
		n += bits.OnesCount16(row)
	}
	return int64(n)
}

func (s pairSet) union(t pairSet) pairSet {
	for i := range s {
		s[i] |= t[i]
	}
	return s
}

// closed adds the pair i, k for each i, j and j, k: whoever passes a thing that passes a third one passes that, too.
func (s pairSet) closed() pairSet {
	for j := range s {
		for i := range j {
			if s.has(int64(i), int64(j)) {
				s[i] |= s[j]
			}
		}
	}
	return s
}

func (s pairSet) compare(a, b int64) int {
	if s.has(min(a, b), max(a, b)) {
		return cmp.Compare(b, a)
	}
	return cmp.Compare(a, b)
}

// permutation returns the permutation of n things with the inversions s.
func (s pairSet) permutation(n int) []int64 {
	things := identity(n)
	slices.SortFunc(things, func(a, b int64) int { return s.compare(a, b) })
	return inverse(things)
}

func identity(n int) []int64 {
	p := make([]int64, n)
	for i := range p {
		p[i] = int64(i)
	}
	return p
}

func inverse(p []int64) []int64 {
	q := make([]int64, len(p))
	for i, place := range p {
		q[place] = int64(i)
	}
	return q
}

// reversed turns the inversions of p into pairs that keep their order, and the other way round.
func reversed(p []int64) []int64 {
	q := make([]int64, len(p))
	for i, place := range p {
		q[i] = int64(len(p)-1) - place
	}
	return q
}

// ValidPermutation reports whether p is a permutation.
func ValidPermutation(p []int64) bool {
	if len(p) > MaxPermutation {
		return false
	}
	var seen [MaxPermutation]bool
	for _, place := range p {
		if !within(place, 0, int64(len(p)-1)) || seen[place] {
			return false
		}
		seen[place] = true
	}
	return true
}

func permutationsOfSameLength(a, b []int64) bool {
	return len(a) == len(b) && ValidPermutation(a) && ValidPermutation(b)
}

// IdentityPermutation returns the permutation of n things that moves nothing.
func IdentityPermutation(n int64) ([]int64, bool) {
	if !within(n, 0, MaxPermutation) {
		return nil, false
	}
	return identity(int(n)), true
}

// ComposePermutations returns the permutation that is equal to one permutation and then another one.
func ComposePermutations(first, second []int64) ([]int64, bool) {
	if !permutationsOfSameLength(first, second) {
		return nil, false
	}
	return composed(first, second), true
}

func composed(first, second []int64) []int64 {
	p := make([]int64, len(first))
	for i, place := range first {
		p[i] = second[place]
	}
	return p
}

// InvertPermutation returns the permutation that undoes p.
func InvertPermutation(p []int64) []int64 {
	if !ValidPermutation(p) {
		return nil
	}
	return inverse(p)
}

// InversionsOf returns the number of pairs that change their order.
func InversionsOf(p []int64) int64 {
	if !ValidPermutation(p) {
		return -1
	}
	return inversionPairs(p).size()
}

// DescentsOf returns the places of neighbours that change their order.
func DescentsOf(p []int64) []int64 {
	if !ValidPermutation(p) {
		return nil
	}
	return descents(p)
}

func descents(p []int64) []int64 {
	list := []int64{}
	for i := range len(p) - 1 {
		if p[i] > p[i+1] {
			list = append(list, int64(i))
		}
	}
	return list
}

// ReducedWord returns the exchanges of neighbours that make up a permutation.
func ReducedWord(p []int64) []int64 {
	if !ValidPermutation(p) {
		return nil
	}
	rest := slices.Clone(p)
	word := []int64{}
	for list := descents(rest); len(list) > 0; list = descents(rest) {
		exchange(rest, list[0])
		word = append(word, list[0])
	}
	return word
}

func exchange(things []int64, k int64) {
	things[k], things[k+1] = things[k+1], things[k]
}

// PermutationOfWord returns the permutation that exchanges of neighbours make up.
func PermutationOfWord(n int64, word []int64) ([]int64, bool) {
	if !within(n, 0, MaxPermutation) || len(word) > MaxExchanges {
		return nil, false
	}
	things := identity(int(n))
	for _, k := range word {
		if !within(k, 0, n-2) {
			return nil, false
		}
		exchange(things, k)
	}
	return inverse(things), true
}

// MeetPermutations returns the greatest permutation that is below both.
func MeetPermutations(a, b []int64) ([]int64, bool) {
	if !permutationsOfSameLength(a, b) {
		return nil, false
	}
	return meet(a, b), true
}

func meet(a, b []int64) []int64 { return reversed(join(reversed(a), reversed(b))) }

// JoinPermutations returns the least permutation that is above both.
func JoinPermutations(a, b []int64) ([]int64, bool) {
	if !permutationsOfSameLength(a, b) {
		return nil, false
	}
	return join(a, b), true
}

func join(a, b []int64) []int64 {
	return inversionPairs(a).union(inversionPairs(b)).closed().permutation(len(a))
}

// RankOf returns the number of a permutation in lexicographic order.
func RankOf(p []int64) int64 {
	if !ValidPermutation(p) {
		return -1
	}
	// Row i counts the smaller numbers that could have stood in place of p[i]: a digit of the rank in base len(p) - i.
	pairs := inversionPairs(p)
	rank := 0
	for i := range p {
		rank = rank*(len(p)-i) + bits.OnesCount16(pairs[i])
	}
	return int64(rank)
}

// PermutationAt returns the permutation with a number in lexicographic order.
func PermutationAt(n, rank int64) ([]int64, bool) {
	if !within(n, 0, MaxPermutation) || !within(rank, 0, factorial(n)-1) {
		return nil, false
	}
	unused := identity(int(n))
	p := make([]int64, 0, n)
	for left := n; left > 0; left-- {
		block := factorial(left - 1)
		k := int(rank / block)
		rank %= block
		p = append(p, unused[k])
		unused = slices.Delete(unused, k, k+1)
	}
	return p, true
}

func factorial(n int64) int64 {
	f := int64(1)
	for i := range n {
		f *= i + 1
	}
	return f
}
