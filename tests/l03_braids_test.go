package tests

import (
	"math"
	"slices"
	"strconv"
	"strings"
	"testing"

	"loop.example/g00856/impl"
)

// notBraids are braids that ValidBraid rejects.
func notBraids() []impl.Braid {
	return []impl.Braid{
		braid(-1), braid(13), braid(math.MinInt64), braid(math.MaxInt64), braid(-1, 1), braid(13, 1), braid(math.MinInt64, 1), braid(math.MaxInt64, 1),
		braid(0, 0), braid(0, 1), braid(0, -1), braid(1, 0), braid(1, 1), braid(1, -1),
		braid(2, 0), braid(2, 2), braid(2, -2), braid(2, 1, 1, 0), braid(3, 1, 2, 3), braid(3, -3, 1), braid(12, 12), braid(12, 1, -12),
		braid(5, math.MaxInt64), braid(5, math.MinInt64), braid(5, -math.MaxInt64), repeated(2, 1, 41), repeated(12, -11, 41), repeated(2, 1, 1000), repeated(0, 0, 41),
	}
}

func TestBraidConstants(t *testing.T) {
	is(t, "limits", result(impl.MaxStrands, impl.MaxWord, impl.MaxStack), "[12 40 4]")
}

func TestBraidExamples(t *testing.T) {
	is(t, "permutation of 1 2", impl.BraidPermutation(braid(3, 1, 2)), "[2 0 1]")
	is(t, "sizes 2 1", result(impl.DoubleBraid(braid(2, 1), []int64{2, 1})), "[{3 [2 1]} 0]")
	is(t, "sizes 1 2", result(impl.DoubleBraid(braid(2, 1), []int64{1, 2})), "[{3 [1 2]} 0]")
	is(t, "text", impl.BraidText(braid(3, 1, -2)), "3: 1 -2")
	is(t, "read", result(impl.ReadBraid("3: 1 -2")), "[{3 [1 -2]} true]")
}

func TestValidBraid(t *testing.T) {
	for n := range int64(13) {
		is(t, "no letters", result(impl.ValidBraid(braid(n)), impl.ValidBraid(impl.Braid{Strands: n, Word: []int64{}})), "[true true]")
		for letter := int64(-14); letter <= 14; letter++ {
			is(t, "letter", impl.ValidBraid(braid(n, letter)), letter != 0 && letter < n && letter > -n)
		}
	}
	is(t, "most letters", result(impl.ValidBraid(repeated(2, 1, 40)), impl.ValidBraid(repeated(12, -11, 40))), "[true true]")
	for _, b := range notBraids() {
		is(t, "no braid", impl.ValidBraid(b), false)
	}
}

func TestFunctionsOfNoBraid(t *testing.T) {
	for _, b := range notBraids() {
		is(t, "braids", result(impl.ReduceBraid(b), impl.InvertBraid(b), impl.MirrorBraid(b)), "[{0 []} {0 []} {0 []}]")
		is(t, "others", result(impl.ExponentSum(b), impl.BraidPermutation(b) == nil, impl.BraidText(b)), "[0 true ]")
		is(t, "first of two", result(impl.JoinBraids(b, braid(2, 1))), "[{0 []} 1]")
		is(t, "second of two", result(impl.JoinBraids(braid(2, 1), b)), "[{0 []} 1]")
		is(t, "both", result(impl.JoinBraids(b, b)), "[{0 []} 1]")
		for _, sizes := range [][]int64{nil, {1}, {1, 1}, {1, 1, 1}, {9, 9}, rising(12), rising(13)} {
			is(t, "doubled", result(impl.DoubleBraid(b, sizes)), "[{0 []} 1]")
		}
		for _, sides := range [][2]int64{{0, 0}, {-1, 0}, {0, 13}, {12, 12}} {
			is(t, "widened", result(impl.WidenBraid(b, sides[0], sides[1])), "[{0 []} 1]")
		}
	}
}

func TestSameBraid(t *testing.T) {
	braids := append(notBraids(), braid(0), braid(1), braid(2), braid(2, 1), braid(2, -1), braid(3, 1), braid(3, 1, 2), braid(3, 2, 1), braid(3, 1, 2, 1), braid(12, 1))
	for i, a := range braids {
		for k, b := range braids {
			copied := impl.Braid{Strands: b.Strands, Word: slices.Clone(b.Word)}
			is(t, "same", impl.SameBraid(a, copied), i == k)
		}
	}
	is(t, "nil", impl.SameBraid(braid(3), impl.Braid{Strands: 3, Word: []int64{}}), true)
	is(t, "equal as braids", impl.SameBraid(braid(3, 1, 2, 1), braid(3, 2, 1, 2)), false)
	is(t, "not reduced", impl.SameBraid(braid(3), braid(3, 1, -1)), false)
}

func TestFewStrands(t *testing.T) {
	for n := range int64(2) {
		b := braid(n)
		is(t, "braids", result(impl.ReduceBraid(b), impl.InvertBraid(b), impl.MirrorBraid(b)), result(b, b, b))
		is(t, "sum and permutation", result(impl.ExponentSum(b), impl.BraidPermutation(b)), result(0, rising(int(n))))
		is(t, "joined", result(impl.JoinBraids(b, b)), result(b, 0))
		is(t, "text", impl.BraidText(b), strconv.Itoa(int(n))+":")
		is(t, "read", result(impl.ReadBraid(strconv.Itoa(int(n))+":")), result(b, true))
	}
	for size := range int64(5) {
		is(t, "one strand", result(impl.DoubleBraid(braid(1), []int64{size})), result(braid(size), 0))
	}
	is(t, "no strands", result(impl.DoubleBraid(braid(0), nil)), "[{0 []} 0]")
	is(t, "widened", result(impl.WidenBraid(braid(0), 0, 0)), "[{0 []} 0]")
	is(t, "widened", result(impl.WidenBraid(braid(0), 7, 5)), "[{12 []} 0]")
	is(t, "different strands", result(impl.JoinBraids(braid(0), braid(1))), "[{0 []} 6]")
}

func TestMostStrandsAndLetters(t *testing.T) {
	up := braid(12, 1, 2, 3, 4, 5, 6, 7, 8, 9, 10, 11)
	is(t, "permutation", impl.BraidPermutation(up), "[11 0 1 2 3 4 5 6 7 8 9 10]")
	is(t, "mirror", impl.MirrorBraid(up), "{12 [11 10 9 8 7 6 5 4 3 2 1]}")
	is(t, "inverse", impl.InvertBraid(up), "{12 [-11 -10 -9 -8 -7 -6 -5 -4 -3 -2 -1]}")
	is(t, "text", impl.BraidText(up), "12: 1 2 3 4 5 6 7 8 9 10 11")
	long := repeated(12, -11, 40)
	is(t, "sum", impl.ExponentSum(long), -40)
	is(t, "not shorter", impl.ReduceBraid(long), long)
	is(t, "even", impl.BraidPermutation(long), rising(12))
	is(t, "mirror", impl.MirrorBraid(long), repeated(12, -1, 40))
	is(t, "inverse", impl.InvertBraid(long), repeated(12, 11, 40))
	is(t, "double", result(impl.DoubleBraid(long, slices.Repeat([]int64{1}, 12))), result(long, 0))
	is(t, "wide", result(impl.WidenBraid(long, 0, 0)), result(long, 0))
	is(t, "read", result(impl.ReadBraid("12:"+strings.Repeat(" -11", 40))), result(long, true))
	is(t, "one more", result(impl.ReadBraid("12:"+strings.Repeat(" -11", 41))), "[{0 []} false]")
}

func TestReduceBraid(t *testing.T) {
	is(t, "nested", impl.ReduceBraid(braid(4, 1, 2, -2, 3, -3, -1, 2)), "{4 [2]}")
	is(t, "at the ends", impl.ReduceBraid(braid(4, 1, 2, -1)), "{4 [1 2 -1]}")
	is(t, "odd", impl.ReduceBraid(braid(2, 1, -1, 1)), "{2 [1]}")
	is(t, "negative first", impl.ReduceBraid(braid(3, -2, 2, 1)), "{3 [1]}")
	is(t, "nothing", impl.ReduceBraid(braid(3)), "{3 []}")
	for _, b := range someBraids() {
		reduced := impl.ReduceBraid(b)
		is(t, "reduced", reduced, reducedFrom(b, firstPair))
		is(t, "other order", reduced, reducedFrom(b, lastPair))
		is(t, "again", impl.ReduceBraid(reduced), reduced)
		is(t, "strands", result(impl.BraidPermutation(reduced), impl.ExponentSum(reduced)), result(impl.BraidPermutation(b), impl.ExponentSum(b)))
	}
}

// reducedFrom removes neighbours that cancel, in the order in which choose finds them.
func reducedFrom(b impl.Braid, choose func(letters []int64) int) impl.Braid {
	letters := slices.Clone(b.Word)
	for i := choose(letters); i >= 0; i = choose(letters) {
		letters = slices.Delete(letters, i, i+2)
	}
	return impl.Braid{Strands: b.Strands, Word: letters}
}

func firstPair(letters []int64) int {
	for i := range len(letters) - 1 {
		if letters[i] == -letters[i+1] {
			return i
		}
	}
	return -1
}

func lastPair(letters []int64) int {
	for i := len(letters) - 2; i >= 0; i-- {
		if letters[i] == -letters[i+1] {
			return i
		}
	}
	return -1
}

func TestInvertBraid(t *testing.T) {
	is(t, "example", impl.InvertBraid(braid(4, 1, -2, 3)), "{4 [-3 2 -1]}")
	for _, b := range someBraids() {
		inverse := impl.InvertBraid(b)
		is(t, "back", impl.InvertBraid(inverse), b)
		is(t, "sum", impl.ExponentSum(inverse), -impl.ExponentSum(b))
		is(t, "permutation", impl.BraidPermutation(inverse), impl.InvertPermutation(impl.BraidPermutation(b)))
		is(t, "reduced", impl.ReduceBraid(inverse), impl.InvertBraid(impl.ReduceBraid(b)))
		if len(b.Word) <= 20 {
			is(t, "undone", impl.ReduceBraid(joinOfBraids(t, b, inverse)), braid(b.Strands))
			is(t, "undone", impl.ReduceBraid(joinOfBraids(t, inverse, b)), braid(b.Strands))
		}
	}
}

func TestJoinBraids(t *testing.T) {
	is(t, "order", result(impl.JoinBraids(braid(3, 1, 2), braid(3, -1))), "[{3 [1 2 -1]} 0]")
	is(t, "not reduced", result(impl.JoinBraids(braid(3, 1), braid(3, -1))), "[{3 [1 -1]} 0]")
	is(t, "different strands", result(impl.JoinBraids(braid(3, 1), braid(4, 1))), "[{0 []} 6]")
	is(t, "invalid first", result(impl.JoinBraids(braid(2, 7), braid(4))), "[{0 []} 1]")
	is(t, "strands before letters", result(impl.JoinBraids(repeated(3, 1, 40), repeated(4, 1, 40))), "[{0 []} 6]")
	is(t, "most letters", result(impl.JoinBraids(repeated(3, 1, 20), repeated(3, 2, 20))), result(impl.Braid{Strands: 3, Word: append(repeated(3, 1, 20).Word, repeated(3, 2, 20).Word...)}, 0))
	is(t, "one more", result(impl.JoinBraids(repeated(3, 1, 20), repeated(3, 1, 21))), "[{0 []} 5]")
	is(t, "one more, though they cancel", result(impl.JoinBraids(repeated(3, 1, 40), braid(3, -1))), "[{0 []} 5]")
	for _, n := range []int64{0, 1, 2, 5, 12} {
		for i, a := range manyBraids(n, 13, 10) {
			b, c := manyBraids(n, 13, 20)[i+5], manyBraids(n, 12, 20)[i+9]
			both := joinOfBraids(t, a, b)
			is(t, "associative", joinOfBraids(t, both, c), joinOfBraids(t, a, joinOfBraids(t, b, c)))
			is(t, "with nothing", result(joinOfBraids(t, a, braid(n)), joinOfBraids(t, braid(n), a)), result(a, a))
			is(t, "sum", impl.ExponentSum(both), impl.ExponentSum(a)+impl.ExponentSum(b))
			is(t, "inverse", impl.InvertBraid(both), joinOfBraids(t, impl.InvertBraid(b), impl.InvertBraid(a)))
			is(t, "mirror", impl.MirrorBraid(both), joinOfBraids(t, impl.MirrorBraid(a), impl.MirrorBraid(b)))
			permutation, ok := impl.ComposePermutations(impl.BraidPermutation(a), impl.BraidPermutation(b))
			is(t, "permutation", result(impl.BraidPermutation(both), true), result(permutation, ok))
		}
	}
}

func TestExponentSum(t *testing.T) {
	is(t, "example", impl.ExponentSum(braid(4, 1, -2, 3, 3)), 2)
	is(t, "none", impl.ExponentSum(braid(4)), 0)
	is(t, "most", result(impl.ExponentSum(repeated(5, 4, 40)), impl.ExponentSum(repeated(5, -4, 40))), "[40 -40]")
	for _, b := range someBraids() {
		total := 0
		for _, letter := range b.Word {
			if letter > 0 {
				total += 2
			}
		}
		is(t, "sum", impl.ExponentSum(b), total-len(b.Word))
	}
}

func TestBraidPermutation(t *testing.T) {
	is(t, "signs do not matter", impl.BraidPermutation(braid(3, -1, -2)), "[2 0 1]")
	is(t, "places, not strands", impl.BraidPermutation(braid(4, 1, 2, 3, 1)), "[3 1 0 2]")
	for _, b := range someBraids() {
		places := make([]int64, b.Strands)
		for i := range places {
			places[i] = placeByHand(b, int64(i))
		}
		is(t, "places", impl.BraidPermutation(b), places)
	}
}

// placeByHand follows one strand through a braid.
func placeByHand(b impl.Braid, place int64) int64 {
	for _, letter := range b.Word {
		switch max(letter, -letter) {
		case place:
			place--
		case place + 1:
			place++
		}
	}
	return place
}

func TestMirrorBraid(t *testing.T) {
	is(t, "example", impl.MirrorBraid(braid(4, 1, -2, 3)), "{4 [3 -2 1]}")
	is(t, "two strands", impl.MirrorBraid(braid(2, 1, -1)), "{2 [1 -1]}")
	for _, b := range someBraids() {
		mirror := impl.MirrorBraid(b)
		is(t, "back", impl.MirrorBraid(mirror), b)
		is(t, "sum", impl.ExponentSum(mirror), impl.ExponentSum(b))
		permutation, places := impl.BraidPermutation(b), impl.BraidPermutation(mirror)
		last := b.Strands - 1
		for i := range permutation {
			is(t, "place", places[last-int64(i)], last-permutation[i])
		}
	}
}

func TestDoubleBraid(t *testing.T) {
	doubles := []struct {
		b     impl.Braid
		sizes []int64
		want  impl.Braid
	}{
		{braid(2, 1), []int64{2, 2}, braid(4, 2, 1, 3, 2)},
		{braid(2, -1), []int64{2, 2}, braid(4, -2, -1, -3, -2)},
		{braid(2, -1), []int64{3, 1}, braid(4, -3, -2, -1)},
		{braid(2, 1), []int64{1, 3}, braid(4, 1, 2, 3)},
		{braid(2, 1, 1), []int64{2, 1}, braid(3, 2, 1, 1, 2)},
		{braid(3, 2), []int64{4, 2, 3}, braid(9, 6, 5, 7, 6, 8, 7)},
		{braid(3, -2, 1), []int64{2, 0, 2}, braid(4, 2, 1, 3, 2)},
		{braid(3, 1, 2), []int64{1, 2, 1}, braid(4, 1, 2, 3)},
	}
	for _, d := range doubles {
		is(t, "double", result(impl.DoubleBraid(d.b, d.sizes)), result(d.want, 0))
	}
}

func TestBlocksOfNoStrands(t *testing.T) {
	is(t, "all empty", result(impl.DoubleBraid(braid(3, 1, -2, 1), []int64{0, 0, 0})), "[{0 []} 0]")
	is(t, "left one empty", result(impl.DoubleBraid(braid(2, 1), []int64{0, 3})), "[{3 []} 0]")
	is(t, "right one empty", result(impl.DoubleBraid(braid(2, -1), []int64{3, 0})), "[{3 []} 0]")
	is(t, "one removed", result(impl.DoubleBraid(braid(3, 1, 2, -1), []int64{1, 0, 1})), "[{2 [1]} 0]")
	is(t, "two removed", result(impl.DoubleBraid(braid(3, 1, 2, -1), []int64{0, 1, 0})), "[{1 []} 0]")
	is(t, "long words", result(impl.DoubleBraid(repeated(2, 1, 40), []int64{4, 0})), "[{4 []} 0]")
	is(t, "most blocks", result(impl.DoubleBraid(repeated(12, 11, 40), make([]int64, 12))), "[{0 []} 0]")
}

func TestLimitsOfDoubleBraid(t *testing.T) {
	is(t, "too few sizes", result(impl.DoubleBraid(braid(2, 1), []int64{1})), "[{0 []} 1]")
	is(t, "too many sizes", result(impl.DoubleBraid(braid(2, 1), []int64{1, 1, 0})), "[{0 []} 1]")
	is(t, "no sizes", result(impl.DoubleBraid(braid(1), nil)), "[{0 []} 1]")
	is(t, "a size too many", result(impl.DoubleBraid(braid(0), []int64{0})), "[{0 []} 1]")
	is(t, "number of sizes first", result(impl.DoubleBraid(braid(2, 1), []int64{9})), "[{0 []} 1]")
	for _, size := range []int64{-1, 5, math.MinInt64, math.MaxInt64} {
		is(t, "size", result(impl.DoubleBraid(braid(2, 1), []int64{1, size})), "[{0 []} 2]")
		is(t, "size first", result(impl.DoubleBraid(braid(6), []int64{4, 4, 4, 4, 4, size})), "[{0 []} 2]")
	}
	is(t, "most strands", result(impl.DoubleBraid(braid(3), []int64{4, 4, 4})), "[{12 []} 0]")
	is(t, "one more strand", result(impl.DoubleBraid(braid(4), []int64{4, 4, 4, 1})), "[{0 []} 5]")
	is(t, "far more strands", result(impl.DoubleBraid(braid(12), slices.Repeat([]int64{4}, 12))), "[{0 []} 5]")
	is(t, "most letters", doubledLength(t, repeated(2, 1, 10), 2, 2), 40)
	is(t, "most letters", doubledLength(t, braid(3, 1, -1, 2), 4, 4, 2), 40)
	is(t, "not more letters", result(impl.DoubleBraid(repeated(4, -1, 40), []int64{1, 1, 2, 1})), result(repeated(5, -1, 40), 0))
	is(t, "one more letter", result(impl.DoubleBraid(impl.Braid{Strands: 3, Word: append(repeated(3, 1, 39).Word, 2)}, []int64{1, 1, 2})), "[{0 []} 5]")
	is(t, "two more letters", result(impl.DoubleBraid(repeated(2, 1, 11), []int64{2, 2})), "[{0 []} 5]")
	is(t, "far more letters", result(impl.DoubleBraid(repeated(2, 1, 40), []int64{4, 4})), "[{0 []} 5]")
}

func doubledLength(t *testing.T, b impl.Braid, sizes ...int64) int {
	t.Helper()
	return len(doubleOf(t, b, sizes).Word)
}

// P4: each crossing of two strands becomes one crossing of each two strands of their blocks, with the same one in front.
func TestDoubledCrossings(t *testing.T) {
	for n := int64(2); n <= 6; n++ {
		for i, b := range manyBraids(n, 6, 40) {
			sizes := someSizes(n, i)
			doubled, code := impl.DoubleBraid(b, sizes)
			if code == impl.ErrFull {
				continue
			}
			is(t, "code", code, impl.OK)
			blockOf := ownersOf(sizes)
			crossings := crossingsByHand(doubled)
			for _, c := range crossingsByHand(b) {
				count := int(sizes[c.front] * sizes[c.behind])
				isBlockCrossing(t, crossings[:count], blockOf, c)
				crossings = crossings[count:]
			}
			is(t, "crossings left", len(crossings), 0)
		}
	}
}

func isBlockCrossing(t *testing.T, list []crossing, blockOf []int64, want crossing) {
	t.Helper()
	seen := map[crossing]bool{}
	for _, c := range list {
		seen[c] = true
		is(t, "blocks", crossing{blockOf[c.front], blockOf[c.behind], c.sign}, want)
	}
	is(t, "different crossings", len(seen), len(list))
}

// crossing tells which strands cross, numbered by their places before the braid.
type crossing struct{ front, behind, sign int64 }

func crossingsByHand(b impl.Braid) []crossing {
	row := rising(int(b.Strands))
	var list []crossing
	for _, letter := range b.Word {
		k := max(letter, -letter)
		left, right := row[k-1], row[k]
		if letter > 0 {
			list = append(list, crossing{left, right, 1})
		} else {
			list = append(list, crossing{right, left, -1})
		}
		row[k-1], row[k] = right, left
	}
	return list
}

func ownersOf(sizes []int64) []int64 {
	var list []int64
	for i, size := range sizes {
		list = append(list, slices.Repeat([]int64{int64(i)}, int(size))...)
	}
	return list
}

func someSizes(n int64, seed int) []int64 {
	sizes := make([]int64, n)
	for i := range sizes {
		sizes[i] = int64((seed*(i+3) + i) % 5)
	}
	return sizes
}

// P4: doubling agrees with joining, inverting, reducing and mirroring.
func TestDoublesAreConsistent(t *testing.T) {
	sizes := [][]int64{{2, 1, 1, 0}, {1, 1, 1, 1}, {0, 3, 1, 1}, {1, 2, 0, 2}, {0, 0, 4, 1}, {0, 1, 0, 1}}
	for i, a := range manyBraids(4, 4, 30) {
		b := manyBraids(4, 4, 60)[i+20]
		size := sizes[i%len(sizes)]
		after := make([]int64, 4)
		for k, place := range impl.BraidPermutation(a) {
			after[place] = size[k]
		}
		doubled := doubleOf(t, a, size)
		is(t, "joined", doubleOf(t, joinOfBraids(t, a, b), size), joinOfBraids(t, doubled, doubleOf(t, b, after)))
		isEqualAsBraid(t, "inverted", doubleOf(t, impl.InvertBraid(a), after), impl.InvertBraid(doubled))
		isEqualAsBraid(t, "reduced", doubleOf(t, impl.ReduceBraid(a), size), doubled)
		isEqualAsBraid(t, "mirrored", doubleOf(t, impl.MirrorBraid(a), fromBehind(size)), impl.MirrorBraid(doubled))
	}
	for _, b := range someBraids() {
		is(t, "ones", doubleOf(t, b, slices.Repeat([]int64{1}, int(b.Strands))), b)
		is(t, "noughts", doubleOf(t, b, make([]int64, b.Strands)), braid(0))
	}
}

// P4: words that are equal as braids stay so when they are doubled.
func TestDoublesOfEqualBraids(t *testing.T) {
	for i := range 125 {
		sizes := []int64{int64(i) % 5 % 3, int64(i) / 5 % 5 % 3, int64(i) / 25 % 3}
		isEqualAsBraid(t, "both ways", doubleOf(t, braid(3, 1, 2, 1), sizes), doubleOf(t, braid(3, 2, 1, 2), sizes))
		isEqualAsBraid(t, "both ways", doubleOf(t, braid(3, -1, -2, -1), sizes), doubleOf(t, braid(3, -2, -1, -2), sizes))
		isEqualAsBraid(t, "both ways", doubleOf(t, braid(3, 1, 2, -1), sizes), doubleOf(t, braid(3, -2, 1, 2), sizes))
		four := append(sizes, int64(i)%3)
		isEqualAsBraid(t, "far", doubleOf(t, braid(4, 1, -3), four), doubleOf(t, braid(4, -3, 1), four))
	}
}

func fromBehind(list []int64) []int64 {
	copied := slices.Clone(list)
	slices.Reverse(copied)
	return copied
}

func TestWidenBraid(t *testing.T) {
	is(t, "both sides", result(impl.WidenBraid(braid(3, 1, -2), 2, 1)), "[{6 [3 -4]} 0]")
	is(t, "left", result(impl.WidenBraid(braid(2, -1), 10, 0)), "[{12 [-11]} 0]")
	is(t, "right", result(impl.WidenBraid(braid(2, -1), 0, 10)), "[{12 [-1]} 0]")
	is(t, "left, no strands", result(impl.WidenBraid(braid(0), 12, 0)), "[{12 []} 0]")
	is(t, "right, no strands", result(impl.WidenBraid(braid(0), 0, 12)), "[{12 []} 0]")
	for _, n := range []int64{-1, 13, math.MinInt64, math.MaxInt64} {
		is(t, "left", result(impl.WidenBraid(braid(3), n, 0)), "[{0 []} 2]")
		is(t, "right", result(impl.WidenBraid(braid(3), 0, n)), "[{0 []} 2]")
		is(t, "range first", result(impl.WidenBraid(braid(12), 12, n)), "[{0 []} 2]")
	}
	for left := range int64(13) {
		for right := range int64(13) {
			got, code := impl.WidenBraid(braid(3, 1, 2, -1), left, right)
			if left+right > 9 {
				is(t, "too many", result(got, code), "[{0 []} 5]")
				continue
			}
			is(t, "widened", result(got, code), result(braid(left+3+right, left+1, left+2, -left-1), 0))
		}
	}
}

// P4: the strands that are added stay where they are, and the others do what they did.
func TestWidenedBraids(t *testing.T) {
	for _, n := range []int64{0, 1, 2, 5, 9} {
		for _, b := range manyBraids(n, 40, 10) {
			got, code := impl.WidenBraid(b, 2, 1)
			want := []int64{0, 1}
			for _, place := range impl.BraidPermutation(b) {
				want = append(want, place+2)
			}
			is(t, "widened", result(impl.BraidPermutation(got), code), result(append(want, n+2), 0))
			is(t, "sum", impl.ExponentSum(got), impl.ExponentSum(b))
			turned, code := impl.WidenBraid(impl.MirrorBraid(b), 1, 2)
			is(t, "mirror", result(impl.MirrorBraid(got), 0), result(turned, code))
		}
	}
}

func TestTextsOfBraids(t *testing.T) {
	is(t, "no strands", impl.BraidText(braid(0)), "0:")
	is(t, "most digits", impl.BraidText(braid(12, -10, 11)), "12: -10 11")
	for _, b := range someBraids() {
		text := strconv.Itoa(int(b.Strands)) + ":"
		for _, letter := range b.Word {
			text += " " + strconv.Itoa(int(letter))
		}
		is(t, "text", impl.BraidText(b), text)
		is(t, "back", result(impl.ReadBraid(text)), result(b, true))
	}
}

func TestOnlyTextsOfBraidsAreRead(t *testing.T) {
	texts := []string{"", ":", "3", "3: ", "3 :", "3:1", "3: 3", "3: 0", "3: -0", "3: 01", "3: +1", "3: 1 ", "3:  1", "3: 1  2", "3: 1,2", "3: 1\t2", "3:\t1", "3:\n1", "3: 1\n", "3: 1 x", "3: --1", "3: - 1",
		"13:", "-1:", "-0:", "00:", "01:", "03: 1", "+3: 1", " 3:", "x:", "3:: 1", "3: 1:", "0: 1", "1: 1", ": 1", "2: 2", "2: -2", "2: 9223372036854775807", "2: -9223372036854775808", "18446744073709551618: 1", "2: 1\x00", "2：1",
		"2:" + strings.Repeat(" 1", 41), "2:" + strings.Repeat(" 1", 50000), strings.Repeat("2", 50000) + ":", strings.Repeat(":", 50000), "2:" + strings.Repeat(" ", 50000)}
	for _, s := range texts {
		is(t, strconv.Quote(s[:min(len(s), 20)]), result(impl.ReadBraid(s)), "[{0 []} false]")
	}
	is(t, "most letters", result(impl.ReadBraid("2:"+strings.Repeat(" 1", 40))), result(repeated(2, 1, 40), true))
}

// P4: a text is read exactly if it is the text of what is read.
func TestShortTextsOfBraids(t *testing.T) {
	known := map[string]impl.Braid{}
	for n := range int64(13) {
		head := strconv.Itoa(int(n)) + ":"
		known[head] = braid(n)
		for k := int64(1); k < n; k++ {
			known[head+" "+strconv.Itoa(int(k))] = braid(n, k)
			known[head+" -"+strconv.Itoa(int(k))] = braid(n, -k)
		}
	}
	for _, s := range textsOver("0123-: ", 5) {
		want, ok := known[s]
		is(t, strconv.Quote(s), result(impl.ReadBraid(s)), result(want, ok))
	}
}
