package tests

import (
	"fmt"
	"math"
	"slices"
	"testing"

	"loop.example/g00856/impl"
)

func normal(strands, power int64, factors ...[]int64) impl.NormalBraid {
	return impl.NormalBraid{Strands: strands, Power: power, Factors: factors}
}

func normalFormOf(t *testing.T, b impl.Braid) impl.NormalBraid {
	t.Helper()
	n, ok := impl.NormalForm(b)
	is(t, fmt.Sprint("NormalForm of ", b), ok, true)
	return n
}

// sortingLetters returns a word for a permutation, made by exchanging the last neighbours that are out of order.
func sortingLetters(p []int64) []int64 {
	rest := slices.Clone(p)
	letters := []int64{}
	for k := len(rest) - 1; k > 0; {
		if rest[k-1] > rest[k] {
			rest[k-1], rest[k] = rest[k], rest[k-1]
			letters = append(letters, int64(k))
			k = len(rest) - 1
		} else {
			k--
		}
	}
	return letters
}

// wordByHand returns the braid that a normal form stands for; it may have more than MaxWord letters.
func wordByHand(n impl.NormalBraid) impl.Braid {
	twist := sortingLetters(falling(int(n.Strands)))
	if n.Power < 0 {
		slices.Reverse(twist)
		for i := range twist {
			twist[i] = -twist[i]
		}
	}
	b := braid(n.Strands, slices.Repeat(twist, int(max(n.Power, -n.Power)))...)
	for _, p := range n.Factors {
		b.Word = append(b.Word, sortingLetters(p)...)
	}
	return b
}

// startsByHand returns the places of the exchanges that leave fewer inversions.
func startsByHand(p []int64) []int64 {
	letters := []int64{}
	for k := 1; k < len(p); k++ {
		q := slices.Clone(p)
		q[k-1], q[k] = q[k], q[k-1]
		if len(inversionsByHand(q)) < len(inversionsByHand(p)) {
			letters = append(letters, int64(k))
		}
	}
	return letters
}

func inverseByHand(p []int64) []int64 {
	q := make([]int64, len(p))
	for i, place := range p {
		q[place] = int64(i)
	}
	return q
}

func isLeftWeightedByHand(p, q []int64) bool {
	for _, k := range startsByHand(q) {
		if !slices.Contains(startsByHand(inverseByHand(p)), k) {
			return false
		}
	}
	return true
}

// somePermutations returns all permutations of few things, and some of each greater number of things.
func somePermutations() [][]int64 {
	var list [][]int64
	for n := range 13 {
		if n <= 5 {
			list = append(list, allPermutations(n)...)
		} else {
			list = append(list, manyPermutations(n, 20)...)
		}
	}
	return list
}

func TestHalfTwist(t *testing.T) {
	for n := range 13 {
		is(t, "HalfTwist", impl.HalfTwist(int64(n)), falling(n))
	}
	for _, n := range []int64{math.MinInt64, -1, 13, math.MaxInt64} {
		is(t, "HalfTwist", impl.HalfTwist(n) == nil, true)
	}
}

func TestStartAndFinishLetters(t *testing.T) {
	for _, p := range somePermutations() {
		is(t, fmt.Sprint("StartLetters of ", p), impl.StartLetters(p), startsByHand(p))
		is(t, fmt.Sprint("FinishLetters of ", p), impl.FinishLetters(p), startsByHand(inverseByHand(p)))
	}
	is(t, "of the half twist", result(impl.StartLetters(falling(12)), impl.FinishLetters(falling(12))), "[[1 2 3 4 5 6 7 8 9 10 11] [1 2 3 4 5 6 7 8 9 10 11]]")
	is(t, "of the identity", result(impl.StartLetters(rising(12)), impl.FinishLetters(rising(12))), "[[] []]")
	for _, p := range notPermutations() {
		is(t, fmt.Sprint("not a permutation: ", p), result(impl.StartLetters(p) == nil, impl.FinishLetters(p) == nil), "[true true]")
	}
}

func TestFlipPermutation(t *testing.T) {
	for _, p := range somePermutations() {
		n := int64(len(p))
		flipped := impl.FlipPermutation(p)
		is(t, "length", len(flipped), n)
		for i, place := range flipped {
			is(t, fmt.Sprint("FlipPermutation of ", p), place, n-1-p[n-1-int64(i)])
		}
		is(t, "flipped twice", impl.FlipPermutation(flipped), p)
		letters := sortingLetters(p)
		turned := impl.MirrorBraid(braid(n, letters[:min(len(letters), 40)]...))
		if len(letters) <= 40 {
			is(t, "turned", flipped, impl.BraidPermutation(turned))
		}
	}
	for _, p := range notPermutations() {
		is(t, fmt.Sprint("not a permutation: ", p), impl.FlipPermutation(p) == nil, true)
	}
}

func TestPermutationBraid(t *testing.T) {
	for _, p := range somePermutations() {
		name := fmt.Sprint("PermutationBraid of ", p)
		b, code := impl.PermutationBraid(p)
		if len(inversionsByHand(p)) > impl.MaxWord {
			is(t, name, result(b, code), result(impl.Braid{}, impl.ErrFull))
			continue
		}
		is(t, name, result(code, b.Strands, len(b.Word)), result(impl.OK, len(p), len(inversionsByHand(p))))
		is(t, name, impl.BraidPermutation(b), p)
		rest := slices.Clone(p)
		for _, letter := range b.Word {
			is(t, name, letter, startsByHand(rest)[0])
			rest[letter-1], rest[letter] = rest[letter], rest[letter-1]
		}
		isEqualAsBraid(t, name, b, braid(int64(len(p)), sortingLetters(p)...))
	}
	for _, p := range notPermutations() {
		is(t, fmt.Sprint("not a permutation: ", p), result(impl.PermutationBraid(p)), result(impl.Braid{}, impl.ErrInvalid))
	}
}

// The half twist of ten strands without five crossings at its end has exactly MaxWord letters.
func TestLongestPermutationBraids(t *testing.T) {
	p := []int64{9, 8, 7, 6, 0, 5, 4, 3, 2, 1}
	is(t, "inversions", len(inversionsByHand(p)), 40)
	b, code := impl.PermutationBraid(p)
	is(t, "MaxWord letters", result(len(b.Word), code), result(impl.MaxWord, impl.OK))
	p = []int64{9, 8, 7, 6, 1, 5, 4, 3, 2, 0}
	is(t, "inversions", len(inversionsByHand(p)), 41)
	is(t, "one letter more", result(impl.PermutationBraid(p)), result(impl.Braid{}, impl.ErrFull))
	is(t, "twelve strands", result(impl.PermutationBraid(falling(12))), result(impl.Braid{}, impl.ErrFull))
}

func TestExamplesOfGarside(t *testing.T) {
	is(t, "half twist", result(impl.PermutationBraid(impl.HalfTwist(3))), "[{3 [1 2 1]} 0]")
	is(t, "normal form", result(impl.NormalForm(braid(3, 1, -2))), "[{3 -1 [[0 2 1] [1 2 0]]} true]")
}

func TestLeftWeighted(t *testing.T) {
	for n := range 5 {
		for _, p := range allPermutations(n) {
			for _, q := range allPermutations(n) {
				is(t, fmt.Sprint("LeftWeighted of ", p, q), impl.LeftWeighted(p, q), isLeftWeightedByHand(p, q))
			}
		}
	}
	for _, p := range manyPermutations(12, 40) {
		for _, q := range manyPermutations(12, 40) {
			is(t, fmt.Sprint("LeftWeighted of ", p, q), impl.LeftWeighted(p, q), isLeftWeightedByHand(p, q))
		}
		is(t, "after the half twist", impl.LeftWeighted(falling(12), p), true)
		is(t, "before the identity", impl.LeftWeighted(p, rising(12)), true)
	}
}

func TestNotLeftWeighted(t *testing.T) {
	is(t, "other places", result(impl.LeftWeighted(falling(3), rising(2)), impl.LeftWeighted(falling(2), rising(3)), impl.LeftWeighted(nil, rising(1))), "[false false false]")
	for _, p := range notPermutations() {
		q := rising(len(p))
		is(t, fmt.Sprint("not a permutation: ", p), result(impl.LeftWeighted(p, q), impl.LeftWeighted(q, p), impl.LeftWeighted(p, p)), "[false false false]")
	}
}

// notNormals returns normal forms that are not valid.
func notNormals() []impl.NormalBraid {
	list := []impl.NormalBraid{
		normal(-1, 0), normal(13, 0), normal(math.MinInt64, 0), normal(math.MaxInt64, 0),
		normal(3, 101), normal(3, -101), normal(3, math.MinInt64), normal(3, math.MaxInt64),
		normal(0, 1), normal(0, -1), normal(1, 1), normal(1, -1),
		normal(0, 0, []int64{}), normal(0, 0, nil), normal(1, 0, []int64{0}), normal(1, 0, nil),
		normal(2, 0, []int64{0, 1}), normal(2, 0, []int64{1, 0}), normal(2, 0, nil),
		normal(3, 0, rising(3)), normal(3, 0, falling(3)), normal(12, 0, rising(12)), normal(12, 0, falling(12)),
		normal(3, 0, []int64{1, 0}), normal(3, 0, []int64{1, 0, 2, 3}), normal(3, 0, []int64{0, 1, 3}), normal(3, 0, []int64{0, 2, 2}),
		normal(3, 0, []int64{0, 2, 1}, []int64{1, 0, 2}), normal(3, 0, []int64{1, 0, 2}, []int64{0, 2, 1}),
		normal(3, 0, []int64{1, 0, 2}, rising(3)), normal(3, 0, falling(3), []int64{1, 0, 2}), normal(3, 0, []int64{1, 0, 2}, nil),
		normal(3, 0, slices.Repeat([][]int64{{1, 0, 2}}, 101)...),
		normal(3, 0, append(slices.Repeat([][]int64{{1, 0, 2}}, 99), []int64{0, 2, 1})...),
	}
	for _, p := range notPermutations() {
		list = append(list, normal(int64(len(p)), 0, p), normal(3, 0, []int64{1, 0, 2}, p))
	}
	return list
}

// someNormals returns valid normal forms that the document defines, made without the program.
func someNormals() []impl.NormalBraid {
	list := []impl.NormalBraid{
		normal(0, 0), normal(1, 0), normal(2, 0), normal(2, 1), normal(2, -1), normal(2, 100), normal(2, -100),
		normal(3, 100), normal(3, -100), normal(12, 100), normal(12, -100),
		normal(3, 0, slices.Repeat([][]int64{{1, 0, 2}}, 100)...),
		normal(12, -3, slices.Repeat([][]int64{append([]int64{1, 0}, rising(12)[2:]...)}, 100)...),
	}
	for power := int64(-3); power <= 3; power++ {
		list = append(list, normal(3, power), normal(3, power, []int64{1, 2, 0}), normal(3, power, []int64{0, 2, 1}, []int64{1, 2, 0}))
		list = append(list, normal(4, power, []int64{1, 0, 3, 2}, []int64{0, 1, 3, 2}), normal(4, power, []int64{0, 3, 2, 1}, []int64{0, 1, 3, 2}))
	}
	return list
}

func TestValidNormal(t *testing.T) {
	for _, n := range someNormals() {
		is(t, fmt.Sprint("ValidNormal of ", n), impl.ValidNormal(n), true)
	}
	for _, n := range notNormals() {
		is(t, fmt.Sprint("ValidNormal of ", n), impl.ValidNormal(n), false)
	}
}

// Two factors are valid exactly if both are, and they are left-weighted.
func TestValidPairs(t *testing.T) {
	for n := range 5 {
		for _, p := range allPermutations(n) {
			plain := func(q []int64) bool { return !slices.Equal(q, rising(n)) && !slices.Equal(q, falling(n)) }
			is(t, fmt.Sprint("one factor ", p), impl.ValidNormal(normal(int64(n), 0, p)), plain(p))
			for _, q := range allPermutations(n) {
				is(t, fmt.Sprint("two factors ", p, q), impl.ValidNormal(normal(int64(n), 7, p, q)), plain(p) && plain(q) && isLeftWeightedByHand(p, q))
			}
		}
	}
}

func TestSameNormal(t *testing.T) {
	list := append(someNormals(), notNormals()...)
	for _, a := range list {
		for _, b := range list {
			is(t, fmt.Sprint("SameNormal of ", a, b), impl.SameNormal(a, b), fmt.Sprint(a) == fmt.Sprint(b))
		}
	}
	is(t, "nil and empty", result(impl.SameNormal(normal(3, 0), normal(3, 0, [][]int64{}...)), impl.SameNormal(normal(0, 0, nil), normal(0, 0, []int64{})), impl.SameNormal(normal(0, 0, nil), normal(0, 0))), "[true true false]")
}

// P5: the normal form is valid, and stands for the braid.
func TestNormalFormsStandForTheirBraids(t *testing.T) {
	for _, b := range someBraids() {
		n := normalFormOf(t, b)
		is(t, fmt.Sprint("valid form of ", b), impl.ValidNormal(n), true)
		if len(b.Word) <= 12 {
			isEqualAsBraid(t, "normal form", b, wordByHand(n))
		}
	}
}

func TestNormalFormOfInvalidBraids(t *testing.T) {
	for _, b := range notBraids() {
		is(t, fmt.Sprint("NormalForm of ", b), result(impl.NormalForm(b)), result(impl.NormalBraid{}, false))
	}
}

func TestNormalFormsOfFewStrands(t *testing.T) {
	is(t, "no strands", result(impl.NormalForm(braid(0))), "[{0 0 []} true]")
	is(t, "one strand", result(impl.NormalForm(braid(1))), "[{1 0 []} true]")
	for count := range 41 {
		is(t, "two strands", result(impl.NormalForm(repeated(2, 1, count))), result(normal(2, int64(count)), true))
		is(t, "two strands", result(impl.NormalForm(repeated(2, -1, count))), result(normal(2, -int64(count)), true))
	}
	is(t, "both signs", result(impl.NormalForm(braid(2, 1, -1, -1, 1, 1, -1, -1))), "[{2 -1 []} true]")
	is(t, "the most strands", result(impl.NormalForm(braid(12, 11))), "[{12 0 [[0 1 2 3 4 5 6 7 8 9 11 10]]} true]")
	is(t, "one strand more", result(impl.NormalForm(braid(13, 11))), "[{0 0 []} false]")
}

// Factors become trivial or the half twist when letters cancel or complete a half twist.
func TestFactorsThatVanish(t *testing.T) {
	is(t, "half twist", normalFormOf(t, braid(3, 1, 2, 1)), "{3 1 []}")
	is(t, "half twist of other letters", normalFormOf(t, braid(3, 2, 1, 2)), "{3 1 []}")
	is(t, "inverse half twist", normalFormOf(t, braid(3, -1, -2, -1)), "{3 -1 []}")
	is(t, "half twist and its inverse", normalFormOf(t, braid(3, 2, 1, 2, -1, -2, -1)), "{3 0 []}")
	is(t, "full twists", normalFormOf(t, braid(3, slices.Repeat([]int64{1, 2}, 20)...)), "{3 13 [[0 2 1]]}")
	is(t, "negative full twists", normalFormOf(t, braid(3, slices.Repeat([]int64{-1, -2}, 18)...)), "{3 -12 []}")
	is(t, "a letter before half twists", normalFormOf(t, braid(3, 1, 1, 2, 1)), "{3 1 [[0 2 1]]}")
	is(t, "half twists around a letter", normalFormOf(t, braid(4, 1, 2, 1, 3, 2, 1, 1, -1, -2, -3, -1, -2, -1)), "{4 0 [[0 1 3 2]]}")
	is(t, "a letter and its inverse", normalFormOf(t, braid(12, 11, 3, -11, -3)), "{12 0 []}")
	for n := int64(2); n <= 9; n++ {
		twist, _ := impl.PermutationBraid(impl.HalfTwist(n))
		is(t, "half twist", normalFormOf(t, twist), normal(n, 1))
		is(t, "inverse half twist", normalFormOf(t, impl.InvertBraid(twist)), normal(n, -1))
	}
}

// allWords returns all words with at most length letters.
func allWords(strands int64, length int) []impl.Braid {
	list := []impl.Braid{braid(strands)}
	for i := 0; i < len(list); i++ {
		if len(list[i].Word) == length {
			continue
		}
		for k := 1 - strands; k < strands; k++ {
			if k != 0 {
				list = append(list, braid(strands, append(slices.Clone(list[i].Word), k)...))
			}
		}
	}
	return list
}

// P5: words have one form exactly if they act in the same way on the free group.
func TestOneFormForEachBraid(t *testing.T) {
	for _, words := range [][]impl.Braid{allWords(2, 7), allWords(3, 5), allWords(4, 3)} {
		formOf, actionOf := map[string]string{}, map[string]string{}
		for _, b := range words {
			form, action := fmt.Sprint(normalFormOf(t, b)), fmt.Sprint(actionByHand(b))
			if other, seen := formOf[action]; seen && other != form {
				t.Errorf("%v is equal as a braid to one with the form %s, and has the form %s", b, other, form)
			}
			if other, seen := actionOf[form]; seen && other != action {
				t.Errorf("%v has the form of another braid, %s", b, form)
			}
			formOf[action], actionOf[form] = form, action
			is(t, fmt.Sprint("IsTrivial of ", b), impl.IsTrivial(b), action == fmt.Sprint(actionByHand(braid(b.Strands))))
		}
	}
}

func TestEqualBraidsOfShortWords(t *testing.T) {
	for _, words := range [][]impl.Braid{allWords(2, 3), allWords(3, 3), allWords(4, 2)} {
		for _, a := range words {
			for _, b := range words {
				equal := fmt.Sprint(actionByHand(a)) == fmt.Sprint(actionByHand(b))
				is(t, fmt.Sprint("EqualBraids of ", a, b), impl.EqualBraids(a, b), equal)
			}
		}
	}
}

// changedByRelations returns the braid after changes of its word at places that a fixed rule shuffles.
func changedByRelations(b impl.Braid, changes int) impl.Braid {
	word := slices.Clone(b.Word)
	state := uint64(len(word))
	next := func(n int) int {
		state = state*6364136223846793005 + 1442695040888963407
		return int(state>>33) % n
	}
	for range changes {
		i := next(len(word) + 1)
		switch {
		case i+2 <= len(word) && word[i] == -word[i+1]:
			word = slices.Delete(word, i, i+2)
		case len(word)+2 <= impl.MaxWord && b.Strands > 1 && next(3) == 0:
			x := int64(next(int(b.Strands)-1) + 1)
			if next(2) == 0 {
				x = -x
			}
			word = slices.Insert(word, i, x, -x)
		case i+2 <= len(word) && isFar(word[i], word[i+1]):
			word[i], word[i+1] = word[i+1], word[i]
		case i+3 <= len(word) && isTriple(word[i], word[i+1], word[i+2]):
			word[i], word[i+1], word[i+2] = word[i+1], word[i], word[i+1]
		}
	}
	return braid(b.Strands, word...)
}

func numberOf(letter int64) int64 { return max(letter, -letter) }

func isFar(x, y int64) bool {
	difference := numberOf(x) - numberOf(y)
	return difference > 1 || difference < -1
}

func isTriple(x, y, z int64) bool { return x == z && x > 0 && y > 0 && (x-y == 1 || y-x == 1) }

// P5: changes of words by relations do not change the form, also of words of MaxWord letters.
func TestRelationsKeepTheForm(t *testing.T) {
	for n := int64(2); n <= impl.MaxStrands; n++ {
		words := manyBraids(n, 40, 12)
		twist := sortingLetters(falling(int(min(n, 9))))
		words = append(words, repeated(n, 1, 40), repeated(n, 1-n, 40), braid(n, twist...))
		for _, b := range words {
			changed := changedByRelations(b, 400)
			is(t, fmt.Sprint("form of ", changed), normalFormOf(t, changed), normalFormOf(t, b))
			is(t, fmt.Sprint("EqualBraids of ", b, changed), impl.EqualBraids(b, changed), true)
		}
	}
}

func TestEqualWordsOfMaxWordLetters(t *testing.T) {
	for _, pair := range [][2]impl.Braid{
		{braid(3, append([]int64{1, 2, 1}, slices.Repeat([]int64{2}, 37)...)...), braid(3, append(slices.Repeat([]int64{1}, 37), 1, 2, 1)...)},
		{braid(12, slices.Repeat([]int64{1, 11}, 20)...), braid(12, append(slices.Repeat([]int64{11}, 20), slices.Repeat([]int64{1}, 20)...)...)},
		{braid(2, slices.Repeat([]int64{1, -1}, 20)...), braid(2)},
	} {
		is(t, fmt.Sprint("EqualBraids of ", pair), impl.EqualBraids(pair[0], pair[1]), true)
	}
	a, b := repeated(12, 11, 40), repeated(12, 11, 39)
	is(t, "one letter more", impl.EqualBraids(a, b), false)
	b.Word = append(b.Word, 10)
	is(t, "another last letter", impl.EqualBraids(a, b), false)
	is(t, "more than MaxWord letters", impl.EqualBraids(repeated(3, 1, 41), repeated(3, 1, 41)), false)
}

func TestDifferentBraids(t *testing.T) {
	for _, pair := range [][2]impl.Braid{
		{braid(2), braid(3)}, {braid(0), braid(1)}, {braid(2, 1), braid(3, 1)}, {braid(2, 1), braid(2, -1)}, {braid(2, 1, 1), braid(2)},
		{braid(3, 1, 2), braid(3, 2, 1)}, {braid(4, 1, 2, 3), braid(4, 1, 3, 2)}, {braid(3, 1, -2, 1), braid(3, 2, -1, 2)},
	} {
		is(t, fmt.Sprint("EqualBraids of ", pair), result(impl.EqualBraids(pair[0], pair[1]), impl.EqualBraids(pair[1], pair[0])), "[false false]")
	}
	for _, b := range notBraids() {
		is(t, fmt.Sprint("EqualBraids of ", b), result(impl.EqualBraids(b, b), impl.EqualBraids(braid(3), b), impl.EqualBraids(b, braid(3)), impl.IsTrivial(b)), "[false false false false]")
	}
	is(t, "IsTrivial", result(impl.IsTrivial(braid(0)), impl.IsTrivial(braid(1)), impl.IsTrivial(braid(12, 3, -3)), impl.IsTrivial(braid(12, 3)), impl.IsTrivial(braid(3, slices.Repeat([]int64{1, -2}, 20)...))), "[true true true false false]")
}

// The inverse of a braid undoes it.
func TestBraidsAndTheirInverses(t *testing.T) {
	for _, b := range someBraids() {
		if len(b.Word) <= 20 {
			is(t, fmt.Sprint("inverse of ", b), impl.IsTrivial(joinOfBraids(t, b, impl.InvertBraid(b))), true)
		}
		is(t, fmt.Sprint("reduced ", b), impl.EqualBraids(b, impl.ReduceBraid(b)), true)
	}
}

func TestBraidOfNormal(t *testing.T) {
	is(t, "example", result(impl.BraidOfNormal(normal(3, -1, []int64{0, 2, 1}, []int64{1, 2, 0}))), "[{3 [-1 -2 -1 2 2 1]} 0]")
	is(t, "two half twists", result(impl.BraidOfNormal(normal(4, 2))), "[{4 [1 2 1 3 2 1 1 2 1 3 2 1]} 0]")
	is(t, "two inverse half twists", result(impl.BraidOfNormal(normal(4, -2))), "[{4 [-1 -2 -3 -1 -2 -1 -1 -2 -3 -1 -2 -1]} 0]")
	is(t, "no letters", result(impl.BraidOfNormal(normal(12, 0))), "[{12 []} 0]")
	is(t, "no strands", result(impl.BraidOfNormal(normal(0, 0))), "[{0 []} 0]")
	for _, b := range someBraids() {
		n := normalFormOf(t, b)
		back, code := impl.BraidOfNormal(n)
		if letters := len(wordByHand(n).Word); letters > impl.MaxWord {
			is(t, fmt.Sprint("BraidOfNormal of ", n), result(back, code), result(impl.Braid{}, impl.ErrFull))
			continue
		}
		is(t, fmt.Sprint("BraidOfNormal of ", n), result(code, normalFormOf(t, back)), result(impl.OK, n))
	}
}

func TestNormalFormsOfMaxWordLetters(t *testing.T) {
	for _, c := range []struct {
		form    impl.NormalBraid
		letters int
		code    int64
	}{
		{normal(2, 40), 40, impl.OK}, {normal(2, -40), 40, impl.OK}, {normal(2, 41), 0, impl.ErrFull}, {normal(2, -41), 0, impl.ErrFull},
		{normal(3, 13, []int64{1, 0, 2}), 40, impl.OK}, {normal(3, 13, []int64{1, 2, 0}), 0, impl.ErrFull}, {normal(3, -13, []int64{0, 2, 1}), 40, impl.OK},
		{normal(3, 0, slices.Repeat([][]int64{{1, 0, 2}}, 40)...), 40, impl.OK}, {normal(3, 0, slices.Repeat([][]int64{{1, 0, 2}}, 41)...), 0, impl.ErrFull},
		{normal(5, 4), 40, impl.OK}, {normal(5, -4), 40, impl.OK}, {normal(5, -4, []int64{1, 0, 2, 3, 4}), 0, impl.ErrFull},
		{normal(9, 1, []int64{4, 0, 1, 2, 3, 5, 6, 7, 8}), 40, impl.OK}, {normal(10, 1), 0, impl.ErrFull}, {normal(10, -1), 0, impl.ErrFull},
		{normal(12, 0, append([]int64{1, 0}, rising(12)[2:]...)), 1, impl.OK}, {normal(12, 100), 0, impl.ErrFull}, {normal(2, -100), 0, impl.ErrFull},
	} {
		b, code := impl.BraidOfNormal(c.form)
		is(t, fmt.Sprint("BraidOfNormal of ", c.form), result(len(b.Word), code), result(c.letters, c.code))
	}
}

// A form that is not valid and has too many letters is not valid.
func TestErrorsOfBraidOfNormal(t *testing.T) {
	for _, n := range append(notNormals(), normal(3, 100, rising(3)), normal(12, 101), normal(12, 100, []int64{1, 0})) {
		is(t, fmt.Sprint("BraidOfNormal of ", n), result(impl.BraidOfNormal(n)), result(impl.Braid{}, impl.ErrInvalid))
	}
}

// P5: joined forms are those of joined words.
func TestNormalsAreJoinedLikeBraids(t *testing.T) {
	for n := range int64(13) {
		words := append(manyBraids(n, 20, 16), manyBraids(n, 6, 8)...)
		for _, a := range words {
			for _, b := range words {
				joined, code := impl.JoinNormals(normalFormOf(t, a), normalFormOf(t, b))
				is(t, fmt.Sprint("JoinNormals of ", a, b), result(joined, code), result(normalFormOf(t, joinOfBraids(t, a, b)), impl.OK))
			}
		}
	}
}

func TestJoinedFactorsThatVanish(t *testing.T) {
	for _, b := range someBraids() {
		n, inverse := normalFormOf(t, b), normalFormOf(t, impl.InvertBraid(b))
		is(t, fmt.Sprint("with its inverse: ", b), result(impl.JoinNormals(n, inverse)), result(normal(b.Strands, 0), impl.OK))
		is(t, fmt.Sprint("after nothing: ", b), result(impl.JoinNormals(normal(b.Strands, 0), n)), result(n, impl.OK))
		is(t, fmt.Sprint("before nothing: ", b), result(impl.JoinNormals(n, normal(b.Strands, 0))), result(n, impl.OK))
	}
	one, two := []int64{1, 0, 2}, []int64{1, 2, 0}
	is(t, "half twist", result(impl.JoinNormals(normal(3, 0, one), normal(3, 0, []int64{2, 0, 1}))), "[{3 0 [[1 0 2] [2 0 1]]} 0]")
	is(t, "half twist", result(impl.JoinNormals(normal(3, 0, one), normal(3, 0, two))), "[{3 1 []} 0]")
	is(t, "half twist behind a power", result(impl.JoinNormals(normal(3, 99, one), normal(3, 0, two))), "[{3 100 []} 0]")
	is(t, "half twists between factors", result(impl.JoinNormals(normal(3, 0, one), normal(3, 1, one))), "[{3 1 [[1 2 0]]} 0]")
	is(t, "two half twists between factors", result(impl.JoinNormals(normal(3, 0, one), normal(3, -2, one))), "[{3 -2 [[1 0 2] [1 0 2]]} 0]")
}

func TestLimitsOfJoinedNormals(t *testing.T) {
	one := []int64{1, 0, 2}
	ones := func(count int) [][]int64 { return slices.Repeat([][]int64{one}, count) }
	full := result(impl.NormalBraid{}, impl.ErrFull)
	for _, c := range []struct {
		a, b impl.NormalBraid
		want []any
	}{
		{normal(2, 60), normal(2, 40), result(normal(2, 100), impl.OK)}, {normal(2, 60), normal(2, 41), full}, {normal(2, 100), normal(2, 100), full},
		{normal(2, -60), normal(2, -40), result(normal(2, -100), impl.OK)}, {normal(2, -60), normal(2, -41), full}, {normal(12, -100), normal(12, -100), full},
		{normal(12, -100), normal(12, 100), result(normal(12, 0), impl.OK)},
		{normal(3, 0, ones(60)...), normal(3, 0, ones(40)...), result(normal(3, 0, ones(100)...), impl.OK)},
		{normal(3, 0, ones(60)...), normal(3, 0, ones(41)...), full}, {normal(3, 0, ones(100)...), normal(3, 0, ones(100)...), full},
		{normal(3, 100, one), normal(3, 0, []int64{1, 2, 0}), full}, {normal(3, -100, one), normal(3, -1, []int64{0, 2, 1}), full},
		{normal(3, -100), normal(3, 0, one), result(normal(3, -100, one), impl.OK)},
		{normal(3, -100, one), normal(3, 0, []int64{1, 2, 0}), result(normal(3, -99), impl.OK)},
		{normal(3, -60, one), normal(3, -41, []int64{2, 0, 1}), result(normal(3, -100), impl.OK)},
	} {
		is(t, fmt.Sprint("JoinNormals of ", c.a, c.b), result(impl.JoinNormals(c.a, c.b)), c.want)
	}
}

// More than MaxFactors factors may become fewer: these of both forms cancel or become half twists.
func TestManyFactorsBecomeFewer(t *testing.T) {
	n := int64(3)
	a := normal(n, 0, slices.Repeat([][]int64{{1, 0, 2}}, 100)...)
	inverse := normal(n, -100)
	for i := range 100 {
		inverse.Factors = append(inverse.Factors, [][]int64{{1, 2, 0}, {2, 0, 1}}[i%2])
	}
	is(t, "valid", impl.ValidNormal(inverse), true)
	joined, code := impl.JoinNormals(a, inverse)
	back, backCode := impl.JoinNormals(inverse, a)
	is(t, "a hundred letters and their inverses", result(joined, code, back, backCode), result(normal(n, 0), impl.OK, normal(n, 0), impl.OK))
	letters := normal(12, 0, slices.Repeat([][]int64{{1, 0, 2, 3, 4, 5, 6, 7, 8, 9, 10, 11}}, 100)...)
	others := normal(12, 0, slices.Repeat([][]int64{{0, 1, 2, 3, 4, 5, 6, 7, 8, 9, 11, 10}}, 100)...)
	both := normal(12, 0, slices.Repeat([][]int64{{1, 0, 2, 3, 4, 5, 6, 7, 8, 9, 11, 10}}, 100)...)
	is(t, "a hundred letters on both sides", result(impl.JoinNormals(letters, others)), result(both, impl.OK))
}

func TestErrorsOfJoinNormals(t *testing.T) {
	for _, n := range notNormals() {
		for _, other := range []impl.NormalBraid{normal(n.Strands, 0), normal(2, 100), n} {
			want := result(impl.NormalBraid{}, impl.ErrInvalid)
			is(t, fmt.Sprint("JoinNormals of ", n, other), result(impl.JoinNormals(n, other)), want)
			is(t, fmt.Sprint("JoinNormals of ", other, n), result(impl.JoinNormals(other, n)), want)
		}
	}
	want := result(impl.NormalBraid{}, impl.ErrState)
	is(t, "other strands", result(impl.JoinNormals(normal(2, 1), normal(3, 1))), want)
	is(t, "other strands beyond the limits", result(impl.JoinNormals(normal(2, 100), normal(3, 100))), want)
	is(t, "no strands and one", result(impl.JoinNormals(normal(0, 0), normal(1, 0))), want)
}

// P4, compared by normal forms: equal braids are equal when they are doubled, and joined words can be doubled one by one.
func TestDoubledBraidsAreEqual(t *testing.T) {
	sizes := []int64{2, 1, 0, 1}
	compared := 0
	for _, b := range manyBraids(4, 6, 40) {
		changed := changedByRelations(b, 50)
		first, code := impl.DoubleBraid(b, sizes)
		second, otherCode := impl.DoubleBraid(changed, sizes)
		if code == impl.OK && otherCode == impl.OK {
			is(t, fmt.Sprint("doubled ", b, changed), impl.EqualBraids(first, second), true)
			compared++
		}
	}
	is(t, "many of them are short enough", compared >= 20, true)
	for _, a := range manyBraids(4, 5, 12) {
		for _, b := range manyBraids(4, 5, 12) {
			after := make([]int64, 4)
			for i, place := range impl.BraidPermutation(a) {
				after[place] = sizes[i]
			}
			parts := joinOfBraids(t, doubleOf(t, a, sizes), doubleOf(t, b, after))
			is(t, fmt.Sprint("doubled ", a, b), impl.EqualBraids(doubleOf(t, joinOfBraids(t, a, b), sizes), parts), true)
		}
	}
}
