package tests

import (
	"fmt"
	"math"
	"slices"
	"strings"
	"testing"

	"loop.example/g00856/impl"
)

// cancelledByHand removes pairs of letters that cancel, each time the last one.
func cancelledByHand(word []int64) []int64 {
	rest := slices.Clone(word)
again:
	for i := len(rest) - 2; i >= 0; i-- {
		if rest[i] == -rest[i+1] {
			rest = slices.Delete(rest, i, i+2)
			goto again
		}
	}
	return rest
}

func inverseWordByHand(word []int64) []int64 {
	list := slices.Clone(word)
	slices.Reverse(list)
	for i := range list {
		list[i] *= -1
	}
	return list
}

// manyWords returns valid words for n generators that a fixed rule shuffles. Every second one has few generators, so that many letters cancel.
func manyWords(n int64, length, count int) [][]int64 {
	list := [][]int64{{}}
	state := uint64(n)
	for n > 0 && len(list) < count {
		var word []int64
		last := n
		if len(list)%2 == 0 {
			last = min(n, 3)
		}
		for range length * len(list) / count {
			state = state*6364136223846793005 + 1442695040888963407
			if letter := int64(state>>33)%(2*last+1) - last; letter != 0 {
				word = append(word, letter)
			}
		}
		list = append(list, word)
	}
	return list
}

// allFreeWords returns all words of at most length letters, also those that are not reduced.
func allFreeWords(n int64, length int) [][]int64 {
	list := [][]int64{{}}
	for i := 0; i < len(list); i++ {
		for k := -n; k <= n && len(list[i]) < length; k++ {
			if k != 0 {
				list = append(list, append(slices.Clone(list[i]), k))
			}
		}
	}
	return list
}

func copiesOf(letter int64, count int) []int64 { return slices.Repeat([]int64{letter}, count) }

// freeWord is a word for a number of generators.
type freeWord struct {
	n    int64
	word []int64
}

// notWords are words that are not valid.
func notWords() []freeWord {
	return []freeWord{
		{-1, nil}, {13, nil}, {math.MinInt64, nil}, {math.MaxInt64, nil}, {-1, []int64{1}}, {13, []int64{1}}, {math.MinInt64, []int64{1}}, {math.MaxInt64, []int64{1}},
		{0, []int64{0}}, {0, []int64{1}}, {0, []int64{-1}}, {1, []int64{0}}, {1, []int64{2}}, {1, []int64{-2}}, {2, []int64{3}}, {2, []int64{0}},
		{2, []int64{1, 2, 3, -3}}, {2, []int64{1, -1, 0}}, {12, []int64{13}}, {12, []int64{1, -13}}, {5, []int64{math.MaxInt64}}, {5, []int64{math.MinInt64}}, {12, []int64{math.MinInt64, 1}},
		{1, copiesOf(1, 20001)}, {12, copiesOf(-12, 20001)}, {1, slices.Repeat([]int64{1, -1}, 10001)}, {2, copiesOf(3, 20000)}, {2, append(copiesOf(1, 20000), 3)},
	}
}

func imagesOf(t *testing.T, b impl.Braid) [][]int64 {
	t.Helper()
	images, code := impl.ArtinAction(b)
	is(t, fmt.Sprint("code of ArtinAction of ", b), code, impl.OK)
	return images
}

func freeProduct(t *testing.T, n int64, a, b []int64) []int64 {
	t.Helper()
	product, code := impl.FreeJoin(n, a, b)
	is(t, "code of FreeJoin", code, impl.OK)
	return product
}

func TestFreeConstants(t *testing.T) {
	is(t, "limits", result(impl.MaxArtin, impl.MaxFree), "[16 20000]")
}

func TestExamplesOfFreeGroups(t *testing.T) {
	is(t, "FreeCore", result(impl.FreeCore(2, []int64{1, 2, -1})), "[[1] [2] true]")
	is(t, "ArtinAction", result(impl.ArtinAction(braid(2, 1))), "[[[1 2 -1] [1]] 0]")
}

func TestValidFree(t *testing.T) {
	for n := range int64(13) {
		is(t, "no letters", result(impl.ValidFree(n, nil), impl.ValidFree(n, []int64{})), "[true true]")
		for letter := int64(-14); letter <= 14; letter++ {
			is(t, "one letter", impl.ValidFree(n, []int64{letter}), letter != 0 && letter <= n && letter >= -n)
		}
	}
	is(t, "MaxFree letters", result(impl.ValidFree(1, copiesOf(1, 20000)), impl.ValidFree(12, copiesOf(-12, 20000))), "[true true]")
	for _, w := range notWords() {
		is(t, fmt.Sprint("not a word for ", w.n), impl.ValidFree(w.n, w.word), false)
	}
}

// Words that are not valid have no results but zero values.
func TestFunctionsOfNoWord(t *testing.T) {
	for _, w := range notWords() {
		reduced, ok := impl.FreeReduce(w.n, w.word)
		is(t, "FreeReduce", result(reduced == nil, ok), "[true false]")
		inverse, ok := impl.FreeInverse(w.n, w.word)
		is(t, "FreeInverse", result(inverse == nil, ok), "[true false]")
		c, d, ok := impl.FreeCore(w.n, w.word)
		is(t, "FreeCore", result(c == nil, d == nil, ok), "[true true false]")
		is(t, "FreeText", impl.FreeText(w.n, w.word), "")
	}
}

func TestFreeReduce(t *testing.T) {
	for n := range int64(13) {
		for _, word := range manyWords(n, 60, 40) {
			is(t, fmt.Sprint("FreeReduce of ", word), result(impl.FreeReduce(n, word)), result(cancelledByHand(word), true))
		}
	}
	for _, word := range allFreeWords(2, 6) {
		is(t, fmt.Sprint("FreeReduce of ", word), result(impl.FreeReduce(2, word)), result(cancelledByHand(word), true))
	}
	is(t, "inside others", result(impl.FreeReduce(3, []int64{1, 2, 3, -3, -2, 2, -1, 3})), "[[1 2 -1 3] true]")
	is(t, "three in a row", result(impl.FreeReduce(1, []int64{1, -1, 1})), "[[1] true]")
	is(t, "at the ends", result(impl.FreeReduce(12, []int64{12, 1, -12})), "[[12 1 -12] true]")
	is(t, "no generators", result(impl.FreeReduce(0, nil)), "[[] true]")
}

func TestFreeReduceOfLongWords(t *testing.T) {
	for name, c := range map[string]struct{ word, want []int64 }{
		"nothing cancels":      {copiesOf(1, 20000), copiesOf(1, 20000)},
		"neighbours":           {slices.Repeat([]int64{1, -1}, 10000), nil},
		"inside others":        {append(copiesOf(2, 10000), copiesOf(-2, 10000)...), nil},
		"all but the last one": {append(slices.Repeat([]int64{-2, 2}, 9999), 1, 2), []int64{1, 2}},
		"long, and then short": {append(copiesOf(1, 12000), copiesOf(-1, 8000)...), copiesOf(1, 4000)},
	} {
		got, ok := impl.FreeReduce(2, c.word)
		is(t, name, result(ok, slices.Equal(got, c.want)), "[true true]")
		inverse, ok := impl.FreeInverse(2, c.word)
		is(t, name, result(ok, slices.Equal(inverse, inverseWordByHand(c.want))), "[true true]")
	}
}

// P6: words form a group.
func TestFreeGroup(t *testing.T) {
	for n := range int64(13) {
		words := manyWords(n, 30, 12)
		for _, a := range words {
			inverse, ok := impl.FreeInverse(n, a)
			is(t, fmt.Sprint("FreeInverse of ", a), result(inverse, ok), result(cancelledByHand(inverseWordByHand(a)), true))
			is(t, "with its inverse", result(freeProduct(t, n, a, inverse), freeProduct(t, n, inverse, a)), "[[] []]")
			is(t, "with nothing", result(freeProduct(t, n, a, nil), freeProduct(t, n, nil, a)), result(cancelledByHand(a), cancelledByHand(a)))
			for _, b := range words {
				ab := freeProduct(t, n, a, b)
				is(t, fmt.Sprint("FreeJoin of ", a, b), ab, cancelledByHand(slices.Concat(a, b)))
				for _, c := range words {
					is(t, fmt.Sprint("three words: ", a, b, c), freeProduct(t, n, ab, c), freeProduct(t, n, a, freeProduct(t, n, b, c)))
				}
			}
		}
	}
}

// Only the reduced word of both must not be too long.
func TestLimitsOfFreeJoin(t *testing.T) {
	most, ones := copiesOf(1, 20000), copiesOf(1, 10000)
	shrinking := append(copiesOf(-1, 5000), copiesOf(1, 15000)...)
	for name, c := range map[string]struct {
		a, b, want []int64
		code       int64
	}{
		"MaxFree letters and none":        {most, nil, most, impl.OK},
		"none and MaxFree letters":        {nil, most, most, impl.OK},
		"two halves":                      {ones, ones, most, impl.OK},
		"one letter more":                 {most, []int64{1}, nil, impl.ErrFull},
		"one letter more in front":        {[]int64{2}, most, nil, impl.ErrFull},
		"twice as many":                   {most, most, nil, impl.ErrFull},
		"one letter less":                 {most, []int64{-1}, most[:19999], impl.OK},
		"shorter, then one letter more":   {most, []int64{-1, 2, 2}, nil, impl.ErrFull},
		"too long only on the way":        {most, []int64{2, -2}, most, impl.OK},
		"much too long only on the way":   {most, append(copiesOf(2, 10000), copiesOf(-2, 10000)...), most, impl.OK},
		"all cancel":                      {most, copiesOf(-1, 20000), nil, impl.OK},
		"a word that is not reduced":      {shrinking, ones, most, impl.OK},
		"a word that is not reduced, one": {shrinking, append([]int64{2}, ones...), nil, impl.ErrFull},
	} {
		got, code := impl.FreeJoin(2, c.a, c.b)
		is(t, name, result(slices.Equal(got, c.want), code), result(true, c.code))
	}
}

func TestErrorsOfFreeJoin(t *testing.T) {
	for _, w := range notWords() {
		for _, other := range [][]int64{nil, copiesOf(1, 20000), w.word} {
			first, firstCode := impl.FreeJoin(w.n, w.word, other)
			second, secondCode := impl.FreeJoin(w.n, other, w.word)
			is(t, fmt.Sprint("FreeJoin for ", w.n), result(first == nil, firstCode, second == nil, secondCode), result(true, impl.ErrInvalid, true, impl.ErrInvalid))
		}
	}
}

func TestFreeCore(t *testing.T) {
	for _, word := range allFreeWords(2, 6) {
		isCore(t, 2, word)
	}
	for n := range int64(13) {
		words := manyWords(n, 40, 20)
		for i, word := range words {
			isCore(t, n, word)
			isCore(t, n, slices.Concat(words[i/2], word, inverseWordByHand(words[i/2])))
		}
	}
}

// isCore checks that both results make up the word without letters that cancel; only one pair of words does.
func isCore(t *testing.T, n int64, word []int64) {
	t.Helper()
	reduced := cancelledByHand(word)
	c, d, ok := impl.FreeCore(n, word)
	name := fmt.Sprint("FreeCore of ", word)
	is(t, name, ok, true)
	is(t, name, slices.Concat(c, d, inverseWordByHand(c)), reduced)
	is(t, name+" is cyclically reduced", len(d) < 2 || d[0] != -d[len(d)-1], true)
	is(t, name+" has letters if the word has", len(d) > 0, len(reduced) > 0)
}

func TestSomeCores(t *testing.T) {
	is(t, "no letters", result(impl.FreeCore(0, nil)), "[[] [] true]")
	is(t, "one letter", result(impl.FreeCore(1, []int64{-1})), "[[] [-1] true]")
	is(t, "all cancel", result(impl.FreeCore(2, []int64{1, 2, -2, -1})), "[[] [] true]")
	is(t, "equal ends", result(impl.FreeCore(2, []int64{1, 2, 1})), "[[] [1 2 1] true]")
	is(t, "two letters", result(impl.FreeCore(2, []int64{1, 1})), "[[] [1 1] true]")
	is(t, "not reduced", result(impl.FreeCore(3, []int64{1, 3, -3, 2, -1})), "[[1] [2] true]")
	is(t, "not reduced at the ends", result(impl.FreeCore(3, []int64{3, -3, 1, 2, -1})), "[[1] [2] true]")
	is(t, "several letters", result(impl.FreeCore(3, []int64{1, -2, 3, 3, 1, 2, -1})), "[[1 -2] [3 3 1] true]")
	word := slices.Concat(copiesOf(1, 9999), []int64{2, 2}, copiesOf(-1, 9999))
	c, d, ok := impl.FreeCore(2, word)
	is(t, "MaxFree letters", result(len(c), d, ok), "[9999 [2 2] true]")
}

func TestPartsOfCoresShareNoMemory(t *testing.T) {
	for _, word := range [][]int64{{1, 2, -1}, {1, 2}, {1, 2, 3, 3, -2, -1}, nil, {1, -1}} {
		c, d, _ := impl.FreeCore(3, word)
		text := fmt.Sprint(d)
		scribble(result(c))
		is(t, fmt.Sprint("second result for ", word), d, text)
		c, d, _ = impl.FreeCore(3, word)
		text = fmt.Sprint(c)
		scribble(result(d))
		is(t, fmt.Sprint("first result for ", word), c, text)
	}
}

// P6: words are read back from their texts.
func TestFreeText(t *testing.T) {
	is(t, "all letters", impl.FreeText(12, []int64{1, 2, 3, 4, 5, 6, 7, 8, 9, 10, 11, 12, -1, -2, -3, -4, -5, -6, -7, -8, -9, -10, -11, -12}), "abcdefghijklABCDEFGHIJKL")
	is(t, "not reduced", result(impl.FreeText(1, []int64{1, -1, 1})), "[aAa]")
	is(t, "no letters", result(impl.FreeText(0, nil), impl.FreeText(12, []int64{})), "[1 1]")
	for n := range int64(13) {
		for _, word := range manyWords(n, 40, 20) {
			is(t, fmt.Sprint("read back: ", word), result(impl.ReadFree(n, impl.FreeText(n, word))), result(word, true))
		}
	}
	most := copiesOf(-12, 20000)
	is(t, "MaxFree letters", impl.FreeText(12, most) == strings.Repeat("L", 20000), true)
	back, ok := impl.ReadFree(12, strings.Repeat("L", 20000))
	is(t, "MaxFree letters", result(slices.Equal(back, most), ok), "[true true]")
}

func TestReadFree(t *testing.T) {
	is(t, "not reduced", result(impl.ReadFree(2, "abBA")), "[[1 2 -2 -1] true]")
	for n := range int64(13) {
		is(t, "no letters", result(impl.ReadFree(n, "1")), "[[] true]")
		for c := range 256 {
			word, ok := impl.ReadFree(n, string([]byte{byte(c)}))
			small, capital := int64(c)-'a'+1, int64(c)-'A'+1
			switch {
			case small >= 1 && small <= n:
				is(t, "small letter", result(word, ok), result([]int64{small}, true))
			case capital >= 1 && capital <= n:
				is(t, "capital letter", result(word, ok), result([]int64{-capital}, true))
			default:
				is(t, "byte", result(word == nil, ok), result(c != '1', c == '1'))
			}
		}
	}
	for _, s := range []string{"", "11", "1a", "a1", " a", "a ", "a b", "ab\n", "abd", "aé", "\xff", "-a", "0", strings.Repeat("a", 20001), strings.Repeat("aA", 20000)} {
		word, ok := impl.ReadFree(3, s)
		is(t, "no text form", result(word == nil, ok), "[true false]")
	}
	for _, n := range []int64{math.MinInt64, -1, 13, math.MaxInt64} {
		for _, s := range []string{"1", "a", "A", ""} {
			word, ok := impl.ReadFree(n, s)
			is(t, "generators", result(word == nil, ok), "[true false]")
		}
	}
}

// artinBraids returns braids of at most MaxArtin letters, with all numbers of strands.
func artinBraids() []impl.Braid {
	list := slices.Concat(allWords(2, 5), allWords(3, 4), allWords(4, 3))
	for n := range int64(13) {
		list = append(list, manyBraids(n, 16, 20)...)
	}
	return list
}

// P6: the images are conjugates of generators with the permutation of the braid.
func TestArtinAction(t *testing.T) {
	for _, b := range artinBraids() {
		images := imagesOf(t, b)
		is(t, fmt.Sprint("ArtinAction of ", b), images, actionByHand(b))
		is(t, fmt.Sprint("IsAction of the images of ", b), impl.IsAction(images), true)
		is(t, fmt.Sprint("ActionPermutation of the images of ", b), result(impl.ActionPermutation(images)), result(impl.BraidPermutation(b), true))
		var product []int64
		for i, image := range images {
			_, d, _ := impl.FreeCore(b.Strands, image)
			is(t, fmt.Sprint("core of an image of ", b), d, []int64{impl.BraidPermutation(b)[i] + 1})
			product = freeProduct(t, b.Strands, product, image)
		}
		for i, letter := range product {
			is(t, fmt.Sprint("product of the images of ", b), letter, i+1)
		}
		is(t, fmt.Sprint("length of the product of the images of ", b), len(product), b.Strands)
		is(t, "images share memory", shareMemory(images), false)
	}
}

func TestActionsOfFewStrands(t *testing.T) {
	is(t, "no strands", result(impl.ArtinAction(braid(0))), "[[] 0]")
	is(t, "one strand", result(impl.ArtinAction(braid(1))), "[[[1]] 0]")
	is(t, "most strands", result(impl.ArtinAction(braid(12, 11, -1))), "[[[2] [-2 1 2] [3] [4] [5] [6] [7] [8] [9] [10] [11 12 -11] [11]] 0]")
	is(t, "one strand more", result(impl.ArtinAction(braid(13))), "[[] 1]")
}

func TestActionsOfMaxArtinLetters(t *testing.T) {
	there := slices.Concat(copiesOf(1, 8), copiesOf(-1, 8))
	is(t, "there and back", result(impl.ArtinAction(braid(2, there...))), "[[[1] [2]] 0]")
	is(t, "one letter more", result(impl.ArtinAction(repeated(2, 1, 17))), "[[] 2]")
	is(t, "one letter more, but some cancel", result(impl.ArtinAction(braid(2, append(there, 1)...))), "[[] 2]")
	is(t, "MaxWord letters", result(impl.ArtinAction(repeated(12, 1, 40))), "[[] 2]")
	for _, letter := range []int64{1, -1, 11, -11} {
		b := repeated(12, letter, 16)
		is(t, fmt.Sprint("ArtinAction of ", b), imagesOf(t, b), actionByHand(b))
	}
}

// No braid of MaxArtin letters was found that makes longer images than this one.
func TestLongestActions(t *testing.T) {
	b := braid(3, slices.Repeat([]int64{2, -1}, 8)...)
	images := imagesOf(t, b)
	is(t, "images", images, actionByHand(b))
	is(t, "lengths", result(len(images[0]), len(images[1]), len(images[2])), "[3191 8359 5165]")
	is(t, "is an action", impl.IsAction(images), true)
}

func TestErrorsOfArtinAction(t *testing.T) {
	for _, b := range append(notBraids(), braid(2, append(copiesOf(1, 17), 2)...)) {
		images, code := impl.ArtinAction(b)
		is(t, fmt.Sprint("ArtinAction of ", b), result(images == nil, code), result(true, impl.ErrInvalid))
	}
}

// substitutedByHand replaces letters before anything cancels.
func substitutedByHand(images [][]int64, word []int64) []int64 {
	var list []int64
	for _, letter := range word {
		if letter > 0 {
			list = append(list, images[letter-1]...)
		} else {
			list = append(list, inverseWordByHand(images[-letter-1])...)
		}
	}
	return cancelledByHand(list)
}

func TestApplyAction(t *testing.T) {
	for n := range int64(13) {
		words := manyWords(n, 12, 12)
		images := make([][]int64, n)
		for i := range images {
			images[i] = words[(i+3)%len(words)]
		}
		for _, a := range words {
			is(t, fmt.Sprint("ApplyAction of ", images, a), result(impl.ApplyAction(images, a)), result(substitutedByHand(images, a), impl.OK))
			for _, b := range words {
				first, _ := impl.ApplyAction(images, a)
				second, _ := impl.ApplyAction(images, b)
				is(t, fmt.Sprint("image of a product ", a, b), result(impl.ApplyAction(images, slices.Concat(a, b))), result(freeProduct(t, n, first, second), impl.OK))
			}
		}
	}
	is(t, "no images", result(impl.ApplyAction(nil, nil)), "[[] 0]")
	is(t, "images without letters", result(impl.ApplyAction([][]int64{nil, nil}, []int64{1, 2, -1})), "[[] 0]")
	is(t, "images that are not reduced", result(impl.ApplyAction([][]int64{{1, 2, -2}, {-1, 1}}, []int64{1, 2, 1, -2})), "[[1 1] 0]")
}

// P6: a braid that follows another one acts on the images that that one makes.
func TestActionsOfJoinedBraids(t *testing.T) {
	for n := range int64(13) {
		for _, a := range manyBraids(n, 8, 10) {
			for _, b := range manyBraids(n, 8, 10) {
				both := imagesOf(t, joinOfBraids(t, a, b))
				for i, image := range imagesOf(t, a) {
					is(t, fmt.Sprint("image under ", a, b), result(impl.ApplyAction(imagesOf(t, b), image)), result(both[i], impl.OK))
				}
			}
		}
	}
}

// Only what there is after a letter of the word counts, also if it is too long on the way.
func TestLimitsOfApplyAction(t *testing.T) {
	most, none := copiesOf(1, 20000), append(copiesOf(2, 10000), copiesOf(-2, 10000)...)
	half, back := copiesOf(1, 10000), append(copiesOf(2, 5001), copiesOf(1, 9999)...)
	for name, c := range map[string]struct {
		images [][]int64
		word   []int64
		length int
		code   int64
	}{
		"MaxFree letters":                          {[][]int64{most, {2}}, []int64{1}, 20000, impl.OK},
		"MaxFree letters of an inverse":            {[][]int64{most, {2}}, []int64{-1}, 20000, impl.OK},
		"one letter more":                          {[][]int64{most, {2}}, []int64{1, 2}, 0, impl.ErrFull},
		"one letter more in front":                 {[][]int64{most, {2}}, []int64{2, 1}, 0, impl.ErrFull},
		"one letter more, and then short again":    {[][]int64{most, {2}}, []int64{1, 2, -2, -1}, 0, impl.ErrFull},
		"twice as many, and then short again":      {[][]int64{most, {2}}, []int64{1, 1, -1, -1}, 0, impl.ErrFull},
		"long, short and long again":               {[][]int64{most, {2}}, []int64{1, -1, 1, -1, 1}, 20000, impl.OK},
		"one letter less, then one more":           {[][]int64{most, {-1}}, []int64{1, 2, 2, -2, -2}, 20000, impl.OK},
		"two halves":                               {[][]int64{half, {2}}, []int64{1, 1}, 20000, impl.OK},
		"two halves and one letter":                {[][]int64{half, {2}}, []int64{1, 1, 2}, 0, impl.ErrFull},
		"an image that cancels wholly":             {[][]int64{most, none}, []int64{1, 2, 2, 2}, 20000, impl.OK},
		"an image that is half as long in the end": {[][]int64{half, append(copiesOf(1, 15000), copiesOf(-1, 5000)...)}, []int64{1, 2}, 20000, impl.OK},
		"images that cancel in part":               {[][]int64{copiesOf(1, 15000), append(copiesOf(-1, 10000), copiesOf(2, 10000)...)}, []int64{1, 2}, 15000, impl.OK},
		"images that cancel in too small a part":   {[][]int64{back, append(copiesOf(-1, 4999), copiesOf(2, 15000)...)}, []int64{1, 2}, 0, impl.ErrFull},
	} {
		got, code := impl.ApplyAction(c.images, c.word)
		is(t, name, result(len(got), code), result(c.length, c.code))
	}
}

// A word of MaxFree letters, of which each makes MaxFree letters come or go.
func TestLongWordsOfLongImages(t *testing.T) {
	image := slices.Repeat([]int64{1, 2, 2, 1}, 5000)
	images := [][]int64{image, inverseWordByHand(image)}
	got, code := impl.ApplyAction(images, slices.Repeat([]int64{1, 2}, 10000))
	is(t, "all cancel", result(got, code), "[[] 0]")
	got, code = impl.ApplyAction(images, slices.Repeat([]int64{-2, -1}, 10000))
	is(t, "all cancel", result(got, code), "[[] 0]")
}

// notImages are lists of words that are not images.
func notImages() [][][]int64 {
	return [][][]int64{
		{{0}}, {{2}}, {{-2}}, {{1}, {3}}, {{1}, {2}, {4}}, {{3}, {2}}, {{1, 2, -2, 3}, {2}}, {{math.MinInt64}}, {{math.MaxInt64}, {1}},
		{copiesOf(1, 20001)}, {{1}, copiesOf(2, 20001)}, {{1}, slices.Repeat([]int64{2, -2}, 10001)},
		slices.Repeat([][]int64{{1}}, 13), slices.Repeat([][]int64{nil}, 13), slices.Repeat([][]int64{nil}, 1000),
	}
}

func TestErrorsOfApplyAction(t *testing.T) {
	most := copiesOf(1, 20000)
	for _, images := range notImages() {
		for _, word := range [][]int64{nil, {1}, {1, 1}, {99}, most} {
			got, code := impl.ApplyAction(images, word)
			is(t, "not images", result(got == nil, code), result(true, impl.ErrInvalid))
		}
	}
	for n := range 13 {
		for _, w := range [][]int64{{int64(n) + 1}, {-int64(n) - 1}, {0}, {math.MinInt64}, copiesOf(1, 20001)} {
			got, code := impl.ApplyAction(slices.Repeat([][]int64{nil}, n), w)
			is(t, "not a word", result(got == nil, code), result(true, impl.ErrInvalid))
		}
	}
	is(t, "a letter that is none behind too many", result(impl.ApplyAction([][]int64{most}, []int64{1, 1, 2})), result([]int64{}, impl.ErrInvalid))
}

func TestIsAction(t *testing.T) {
	for name, c := range map[string]struct {
		images [][]int64
		want   bool
	}{
		"no strands":                {nil, true},
		"one strand":                {[][]int64{{1}}, true},
		"the inverse":               {[][]int64{{-1}}, false},
		"no letters":                {[][]int64{{}}, false},
		"two letters":               {[][]int64{{1, 1}}, false},
		"not reduced":               {[][]int64{{1, -1, 1}}, false},
		"trivial":                   {[][]int64{{1}, {2}}, true},
		"not reduced behind others": {[][]int64{{1}, {2, 1, -1}}, false},
		"another product":           {[][]int64{{2}, {1}}, false},
		"conjugates":                {[][]int64{{1}, {1, 2, -1}}, false},
		"one generator twice":       {[][]int64{{1}, {1}}, false},
		"conjugates of one":         {[][]int64{{2, 1, -2}, {1}}, false},
		"the right product":         {[][]int64{{1, 2}, {}}, false},
		"the right product of two":  {[][]int64{{1, 2, 2}, {-2}}, false},
		"inverses":                  {[][]int64{{-1}, {-2}}, false},
		"a braid":                   {[][]int64{{1}, {3}, {-3, 2, 3}}, true},
		"another order":             {[][]int64{{3}, {1}, {-3, 2, 3}}, false},
	} {
		is(t, name, impl.IsAction(c.images), c.want)
	}
	for _, images := range notImages() {
		is(t, "not images", impl.IsAction(images), false)
	}
	long := slices.Concat(copiesOf(2, 9999), []int64{1}, copiesOf(-2, 9999))
	is(t, "long images of no braid", impl.IsAction([][]int64{long, {2}}), false)
}

// The images under the braids of two strands are all there are.
func TestAllActionsOfTwoStrands(t *testing.T) {
	known := map[string]bool{}
	for count := range 6 {
		known[fmt.Sprint(actionByHand(repeated(2, 1, count)))] = true
		known[fmt.Sprint(actionByHand(repeated(2, -1, count)))] = true
	}
	found := 0
	for _, first := range allFreeWords(2, 5) {
		for _, second := range allFreeWords(2, 3) {
			images := [][]int64{first, second}
			if impl.IsAction(images) {
				found++
			}
			if impl.IsAction(images) != known[fmt.Sprint(images)] {
				t.Errorf("IsAction of %v: got %v", images, impl.IsAction(images))
			}
		}
	}
	is(t, "found", found, 4)
}

func TestActionPermutation(t *testing.T) {
	is(t, "no strands", result(impl.ActionPermutation(nil)), "[[] true]")
	is(t, "another product", result(impl.ActionPermutation([][]int64{{2}, {1}})), "[[1 0] true]")
	is(t, "not reduced", result(impl.ActionPermutation([][]int64{{1, 2, -2, 3, -1}, {2, 1, -2, 2, -1, 1, -2}, {-1, 2, 1}})), "[[2 0 1] true]")
	for _, images := range append(notImages(), [][]int64{{}}, [][]int64{{-1}}, [][]int64{{1, 1}}, [][]int64{{1}, {1}}, [][]int64{{1}, {2, 1, -2}}, [][]int64{{1}, {1, 2}}, [][]int64{{1}, {2}, {-3}}, [][]int64{{1}, {}}) {
		p, ok := impl.ActionPermutation(images)
		is(t, "no permutation", result(p == nil, ok), "[true false]")
	}
}

// P6, the guarantee: braids act in the same way exactly if they are equal.
func TestArtinEqualAgreesWithEqualBraids(t *testing.T) {
	for _, words := range [][]impl.Braid{allWords(2, 4), allWords(3, 3), allWords(4, 2), allWords(0, 1), allWords(1, 1)} {
		for _, a := range words {
			for _, b := range words {
				is(t, fmt.Sprint("ArtinEqual of ", a, b), result(impl.ArtinEqual(a, b)), result(impl.EqualBraids(a, b), impl.OK))
			}
		}
	}
	compared := 0
	for n := range int64(13) {
		for _, a := range manyBraids(n, 14, 12) {
			b := changedByRelations(a, 300)
			if len(b.Word) <= 16 {
				compared++
				is(t, fmt.Sprint("ArtinEqual of ", a, b), result(impl.ArtinEqual(a, b)), result(true, impl.OK))
			}
		}
		for _, a := range manyBraids(n, 16, 12) {
			for _, b := range manyBraids(n, 16, 12) {
				is(t, fmt.Sprint("ArtinEqual of ", a, b), result(impl.ArtinEqual(a, b)), result(impl.EqualBraids(a, b), impl.OK))
			}
		}
	}
	is(t, "many of them are short enough", compared >= 30, true)
}

func TestErrorsOfArtinEqual(t *testing.T) {
	long := repeated(3, 1, 17)
	for _, b := range notBraids() {
		for _, other := range []impl.Braid{braid(3), long, b} {
			want := result(false, impl.ErrInvalid)
			is(t, fmt.Sprint("ArtinEqual of ", b, other), result(impl.ArtinEqual(b, other)), want)
			is(t, fmt.Sprint("ArtinEqual of ", other, b), result(impl.ArtinEqual(other, b)), want)
		}
	}
	for _, c := range []struct {
		a, b impl.Braid
		want []any
	}{
		{braid(2), braid(3), result(false, impl.ErrState)}, {braid(0), braid(1), result(false, impl.ErrState)},
		{long, braid(2), result(false, impl.ErrState)}, {braid(4), long, result(false, impl.ErrState)}, {long, repeated(2, 1, 40), result(false, impl.ErrState)},
		{long, braid(3), result(false, impl.ErrRange)}, {braid(3), long, result(false, impl.ErrRange)}, {long, long, result(false, impl.ErrRange)},
		{repeated(3, 1, 16), repeated(3, 1, 16), result(true, impl.OK)}, {repeated(3, 1, 16), repeated(3, 1, 15), result(false, impl.OK)},
	} {
		is(t, fmt.Sprint("ArtinEqual of ", c.a, c.b), result(impl.ArtinEqual(c.a, c.b)), c.want)
	}
}
