package tests

import (
	"fmt"
	"math"
	"slices"
	"testing"

	"loop.example/g00856/impl"
)

func handle(from, to int) impl.Handle { return impl.Handle{From: int64(from), To: int64(to)} }

// isHandleByHand reads the definition for two letters of a valid word.
func isHandleByHand(word []int64, from, to int) bool {
	if word[from] != -word[to] {
		return false
	}
	for _, letter := range word[from+1 : to] {
		if g := numberOf(letter); g == numberOf(word[from]) || g == numberOf(word[from])-1 {
			return false
		}
	}
	return true
}

// handlesByHand returns all handles of a word, ordered by their ends.
func handlesByHand(word []int64) []impl.Handle {
	list := []impl.Handle{}
	for to := range word {
		for from := range to {
			if isHandleByHand(word, from, to) {
				list = append(list, handle(from, to))
			}
		}
	}
	return list
}

// reducedByHand takes one handle out of a word.
func reducedByHand(word []int64, h impl.Handle) []int64 {
	j := numberOf(word[h.From])
	e := word[h.From] / j
	list := slices.Clone(word[:h.From])
	for _, letter := range word[h.From+1 : h.To] {
		if d := letter / (j + 1); numberOf(letter) == j+1 {
			list = append(list, -e*(j+1), d*j, e*(j+1))
		} else {
			list = append(list, letter)
		}
	}
	return append(list, word[h.To+1:]...)
}

// firstByHand looks back from each letter for the one with which a handle could begin.
func firstByHand(word []int64) (impl.Handle, bool) {
	for to, letter := range word {
		for from := to - 1; from >= 0; from-- {
			g := numberOf(word[from])
			if word[from] == -letter {
				return handle(from, to), true
			}
			if g == numberOf(letter) || g == numberOf(letter)-1 {
				break
			}
		}
	}
	return impl.Handle{}, false
}

// formByHand takes out first handles until there is none, or until it has done so often enough.
func formByHand(word []int64, most int) ([]int64, int) {
	for steps := 0; ; steps++ {
		h, found := firstByHand(word)
		if !found || steps == most {
			return word, steps
		}
		word = reducedByHand(word, h)
	}
}

// signByHand reads the sign of a braid from its action on the free group: the image of the first generator that changes ends with its inverse exactly if the sign is 1 (Larue).
func signByHand(b impl.Braid) int64 {
	for i, image := range actionByHand(b) {
		if g := int64(i + 1); len(image) > 1 || image[0] != g {
			if image[len(image)-1] == -g {
				return 1
			}
			return -1
		}
	}
	return 0
}

// handleBraids returns braids with all numbers of strands, with few and with many handles.
func handleBraids() []impl.Braid {
	list := slices.Concat(allWords(2, 5), allWords(3, 4), allWords(4, 3))
	list = append(list,
		braid(4, 1, 2, 3, -3, -2, -1), braid(4, 1, 2, 3, -2, -1), braid(4, 1, 3, 2, 3, -1, -2), braid(4, 1, -1, 2, -2, 3, -3), braid(5, 2, 4, 3, 4, -2, -1, 2, 3, -1),
		braid(3, 1, 2, 1, 2), braid(3, 1, -2, 1, -2), braid(4, 1, 3, -1, -3), braid(3, -1, 2, 2, 2, 1), braid(12, 11, -11, 1, -1))
	for n := range int64(13) {
		list = append(list, manyBraids(n, 12, 20)...)
		list = append(list, manyBraids(n, 40, 10)...)
	}
	return list
}

// A braid of MaxWord letters that needs 4995 handles, one that needs one less than MaxHandleSteps and two that need 1 or 2 more.
func steps4995() impl.Braid {
	return braid(8, 1, 2, 1, 1, 1, -2, -3, 4, 4, -3, 4, -5, -4, 5, 3, 2, 5, 5, -6, -2, 5, -7, -6, 5, 3, -4, -4, -4, -4, -4, -4, -4, -4, 3, -6, 2, -1, -1, -2, -1)
}

func steps4999() impl.Braid {
	return braid(8, -1, -2, -1, -1, -1, 2, 3, -4, -4, -4, -4, -4, 3, 5, -4, -4, 6, -5, -7, -7, -5, 6, -5, -7, 6, 4, 3, 3, -5, 3, -4, 3, 3, 3, 3, -2, 1, 1, 2, 1)
}

func steps5002() impl.Braid {
	return braid(8, -5, 1, 2, 1, 1, 1, -2, -3, 4, 4, 4, -3, -5, -4, 5, 5, -6, 5, 3, 5, 3, -7, -6, 5, 5, -4, -4, -4, 2, -4, -4, -4, -2, -4, 3, 2, -1, -1, -2, -1)
}

// cancellingPairs returns letters that are trivial, and of which each pair is one handle.
func cancellingPairs(strands int64, count int) impl.Braid {
	return braid(strands, slices.Repeat([]int64{1, -1}, count)...)
}

func TestHandleConstants(t *testing.T) {
	is(t, "limits", result(impl.MaxHandleWord, impl.MaxHandleSteps), "[4000 5000]")
}

func TestExamplesOfHandles(t *testing.T) {
	b := braid(3, 1, 2, -1, -2)
	is(t, "FirstHandle", result(impl.FirstHandle(b)), "[{0 2} true]")
	is(t, "ReduceHandle", result(impl.ReduceHandle(b, handle(0, 2))), "[{3 [-2 1 2 -2]} 0]")
}

func TestIsHandle(t *testing.T) {
	for _, b := range handleBraids() {
		for from := range b.Word {
			for to := range b.Word {
				is(t, fmt.Sprint("IsHandle of ", b, from, to), impl.IsHandle(b, handle(from, to)), from < to && isHandleByHand(b.Word, from, to))
			}
		}
	}
	nested := braid(4, 1, 2, 3, -3, -2, -1)
	is(t, "handles inside handles", result(impl.IsHandle(nested, handle(0, 5)), impl.IsHandle(nested, handle(1, 4)), impl.IsHandle(nested, handle(2, 3))), "[true true true]")
	is(t, "a letter of the generator before", impl.IsHandle(braid(3, 2, 1, -2), handle(0, 2)), false)
	is(t, "a letter of the generator before, negative", impl.IsHandle(braid(3, 2, -1, -2), handle(0, 2)), false)
	is(t, "a letter of the same generator", impl.IsHandle(braid(4, 2, 2, -2), handle(0, 2)), false)
	is(t, "letters of other generators", impl.IsHandle(braid(6, -3, 4, 1, 5, -4, 3), handle(0, 5)), true)
	is(t, "equal signs", impl.IsHandle(braid(3, 1, 2, 1), handle(0, 2)), false)
}

// notHandlesOf returns handles outside a word of so many letters, or with ends in the wrong order.
func notHandlesOf(letters int) []impl.Handle {
	n := int64(letters)
	return []impl.Handle{
		{From: 0, To: 0}, {From: 1, To: 0}, {From: n - 1, To: n}, {From: 0, To: n}, {From: -1, To: 0}, {From: -1, To: 1}, {From: n, To: n + 1}, {From: -2, To: -1},
		{From: math.MinInt64, To: 1}, {From: 0, To: math.MaxInt64}, {From: 0, To: math.MinInt64}, {From: math.MinInt64, To: math.MaxInt64}, {From: math.MaxInt64, To: math.MinInt64},
		{From: math.MaxInt64, To: math.MaxInt64}, {From: math.MinInt64, To: math.MinInt64}, {From: math.MaxInt64 - 1, To: math.MaxInt64}, {From: math.MinInt64, To: math.MinInt64 + 1},
	}
}

func TestHandlesOutsideWords(t *testing.T) {
	for _, b := range []impl.Braid{braid(0), braid(1), braid(2), braid(2, 1), braid(2, 1, -1), braid(2, 1, -1, 1), cancellingPairs(12, 20)} {
		for _, h := range notHandlesOf(len(b.Word)) {
			is(t, fmt.Sprint("IsHandle of ", b, h), impl.IsHandle(b, h), false)
			is(t, fmt.Sprint("ReduceHandle of ", b, h), result(impl.ReduceHandle(b, h)), result(impl.Braid{}, impl.ErrState))
		}
	}
}

func TestHandlesOfNoBraid(t *testing.T) {
	for _, b := range append(notBraids(), braid(2, 1, -1, 2), braid(3, 1, -1, 0), cancellingPairs(2, 21)) {
		for _, h := range append(notHandlesOf(len(b.Word)), handle(0, 1)) {
			is(t, fmt.Sprint("IsHandle of ", b, h), impl.IsHandle(b, h), false)
			is(t, fmt.Sprint("ReduceHandle of ", b, h), result(impl.ReduceHandle(b, h)), result(impl.Braid{}, impl.ErrInvalid))
		}
		is(t, fmt.Sprint("FirstHandle of ", b), result(impl.FirstHandle(b)), result(impl.Handle{}, false))
		is(t, fmt.Sprint("MainLetter of ", b), result(impl.MainLetter(b)), "[0 false]")
		for _, budget := range []int64{-1, 0, 5000, 5001} {
			form, steps, code := impl.HandleForm(b, budget)
			is(t, fmt.Sprint("HandleForm of ", b), result(form == nil, steps, code), result(true, 0, impl.ErrInvalid))
			is(t, fmt.Sprint("HandleTrivial of ", b), result(impl.HandleTrivial(b, budget)), result(false, impl.ErrInvalid))
			is(t, fmt.Sprint("SignOfBraid of ", b), result(impl.SignOfBraid(b, budget)), result(0, impl.ErrInvalid))
		}
	}
}

// P7: the first handle is the one with the least end, also if it is inside others.
func TestFirstHandle(t *testing.T) {
	for _, b := range handleBraids() {
		want := result(impl.Handle{}, false)
		if list := handlesByHand(b.Word); len(list) > 0 {
			want = result(list[0], true)
		}
		is(t, fmt.Sprint("FirstHandle of ", b), result(impl.FirstHandle(b)), want)
	}
	is(t, "inside others", result(impl.FirstHandle(braid(4, 1, 2, 3, -3, -2, -1))), "[{2 3} true]")
	is(t, "the least end, not the least beginning", result(impl.FirstHandle(braid(4, 1, 3, -3, 2, -1))), "[{1 2} true]")
	is(t, "one in the other", result(impl.FirstHandle(braid(5, 1, 4, -1, -4))), "[{0 2} true]")
	is(t, "several", result(impl.FirstHandle(braid(3, 1, 2, -2, 1, -1))), "[{1 2} true]")
	is(t, "none", result(impl.FirstHandle(braid(3, 2, 1, -2))), "[{0 0} false]")
	is(t, "no letters", result(impl.FirstHandle(braid(0))), "[{0 0} false]")
	is(t, "at the end of MaxWord letters", result(impl.FirstHandle(braid(3, append(copiesOf(2, 39), -2)...))), "[{38 39} true]")
	is(t, "of MaxWord letters", result(impl.FirstHandle(braid(3, slices.Concat([]int64{-1}, copiesOf(2, 38), []int64{1})...))), "[{0 39} true]")
}

// P7: to reduce a handle does not change the braid.
func TestReduceHandle(t *testing.T) {
	for _, b := range handleBraids() {
		for _, h := range handlesByHand(b.Word) {
			name := fmt.Sprint("ReduceHandle of ", b, h)
			want := braid(b.Strands, reducedByHand(b.Word, h)...)
			got, code := impl.ReduceHandle(b, h)
			if len(want.Word) > impl.MaxWord {
				is(t, name, result(got, code), result(impl.Braid{}, impl.ErrFull))
				continue
			}
			is(t, name, result(got, code), result(want, impl.OK))
			if len(b.Word) <= 12 {
				isEqualAsBraid(t, name, got, b)
			} else {
				is(t, name, impl.EqualBraids(got, b), true)
			}
		}
	}
}

func TestSomeReducedHandles(t *testing.T) {
	is(t, "negative first", result(impl.ReduceHandle(braid(3, -1, 2, 1), handle(0, 2))), "[{3 [2 1 -2]} 0]")
	is(t, "negative between", result(impl.ReduceHandle(braid(3, 1, -2, -1), handle(0, 2))), "[{3 [-2 -1 2]} 0]")
	is(t, "nothing between", result(impl.ReduceHandle(braid(2, -1, 1), handle(0, 1))), "[{2 []} 0]")
	is(t, "others between", result(impl.ReduceHandle(braid(6, 5, 2, 4, 3, 5, -3, -2, 5), handle(1, 6))), "[{6 [5 4 -3 2 3 5 -3 -2 3 5]} 0]")
	is(t, "around a handle", result(impl.ReduceHandle(braid(3, 1, 2, -2, -1), handle(0, 3))), "[{3 [-2 1 2 -2 -1 2]} 0]")
	is(t, "the last generator", result(impl.ReduceHandle(braid(12, 11, 1, -11), handle(0, 2))), "[{12 [1]} 0]")
}

func TestReducedHandlesOfMaxWordLetters(t *testing.T) {
	for _, c := range []struct {
		between, behind int
		letters         int
		code            int64
	}{
		{13, 1, 40, impl.OK}, {13, 2, 0, impl.ErrFull}, {12, 4, 40, impl.OK}, {12, 5, 0, impl.ErrFull}, {14, 0, 0, impl.ErrFull}, {38, 0, 0, impl.ErrFull}, {1, 37, 40, impl.OK}, {0, 38, 38, impl.OK},
	} {
		b := braid(3, slices.Concat([]int64{1}, copiesOf(2, c.between), []int64{-1}, copiesOf(1, c.behind))...)
		got, code := impl.ReduceHandle(b, handle(0, c.between+1))
		is(t, fmt.Sprint("ReduceHandle of ", b), result(len(got.Word), code), result(c.letters, c.code))
	}
}

// A handle that is none, and too many letters: a braid that is not valid comes first, then what is no handle.
func TestErrorsOfReduceHandle(t *testing.T) {
	long := slices.Concat([]int64{1}, copiesOf(2, 38), []int64{-1})
	is(t, "too many letters", result(impl.ReduceHandle(braid(3, long...), handle(0, 39))), result(impl.Braid{}, impl.ErrFull))
	is(t, "no handle of a word that would get too long", result(impl.ReduceHandle(braid(3, long...), handle(0, 38))), result(impl.Braid{}, impl.ErrState))
	is(t, "not valid, and too many letters", result(impl.ReduceHandle(braid(2, long...), handle(0, 39))), result(impl.Braid{}, impl.ErrInvalid))
	is(t, "not valid, and no handle", result(impl.ReduceHandle(braid(2, long...), handle(0, 40))), result(impl.Braid{}, impl.ErrInvalid))
}

// P7: the form has no handles and is the same braid; its steps are those of first handles.
func TestHandleForm(t *testing.T) {
	for _, b := range handleBraids() {
		name := fmt.Sprint("HandleForm of ", b)
		want, steps := formByHand(b.Word, 5001)
		is(t, name, steps <= 5000, true)
		form, got, code := impl.HandleForm(b, 5000)
		is(t, name, result(form, got, code), result(want, steps, impl.OK))
		is(t, name, handlesByHand(form), "[]")
		is(t, name, result(impl.HandleForm(b, int64(steps))), result(want, steps, impl.OK))
		if steps > 0 {
			is(t, name, result(impl.HandleForm(b, int64(steps-1))), result([]int64{}, 0, impl.ErrFull))
			is(t, name, result(impl.HandleForm(b, 0)), result([]int64{}, 0, impl.ErrFull))
		}
		if len(b.Word) <= 12 {
			isEqualAsBraid(t, name, b, braid(b.Strands, form...))
		} else if len(form) <= impl.MaxWord {
			is(t, name, impl.EqualBraids(b, braid(b.Strands, form...)), true)
		}
	}
}

func TestSomeHandleForms(t *testing.T) {
	is(t, "no letters", result(impl.HandleForm(braid(0), 0)), "[[] 0 0]")
	is(t, "one strand", result(impl.HandleForm(braid(1), 5000)), "[[] 0 0]")
	is(t, "no handles", result(impl.HandleForm(braid(3, 1, -2, 1, -2), 0)), "[[1 -2 1 -2] 0 0]")
	is(t, "two handles", result(impl.HandleForm(braid(3, 1, 2, -1, -2), 2)), "[[-2 1] 2 0]")
	is(t, "handles inside handles", result(impl.HandleForm(braid(4, 1, 2, 3, -3, -2, -1), 3)), "[[] 3 0]")
	is(t, "the same braid twice", result(impl.HandleForm(braid(3, 1, 2, 1, -2, -1, -2), 5000)), "[[] 4 0]")
	is(t, "MaxWord letters that cancel", result(impl.HandleForm(cancellingPairs(12, 20), 20)), "[[] 20 0]")
	is(t, "one step less", result(impl.HandleForm(cancellingPairs(12, 20), 19)), "[[] 0 5]")
}

// Forms may have more than MaxWord letters.
func TestLongHandleForms(t *testing.T) {
	between := 38
	b := braid(3, slices.Concat([]int64{1}, copiesOf(2, between), []int64{-1})...)
	is(t, "long on the way", result(impl.HandleForm(b, int64(between))), result(slices.Concat([]int64{-2}, copiesOf(1, between), []int64{2}), between, impl.OK))
	b = braid(5, slices.Concat([]int64{1}, slices.Repeat([]int64{2, 4, 3, 4}, 9), []int64{-1, 1})...)
	want, steps := formByHand(b.Word, 5001)
	form, got, code := impl.HandleForm(b, 5000)
	is(t, "long at the end", result(form, got, code), result(want, steps, impl.OK))
	is(t, "more than MaxWord letters", len(form) > impl.MaxWord, true)
}

func TestBudgetsOfHandleForm(t *testing.T) {
	for _, budget := range []int64{-1, 5001, math.MinInt64, math.MaxInt64} {
		for _, b := range []impl.Braid{braid(0), braid(2), braid(2, 1, -1), steps5002()} {
			form, steps, code := impl.HandleForm(b, budget)
			is(t, fmt.Sprint("HandleForm of ", b), result(form == nil, steps, code), result(true, 0, impl.ErrRange))
			is(t, fmt.Sprint("HandleTrivial of ", b), result(impl.HandleTrivial(b, budget)), result(false, impl.ErrRange))
			is(t, fmt.Sprint("SignOfBraid of ", b), result(impl.SignOfBraid(b, budget)), result(0, impl.ErrRange))
			is(t, fmt.Sprint("HandleEqual of ", b), result(impl.HandleEqual(b, b, budget)), result(false, impl.ErrRange))
			is(t, fmt.Sprint("CompareBraids of ", b), result(impl.CompareBraids(b, b, budget)), result(0, impl.ErrRange))
		}
	}
}

// Braids that need as many handles as MaxHandleSteps, or a few more or less.
func TestHandlesOfMaxHandleSteps(t *testing.T) {
	for steps, b := range map[int]impl.Braid{4995: steps4995(), 4999: steps4999(), 5002: steps5002()} {
		want, most := formByHand(b.Word, 6000)
		is(t, "steps by hand", most, steps)
		if steps > 5000 {
			is(t, "HandleForm", result(impl.HandleForm(b, 5000)), result([]int64{}, 0, impl.ErrFull))
			is(t, "HandleTrivial", result(impl.HandleTrivial(b, 5000)), result(false, impl.ErrFull))
			is(t, "SignOfBraid", result(impl.SignOfBraid(b, 5000)), result(0, impl.ErrFull))
			continue
		}
		is(t, "HandleForm", result(impl.HandleForm(b, 5000)), result(want, steps, impl.OK))
		is(t, "just enough", result(impl.HandleForm(b, int64(steps))), result(want, steps, impl.OK))
		is(t, "one less", result(impl.HandleForm(b, int64(steps-1))), result([]int64{}, 0, impl.ErrFull))
	}
	b := steps4995()
	sign := signOfWordByHand(b.Word)
	for pairs, code := range map[int]int64{0: impl.OK, 5: impl.OK, 6: impl.ErrFull, 20: impl.ErrFull} {
		a := cancellingPairs(8, pairs)
		order := int64(0)
		if code == impl.OK {
			order = -sign
		}
		is(t, fmt.Sprint("HandleEqual behind pairs ", pairs), result(impl.HandleEqual(a, b, 5000)), result(false, code))
		is(t, fmt.Sprint("CompareBraids behind pairs ", pairs), result(impl.CompareBraids(a, b, 5000)), result(order, code))
	}
}

// signOfWordByHand reads the sign from the form of a word.
func signOfWordByHand(word []int64) int64 {
	form, _ := formByHand(word, 20000)
	least := int64(math.MaxInt64)
	sign := int64(0)
	for _, letter := range form {
		if g := numberOf(letter); g < least {
			least, sign = g, letter/g
		}
	}
	return sign
}

func TestMainLetter(t *testing.T) {
	for name, c := range map[string]struct {
		b    impl.Braid
		want []any
	}{
		"no letters":                   {braid(0), result(0, false)},
		"no letters, more strands":     {braid(12), result(0, false)},
		"one letter":                   {braid(2, 1), result(1, true)},
		"one negative letter":          {braid(12, -11), result(-11, true)},
		"least at the end":             {braid(4, 3, -3, 2, 3, 1), result(1, true)},
		"negative at the end":          {braid(4, 3, -3, 2, 3, -1), result(-1, true)},
		"negative several times":       {braid(4, -2, 3, -2, -3, -2), result(-2, true)},
		"positive several times":       {braid(4, 2, -3, 2, -3, 2), result(2, true)},
		"both signs":                   {braid(4, 2, 3, -2), result(0, false)},
		"both signs, negative first":   {braid(4, -1, 2, 1), result(0, false)},
		"both signs at the end":        {braid(4, 1, 1, 2, -1), result(0, false)},
		"both signs of another letter": {braid(4, 1, 2, -2, 3, -3), result(1, true)},
		"MaxWord letters":              {braid(3, append(copiesOf(-2, 39), -1)...), result(-1, true)},
	} {
		is(t, name, result(impl.MainLetter(c.b)), c.want)
	}
}

// In the form of a braid the letters of the least generator have one sign.
func TestMainLettersOfForms(t *testing.T) {
	for _, b := range handleBraids() {
		form, _, _ := impl.HandleForm(b, 5000)
		if len(form) <= impl.MaxWord {
			letter, ok := impl.MainLetter(braid(b.Strands, form...))
			sign := signOfWordByHand(form)
			is(t, fmt.Sprint("MainLetter of ", form), result(ok, letter > 0, letter < 0), result(len(form) > 0, sign > 0, sign < 0))
		}
	}
}

// P7, the guarantee: HandleTrivial agrees with IsTrivial.
func TestHandleTrivialAgreesWithIsTrivial(t *testing.T) {
	trivial := 0
	for _, b := range handleBraids() {
		is(t, fmt.Sprint("HandleTrivial of ", b), result(impl.HandleTrivial(b, 5000)), result(impl.IsTrivial(b), impl.OK))
		both := slices.Concat(impl.InvertBraid(b).Word, changedByRelations(b, 60).Word)
		if len(both) <= impl.MaxWord {
			trivial++
			is(t, fmt.Sprint("HandleTrivial of ", both), result(impl.HandleTrivial(braid(b.Strands, both...), 5000)), result(true, impl.OK))
		}
	}
	is(t, "many trivial braids", trivial >= 100, true)
	is(t, "just enough handles", result(impl.HandleTrivial(cancellingPairs(2, 3), 3)), result(true, impl.OK))
	is(t, "one handle less", result(impl.HandleTrivial(cancellingPairs(2, 3), 2)), result(false, impl.ErrFull))
	is(t, "no handles", result(impl.HandleTrivial(braid(0), 0)), result(true, impl.OK))
	is(t, "no handles", result(impl.HandleTrivial(braid(2, 1), 0)), result(false, impl.OK))
}

// P7: handles decide whether braids are equal.
func TestHandleEqualAgreesWithEqualBraids(t *testing.T) {
	for _, words := range [][]impl.Braid{allWords(2, 4), allWords(3, 3), allWords(4, 2), allWords(0, 1), allWords(1, 1)} {
		for _, a := range words {
			for _, b := range words {
				is(t, fmt.Sprint("HandleEqual of ", a, b), result(impl.HandleEqual(a, b, 5000)), result(impl.EqualBraids(a, b), impl.OK))
			}
		}
	}
	for n := range int64(13) {
		for _, a := range append(manyBraids(n, 40, 8), manyBraids(n, 12, 8)...) {
			is(t, fmt.Sprint("HandleEqual of ", a, " and itself"), result(impl.HandleEqual(a, a, 5000)), result(true, impl.OK))
			changed := changedByRelations(a, 300)
			is(t, fmt.Sprint("HandleEqual of ", a, changed), result(impl.HandleEqual(a, changed, 5000)), result(true, impl.OK))
			for _, b := range manyBraids(n, 14, 8) {
				is(t, fmt.Sprint("HandleEqual of ", a, b), result(impl.HandleEqual(a, b, 5000)), result(impl.EqualBraids(a, b), impl.OK))
			}
		}
	}
}

// The word has the letters of a first, so that these meet those of b.
func TestWordOfHandleEqual(t *testing.T) {
	a, b := braid(3, 1, 2, 1), braid(3, 2, 1, 2)
	_, steps := formByHand([]int64{-1, -2, -1, 2, 1, 2}, 5001)
	is(t, "just enough handles", result(impl.HandleEqual(a, b, int64(steps))), result(true, impl.OK))
	is(t, "one handle less", result(impl.HandleEqual(a, b, int64(steps-1))), result(false, impl.ErrFull))
	most := repeated(12, 11, 40)
	is(t, "MaxWord letters", result(impl.HandleEqual(most, most, 40)), result(true, impl.OK))
	is(t, "MaxWord letters, one handle less", result(impl.HandleEqual(most, most, 39)), result(false, impl.ErrFull))
	is(t, "twice MaxWord letters", result(impl.HandleEqual(most, repeated(12, -11, 40), 0)), result(false, impl.OK))
	is(t, "order of twice MaxWord letters", result(impl.CompareBraids(most, repeated(12, -11, 40), 0)), result(1, impl.OK))
}

// Both have the same errors in the same order.
func TestErrorsOfHandleEqualAndCompareBraids(t *testing.T) {
	isError := func(a, b impl.Braid, budget, code int64) {
		t.Helper()
		is(t, fmt.Sprint("HandleEqual of ", a, b, budget), result(impl.HandleEqual(a, b, budget)), result(false, code))
		is(t, fmt.Sprint("CompareBraids of ", a, b, budget), result(impl.CompareBraids(a, b, budget)), result(0, code))
	}
	for _, b := range notBraids() {
		for _, budget := range []int64{-1, 0, 5000, 5001} {
			isError(b, braid(3), budget, impl.ErrInvalid)
			isError(braid(3), b, budget, impl.ErrInvalid)
			isError(b, b, budget, impl.ErrInvalid)
		}
	}
	for _, budget := range []int64{-1, 0, 5000, 5001} {
		isError(braid(2), braid(3), budget, impl.ErrState)
		isError(braid(0), braid(1), budget, impl.ErrState)
		isError(cancellingPairs(3, 2), braid(2), budget, impl.ErrState)
	}
	for _, budget := range []int64{-1, 5001} {
		isError(braid(3), braid(3), budget, impl.ErrRange)
		isError(cancellingPairs(3, 2), braid(3), budget, impl.ErrRange)
		isError(steps5002(), braid(8), budget, impl.ErrRange)
	}
	isError(cancellingPairs(3, 2), braid(3), 1, impl.ErrFull)
	isError(braid(3, 1), braid(3, 1), 0, impl.ErrFull)
	isError(braid(8), steps5002(), 5000, impl.ErrFull)
}

// P7: the sign does not depend on the word.
func TestSignOfBraid(t *testing.T) {
	for _, b := range handleBraids() {
		name := fmt.Sprint("SignOfBraid of ", b)
		sign, code := impl.SignOfBraid(b, 5000)
		is(t, name, code, impl.OK)
		is(t, name, sign == 0, impl.IsTrivial(b))
		if len(b.Word) <= 12 {
			is(t, name, sign, signByHand(b))
		}
		is(t, name+" inverted", result(impl.SignOfBraid(impl.InvertBraid(b), 5000)), result(-sign, impl.OK))
		is(t, name+" with other words", result(impl.SignOfBraid(changedByRelations(b, 100), 5000)), result(sign, impl.OK))
	}
	is(t, "least generator", result(impl.SignOfBraid(braid(3, -2, -2, 1, -2), 0)), result(1, impl.OK))
	is(t, "trivial", result(impl.SignOfBraid(braid(3, 2, -2), 1)), result(0, impl.OK))
	is(t, "one handle less", result(impl.SignOfBraid(braid(3, 2, -2), 0)), result(0, impl.ErrFull))
}

// The guarantee: a braid of positive letters is not less than the trivial one.
func TestPositiveBraids(t *testing.T) {
	for n := int64(2); n <= 12; n++ {
		for _, b := range manyBraids(n, 40, 20) {
			for i, letter := range b.Word {
				b.Word[i] = numberOf(letter)
			}
			sign := int64(min(1, len(b.Word)))
			is(t, fmt.Sprint("SignOfBraid of ", b), result(impl.SignOfBraid(b, 0)), result(sign, impl.OK))
			is(t, fmt.Sprint("CompareBraids with ", b), result(impl.CompareBraids(b, braid(n), 5000)), result(sign, impl.OK))
			other := changedByRelations(b, 200)
			is(t, fmt.Sprint("SignOfBraid of ", other), result(impl.SignOfBraid(other, 5000)), result(sign, impl.OK))
		}
	}
}

// comparedBraids returns braids with the same number of strands.
func comparedBraids() [][]impl.Braid {
	list := [][]impl.Braid{{braid(0)}, {braid(1)}, allWords(2, 3), allWords(3, 2), manyBraids(3, 12, 30)}
	for _, n := range []int64{4, 5, 8, 12} {
		list = append(list, manyBraids(n, 12, 16))
	}
	return list
}

func orderOf(t *testing.T, a, b impl.Braid) int64 {
	t.Helper()
	order, code := impl.CompareBraids(a, b, 5000)
	is(t, fmt.Sprint("code of CompareBraids of ", a, b), code, impl.OK)
	return order
}

// P7: the order is total.
func TestCompareBraids(t *testing.T) {
	for _, braids := range comparedBraids() {
		for _, a := range braids {
			for _, b := range braids {
				order := orderOf(t, a, b)
				name := fmt.Sprint("CompareBraids of ", a, b)
				is(t, name, order == 0, impl.EqualBraids(a, b))
				is(t, name, order, -orderOf(t, b, a))
				is(t, name, order, -signByHand(joinOfBraids(t, impl.InvertBraid(a), b)))
			}
		}
		sorted := slices.SortedFunc(slices.Values(braids), func(a, b impl.Braid) int { return int(orderOf(t, a, b)) })
		for i := range sorted {
			for k := range i {
				is(t, fmt.Sprint("sorted: ", sorted[k], sorted[i]), orderOf(t, sorted[k], sorted[i]) <= 0, true)
			}
		}
	}
	is(t, "less", result(impl.CompareBraids(braid(3), braid(3, 1), 0)), result(-1, impl.OK))
	is(t, "greater", result(impl.CompareBraids(braid(3), braid(3, -1), 0)), result(1, impl.OK))
	is(t, "a first generator is greater than many others", result(impl.CompareBraids(repeated(3, 2, 40), braid(3, 1), 5000)), result(-1, impl.OK))
}

// P7: the order does not depend on what precedes both.
func TestOrderBehindBraids(t *testing.T) {
	for _, braids := range comparedBraids() {
		for _, c := range manyBraids(braids[0].Strands, 12, 4) {
			for i, a := range braids {
				b := braids[(i*7+3)%len(braids)]
				is(t, fmt.Sprint("order of ", a, b, " behind ", c), orderOf(t, joinOfBraids(t, c, a), joinOfBraids(t, c, b)), orderOf(t, a, b))
			}
		}
	}
	is(t, "not the same if the same braid follows both", result(orderOf(t, braid(3), braid(3, 1, -2)), orderOf(t, braid(3, -2, -1), braid(3, 1, -2, -2, -1))), "[-1 1]")
}
