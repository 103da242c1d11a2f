package impl

import (
	"slices"
	"testing"
)

// This test is beside the program, and not in the folder tests, because no braid was found whose words pass MaxHandleWord letters within MaxHandleSteps handles.
// The first handle makes three letters of each letter between its ends; all others take away two of these.
func TestWordsOfMaxHandleWordLetters(t *testing.T) {
	for _, c := range []struct {
		before, between int
		fits            bool
	}{
		{0, 1333, true}, {1, 1333, true}, {2, 1333, false}, {4, 1332, true}, {5, 1332, false}, {0, 1334, false}, {0, 3998, false},
	} {
		before := slices.Repeat([]int64{3}, c.before)
		letters := slices.Concat(before, []int64{1}, slices.Repeat([]int64{2}, c.between), []int64{-1})
		want := slices.Concat(before, []int64{-2}, slices.Repeat([]int64{1}, c.between), []int64{2})
		wantSteps, wantCode := int64(c.between), int64(OK)
		if !c.fits {
			want, wantSteps, wantCode = nil, 0, ErrFull
		}
		form, steps, code := handleForm(letters, MaxHandleSteps)
		if !slices.Equal(form, want) || steps != wantSteps || code != wantCode {
			t.Errorf("%d and %d: got %d letters, %d steps, code %d", c.before, c.between, len(form), steps, code)
		}
	}
}
