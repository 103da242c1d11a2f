package impl

import "testing"

// This test is beside the program, and not in the folder tests, because the package does not show the map of the names.
func TestBothWaysToANameOfACode(t *testing.T) {
	for code := int64(-1); code <= ErrPlan+1; code++ {
		kept, computed := keptNameOfCode(code), nameOfCode(code)
		if kept != computed || CodeName(code) != computed {
			t.Errorf("%d: kept %q, computed %q, CodeName %q", code, kept, computed, CodeName(code))
		}
		if isCode := code >= OK && code <= ErrPlan; isCode != (computed != "") {
			t.Errorf("%d: computed %q", code, computed)
		}
	}
	if len(codeNames) != ErrPlan+1 {
		t.Errorf("the map has %d names", len(codeNames))
	}
}

func TestCodeNameDoesNotDependOnTheMap(t *testing.T) {
	keptNameOfCode(OK)
	names := codeNames
	defer func() { codeNames = names }()
	for _, wrong := range []map[int64]string{nil, {OK: "wrong", ErrPlan: "wrong", -1: "wrong", ErrPlan + 1: "wrong"}} {
		codeNames = wrong
		for code, want := range map[int64]string{-1: "", OK: "ok", ErrPlan: "plan", ErrPlan + 1: ""} {
			if got := CodeName(code); got != want {
				t.Errorf("%d: got %q, want %q", code, got, want)
			}
		}
	}
}
