package tests

import (
	"fmt"
	"math"
	"slices"
	"strings"
	"testing"

	"loop.example/g00856/impl"
)

// layoutPicture shows the front needles from the left on, each with the number of its column.
const layoutPicture = ".0.1.2.3.4.5.6.7."

func needleByHand(column int) int64 {
	return int64(strings.Index(layoutPicture, fmt.Sprint(column)))
}

// columnLetters writes, for each column before and after a row, the letter of the stitch that takes or makes it: a for the first stitch, and so on.
func columnLetters(text string) (before, after string) {
	for i, symbol := range text {
		taken, made := columnsByHand(string(symbol))
		letter := string(rune('a' + i))
		before += strings.Repeat(letter, taken)
		after += strings.Repeat(letter, made)
	}
	return before, after
}

// placesOf are the indices of a letter.
func placesOf(letters, letter string) []int64 {
	places := []int64{}
	for i := range letters {
		if letters[i:i+1] == letter {
			places = append(places, int64(i))
		}
	}
	return places
}

// layoutOf are the results of all functions for a row, and the codes with which they come.
type layoutOf struct {
	sources, results     [][]int64
	fresh                []int64
	own, together, moved []int64
	codes                [4]int64
}

func layout(r impl.Row) layoutOf {
	l := layoutOf{}
	l.sources, l.codes[0] = impl.RowSources(r)
	l.results, l.codes[1] = impl.RowResults(r)
	l.fresh, l.codes[2] = impl.NewColumns(r)
	l.own, l.together, l.moved, l.codes[3] = impl.RowTargets(r)
	return l
}

// allCodes is one code for all functions.
func allCodes(code int64) [4]int64 { return [4]int64{code, code, code, code} }

// layoutByHand reads all of it off the letters of the columns.
func layoutByHand(text string) layoutOf {
	l := layoutOf{}
	before, after := columnLetters(text)
	for i := range text {
		letter := string(rune('a' + i))
		l.sources = append(l.sources, placesOf(before, letter))
		l.results = append(l.results, placesOf(after, letter))
	}
	for column, letter := range after {
		if !strings.ContainsRune(before, letter) {
			l.fresh = append(l.fresh, int64(column))
		}
	}
	for column, letter := range before {
		first, made := strings.IndexRune(before, letter), strings.IndexRune(after, letter)
		l.own = append(l.own, needleByHand(column))
		if strings.Count(before, string(letter)) == strings.Count(after, string(letter)) {
			l.together = append(l.together, needleByHand(column))
			l.moved = append(l.moved, needleByHand(made+column-first))
		} else {
			l.together = append(l.together, needleByHand(first))
			l.moved = append(l.moved, needleByHand(made))
		}
	}
	return l
}

// hasLayout compares all results for a valid row with those by hand.
func hasLayout(t *testing.T, r impl.Row) int64 {
	t.Helper()
	text := symbolsOf(r.Stitches)
	want, code := layoutOf{}, int64(impl.ErrStitches)
	if isLaidOutByHand(text) {
		want, code = layoutByHand(text), impl.OK
	}
	want.codes = allCodes(code)
	got := layout(r)
	is(t, fmt.Sprint("layout of ", r, text), got, want)
	is(t, fmt.Sprint("memory of ", r), result(shareMemory(got.sources), shareMemory(got.results), shareMemory([][]int64{got.own, got.together, got.moved})), "[false false false]")
	return code
}

// hasNoLayout checks a row of which nothing is known but an error.
func hasNoLayout(t *testing.T, r impl.Row, code int64) {
	t.Helper()
	is(t, fmt.Sprint("no layout of ", r), layout(r), layoutOf{codes: allCodes(code)})
}

func TestExamplesOfLayouts(t *testing.T) {
	r := row(t, "> 1 kodk")
	is(t, "kodk", result(impl.RowTargets(r)), "[[1 3 5 7] [1 3 3 7] [1 5 5 7] 0]")
	is(t, "columns of kodk", result(result(impl.RowSources(r)), result(impl.RowResults(r)), result(impl.NewColumns(r))), "[[[[0] [] [1 2] [3]] 0] [[[0] [1] [2] [3]] 0] [[1] 0]]")
	is(t, "limit", result(impl.Gauge, impl.MaxColumns), "[2 8]")
}

func TestNeedlesOfColumns(t *testing.T) {
	for column := range 8 {
		needle, ok := impl.NeedleOfColumn(int64(column))
		is(t, fmt.Sprint("needle of column ", column), result(needle, ok), result(needleByHand(column), true))
		back, ok := impl.ColumnOfNeedle(needle)
		is(t, fmt.Sprint("there and back ", column), result(back, ok, needle), result(column, true, impl.Gauge*column+1))
	}
	for _, column := range []int64{math.MinInt64, math.MinInt64 + 1, -1 << 62, -(1 << 32), -9, -8, -2, -1, 8, 9, 11, 12, 24, 256, 1 << 32, 1<<32 + 1, 1 << 62, math.MaxInt64 - 1, math.MaxInt64} {
		is(t, fmt.Sprint("needle of column ", column), result(impl.NeedleOfColumn(column)), "[0 false]")
	}
}

func TestColumnsOfNeedles(t *testing.T) {
	found := 0
	for needle := int64(-40); needle <= 40; needle++ {
		column, ok := impl.ColumnOfNeedle(needle)
		if needle < 0 || needle >= int64(len(layoutPicture)) || layoutPicture[needle] == '.' {
			is(t, fmt.Sprint("column of needle ", needle), result(column, ok), "[0 false]")
			continue
		}
		is(t, fmt.Sprint("column of needle ", needle), result(column, ok), result(string(layoutPicture[needle]), true))
		found++
	}
	is(t, "needles of columns", found, 8)
	for _, needle := range []int64{math.MinInt64, math.MinInt64 + 1, -1 << 62, 1 - 1<<62, -(1 << 32), 1 - 1<<32, 1 << 32, 1<<32 + 1, 1<<32 + 3, 1 << 62, 1<<62 + 1, math.MaxInt64 - 1, math.MaxInt64} {
		is(t, fmt.Sprint("column of needle ", needle), result(impl.ColumnOfNeedle(needle)), "[0 false]")
	}
}

// widthByHand counts the needles up to the one behind the last column that there ever is.
func widthByHand(c impl.Chart) int {
	stacks, _ := chartByHand(c)
	width := 0
	for _, list := range append(stacks, copiesOf(1, int(c.Columns))) {
		width = max(width, strings.Index(layoutPicture, fmt.Sprint(len(list)-1))+len("x."))
	}
	return width
}

func TestLayoutWidths(t *testing.T) {
	for _, c := range []struct {
		columns int64
		rows    []string
		want    int64
	}{
		{1, []string{"> 1 k"}, 3}, {2, []string{"> 1 kk"}, 5}, {8, []string{"> 1 kkkkkkkk"}, 17}, {1, []string{"> 1 k", "< 2 p", "> 3 t"}, 3}, {8, []string{"> 1 XX", "< 1 YY"}, 17},
		{4, []string{"> 1 dd", "> 1 d", "> 1 k"}, 9}, {8, []string{"> 1 dddd"}, 17}, {5, []string{"> 1 kkkd", "> 1 kkkk"}, 11}, {2, []string{"> 1 d", "> 1 ok"}, 5}, {3, []string{"> 1 dk", "< 1 xo", "> 1 kkk"}, 7},
		{2, []string{"< 1 kok"}, 7}, {1, []string{"> 1 oooooook"}, 17}, {1, []string{"> 1 k", "> 1 k", "> 1 ok"}, 5}, {4, []string{"> 1 kkkk", "> 1 kkkko"}, 11},
		{1, []string{"> 1 oook", "> 1 dd", "> 1 d"}, 9}, {2, []string{"> 1 oxo", "< 1 dd"}, 9}, {1, []string{"> 1 oooooook", "> 1 dddd"}, 17}, {1, []string{"> 1 ok", "> 1 ooxo", "> 1 dek", "> 1 kkk"}, 11}, {3, []string{"> 1 dk", "> 1 ooooookk", "> 1 dddd", "> 1 ee"}, 17},
		{7, []string{"> 1 okkkkkkk"}, 17}, {8, []string{"> 1 ddddoooo"}, 17}, {6, []string{"< 1 kkkkkk", "< 1 kkkkko"}, 0},
	} {
		want := result(c.want, impl.OK)
		if c.want == 0 {
			want = result(0, impl.ErrInvalid)
		}
		made := chart(t, c.columns, c.rows...)
		is(t, fmt.Sprint("LayoutWidth ", c.columns, c.rows), result(impl.LayoutWidth(made)), want)
		if c.want > 0 {
			is(t, "by hand", widthByHand(made), c.want)
		}
	}
	for _, c := range notCharts(t) {
		is(t, fmt.Sprint("LayoutWidth ", c), result(impl.LayoutWidth(c)), "[0 1]")
	}
}

func TestLayoutWidthsOfManyCharts(t *testing.T) {
	widths := map[int64]int{}
	for _, c := range manyCharts(t, 320) {
		width, code := impl.LayoutWidth(c)
		is(t, fmt.Sprint("LayoutWidth ", c), result(width, code), result(widthByHand(c), impl.OK))
		widths[width]++
	}
	is(t, "all widths", len(widths), 8)
}

// Each row: the columns taken and made, the new ones, and the three needles of each column.
func TestLayouts(t *testing.T) {
	for _, c := range []struct{ text, sources, results, fresh, own, together, moved string }{
		{"k", "[[0]]", "[[0]]", "[]", "[1]", "[1]", "[1]"},
		{"p", "[[0]]", "[[0]]", "[]", "[1]", "[1]", "[1]"},
		{"t", "[[0]]", "[[0]]", "[]", "[1]", "[1]", "[1]"},
		{"s", "[[0]]", "[[0]]", "[]", "[1]", "[1]", "[1]"},
		{"d", "[[0 1]]", "[[0]]", "[]", "[1 3]", "[1 1]", "[1 1]"},
		{"e", "[[0 1]]", "[[0]]", "[]", "[1 3]", "[1 1]", "[1 1]"},
		{"x", "[[0 1]]", "[[0 1]]", "[]", "[1 3]", "[1 3]", "[1 3]"},
		{"y", "[[0 1]]", "[[0 1]]", "[]", "[1 3]", "[1 3]", "[1 3]"},
		{"X", "[[0 1 2 3]]", "[[0 1 2 3]]", "[]", "[1 3 5 7]", "[1 3 5 7]", "[1 3 5 7]"},
		{"Y", "[[0 1 2 3]]", "[[0 1 2 3]]", "[]", "[1 3 5 7]", "[1 3 5 7]", "[1 3 5 7]"},
		{"ok", "[[] [0]]", "[[0] [1]]", "[0]", "[1]", "[1]", "[3]"},
		{"ko", "[[0] []]", "[[0] [1]]", "[1]", "[1]", "[1]", "[1]"},
		{"oook", "[[] [] [] [0]]", "[[0] [1] [2] [3]]", "[0 1 2]", "[1]", "[1]", "[7]"},
		{"kooo", "[[0] [] [] []]", "[[0] [1] [2] [3]]", "[1 2 3]", "[1]", "[1]", "[1]"},
		{"oko", "[[] [0] []]", "[[0] [1] [2]]", "[0 2]", "[1]", "[1]", "[3]"},
		{"kook", "[[0] [] [] [1]]", "[[0] [1] [2] [3]]", "[1 2]", "[1 3]", "[1 3]", "[1 7]"},
		{"oooooood", "[[] [] [] [] [] [] [] [0 1]]", "[[0] [1] [2] [3] [4] [5] [6] [7]]", "[0 1 2 3 4 5 6]", "[1 3]", "[1 1]", "[15 15]"},
		{"de", "[[0 1] [2 3]]", "[[0] [1]]", "[]", "[1 3 5 7]", "[1 1 5 5]", "[1 1 3 3]"},
		{"ed", "[[0 1] [2 3]]", "[[0] [1]]", "[]", "[1 3 5 7]", "[1 1 5 5]", "[1 1 3 3]"},
		{"dddd", "[[0 1] [2 3] [4 5] [6 7]]", "[[0] [1] [2] [3]]", "[]", "[1 3 5 7 9 11 13 15]", "[1 1 5 5 9 9 13 13]", "[1 1 3 3 5 5 7 7]"},
		{"doeo", "[[0 1] [] [2 3] []]", "[[0] [1] [2] [3]]", "[1 3]", "[1 3 5 7]", "[1 1 5 5]", "[1 1 5 5]"},
		{"oooode", "[[] [] [] [] [0 1] [2 3]]", "[[0] [1] [2] [3] [4] [5]]", "[0 1 2 3]", "[1 3 5 7]", "[1 1 5 5]", "[9 9 11 11]"},
		{"kde", "[[0] [1 2] [3 4]]", "[[0] [1] [2]]", "[]", "[1 3 5 7 9]", "[1 3 3 7 7]", "[1 3 3 5 5]"},
		{"kxo", "[[0] [1 2] []]", "[[0] [1 2] [3]]", "[3]", "[1 3 5]", "[1 3 5]", "[1 3 5]"},
		{"oxkd", "[[] [0 1] [2] [3 4]]", "[[0] [1 2] [3] [4]]", "[0]", "[1 3 5 7 9]", "[1 3 5 7 7]", "[3 5 7 9 9]"},
		{"dYs", "[[0 1] [2 3 4 5] [6]]", "[[0] [1 2 3 4] [5]]", "[]", "[1 3 5 7 9 11 13]", "[1 1 5 7 9 11 13]", "[1 1 3 5 7 9 11]"},
		{"oXoeo", "[[] [0 1 2 3] [] [4 5] []]", "[[0] [1 2 3 4] [5] [6] [7]]", "[0 5 7]", "[1 3 5 7 9 11]", "[1 3 5 7 9 9]", "[3 5 7 9 13 13]"},
		{"kkkkkkkk", "[[0] [1] [2] [3] [4] [5] [6] [7]]", "[[0] [1] [2] [3] [4] [5] [6] [7]]", "[]", "[1 3 5 7 9 11 13 15]", "[1 3 5 7 9 11 13 15]", "[1 3 5 7 9 11 13 15]"},
		{"Xyy", "[[0 1 2 3] [4 5] [6 7]]", "[[0 1 2 3] [4 5] [6 7]]", "[]", "[1 3 5 7 9 11 13 15]", "[1 3 5 7 9 11 13 15]", "[1 3 5 7 9 11 13 15]"},
	} {
		for _, dir := range []string{"> 1 ", "< 4 "} {
			r := row(t, dir+c.text)
			is(t, "RowSources "+c.text, result(impl.RowSources(r)), "["+c.sources+" 0]")
			is(t, "RowResults "+c.text, result(impl.RowResults(r)), "["+c.results+" 0]")
			is(t, "NewColumns "+c.text, result(impl.NewColumns(r)), "["+c.fresh+" 0]")
			is(t, "RowTargets "+c.text, result(impl.RowTargets(r)), "["+c.own+" "+c.together+" "+c.moved+" 0]")
			is(t, "as by hand", hasLayout(t, r), impl.OK)
		}
	}
}

// Each stitch is the only one, the first one and the last one, behind and in front of as many others as there may be, and more.
func TestLayoutsOfEachStitch(t *testing.T) {
	codes := map[int64]int{}
	for _, symbol := range symbolsByHand {
		for left := range 9 {
			for right := range 9 {
				for _, others := range []string{"k", "o", "d"} {
					text := strings.Repeat(others, min(left, 8)) + string(symbol) + strings.Repeat("s", min(right, 7))
					codes[hasLayout(t, impl.Row{Dir: 1 - 2*int64(left%2), Carrier: 1 + int64(right%4), Stitches: kindsIn(t, text)})]++
				}
			}
		}
	}
	is(t, "codes", result(codes[impl.OK] > 500, codes[impl.ErrStitches] > 500, len(codes)), "[true true 2]")
}

func TestRowsWithoutLayout(t *testing.T) {
	for _, text := range []string{"", "o", "oo", "oooooooo", "ooooooooo", strings.Repeat("o", 16), "kkkkkkkkk", "ddddk", "kdddd", "eeeee", strings.Repeat("d", 16), "XYk", "XXXX", strings.Repeat("X", 16), "okkkkkkkk", "kkkkkkkko", "oooooooxk", "ooooooooe", "ddoooooookk"} {
		r := impl.Row{Dir: -1, Carrier: 2, Stitches: kindsIn(t, text)}
		hasNoLayout(t, r, impl.ErrStitches)
		is(t, "as by hand "+text, hasLayout(t, r), impl.ErrStitches)
	}
	// The greatest numbers of columns that there may be, before, after, and both.
	for _, text := range []string{"kkkkkkkk", "dddd", "ddddoooo", "oooodddd", "okkkkkkk", "oooooook", "oooooood", "koooooee", "XY", "oooooox", "kpdtsx", "ddddo"} {
		is(t, "laid out "+text, hasLayout(t, impl.Row{Dir: 1, Carrier: 3, Stitches: kindsIn(t, text)}), impl.OK)
	}
	for _, r := range append(notRows(t), impl.Row{}) {
		hasNoLayout(t, r, impl.ErrInvalid)
	}
}

// A row that is not valid is not valid also if it takes or makes too few columns or too many.
func TestInvalidRowsThatAreNotLaidOut(t *testing.T) {
	for _, text := range []string{"", "o", "kkkkkkkkk", "ooooooooo", "dddde", "okkkkkkkk"} {
		list := kindsIn(t, text)
		is(t, "only not laid out "+text, hasLayout(t, impl.Row{Dir: 1, Carrier: 1, Stitches: list}), impl.ErrStitches)
		for _, r := range []impl.Row{{Dir: 0, Carrier: 1}, {Dir: 2, Carrier: 1}, {Dir: math.MinInt64, Carrier: 1}, {Dir: 1, Carrier: 0}, {Dir: 1, Carrier: 5}, {Dir: -1, Carrier: math.MaxInt64}} {
			r.Stitches = list
			hasNoLayout(t, r, impl.ErrInvalid)
		}
		for _, kind := range notKinds() {
			hasNoLayout(t, impl.Row{Dir: 1, Carrier: 1, Stitches: append(slices.Clone(list), kind)}, impl.ErrInvalid)
			hasNoLayout(t, impl.Row{Dir: 1, Carrier: 1, Stitches: append([]int64{kind}, list...)}, impl.ErrInvalid)
		}
	}
	hasNoLayout(t, impl.Row{Dir: 1, Carrier: 1, Stitches: kindsIn(t, strings.Repeat("o", 17))}, impl.ErrInvalid)
	hasNoLayout(t, impl.Row{Dir: 1, Carrier: 1, Stitches: kindsIn(t, strings.Repeat("k", 17))}, impl.ErrInvalid)
	hasNoLayout(t, impl.Row{Dir: 1, Carrier: 1, Stitches: copiesOf(1, 5000)}, impl.ErrInvalid)
}

// areColumnsInOrder checks that columns keep their order on needles of columns, and that only those of one StLeft or StRight share one.
func areColumnsInOrder(t *testing.T, text string, l layoutOf) {
	t.Helper()
	letters, _ := columnLetters(text)
	for step, needles := range [][]int64{l.own, l.together, l.moved} {
		for i, needle := range needles {
			column, ok := impl.ColumnOfNeedle(needle)
			is(t, fmt.Sprint("needle of a column of ", text, step), ok, true)
			if step == 0 {
				is(t, "its own "+text, column, i)
			}
			if i == 0 {
				continue
			}
			isPair := step > 0 && letters[i-1] == letters[i] && strings.ContainsRune("de", rune(text[letters[i]-'a']))
			if before := needles[i-1]; before > needle || (before == needle) != isPair {
				t.Errorf("RowTargets %s: %v is not in order", text, needles)
			}
		}
	}
}

// P21: also on the way. First columns are put together, then those that are left are moved, and they leave the needles of the new columns free.
func areColumnsMoved(t *testing.T, text string, l layoutOf) {
	t.Helper()
	places := slices.Clone(l.own)
	for _, to := range [][]int64{l.together, slices.Compact(slices.Clone(l.moved))} {
		moves, code := impl.PlanMoves(places, to)
		is(t, fmt.Sprint("plan of ", text), code, impl.OK)
		for _, m := range moves {
			places, code = impl.ApplyMove(places, m)
			is(t, fmt.Sprint("move of ", text, m), code, impl.OK)
		}
		is(t, "places of "+text, places, slices.Compact(slices.Clone(to)))
	}
	for _, column := range l.fresh {
		places = append(places, needleByHand(int(column)))
	}
	slices.Sort(places)
	_, made := columnLetters(text)
	want := []int64{}
	for column := range made {
		want = append(want, needleByHand(column))
	}
	is(t, "needles after "+text, places, want)
}

// P21: all rows of at most three stitches, and many longer ones.
func TestManyLayouts(t *testing.T) {
	codes := map[int64]int{}
	texts := someStitches()
	for seed := range 400 {
		d := dice(seed)
		texts = append(texts, d.rowText(1+seed%8))
	}
	for i, text := range texts {
		if len(text) > 16 {
			continue
		}
		r := impl.Row{Dir: 1 - 2*int64(i%2), Carrier: 1 + int64(i%4), Stitches: kindsIn(t, text)}
		code := hasLayout(t, r)
		codes[code]++
		if code == impl.OK {
			areColumnsInOrder(t, text, layout(r))
			areColumnsMoved(t, text, layout(r))
		}
	}
	is(t, "codes", result(codes[impl.OK] > 1000, codes[impl.ErrStitches] > 200, len(codes)), "[true true 2]")
}

// The sources and the results of a row of a chart are the columns before and behind it, each of them once.
func TestSourcesAndResultsAreAllColumns(t *testing.T) {
	for _, c := range manyCharts(t, 160) {
		stacks, _ := chartByHand(c)
		columns := int(c.Columns)
		for i, r := range c.Rows {
			l := layout(r)
			is(t, fmt.Sprint("sources of ", r), result(slices.Concat(l.sources...), len(l.sources)), result(rising(columns), len(r.Stitches)))
			columns = len(stacks[i])
			is(t, fmt.Sprint("results of ", r), result(slices.Concat(l.results...), len(l.results)), result(rising(columns), len(r.Stitches)))
			is(t, fmt.Sprint("new columns of ", r), result(len(l.fresh), l.codes), result(strings.Count(symbolsOf(r.Stitches), "o"), allCodes(impl.OK)))
		}
	}
}

// No two lists of a result share memory, also not as the unused capacity of one another, nor do the lists of different calls.
func TestLayoutsShareNoMemory(t *testing.T) {
	r := row(t, "> 1 oXdeo")
	for name, call := range map[string]func() [][]int64{
		"RowSources": func() [][]int64 { return layout(r).sources },
		"RowResults": func() [][]int64 { return layout(r).results },
		"RowTargets": func() [][]int64 {
			l := layout(r)
			return [][]int64{l.own, l.together, l.moved}
		},
		"all": func() [][]int64 {
			l := layout(r)
			return slices.Concat(l.sources, l.results, [][]int64{l.own, l.together, l.moved, l.fresh})
		},
	} {
		want := call()
		is(t, name+" has lists", len(want) >= 3, true)
		for k := range want {
			got := call()
			scribble(result(got[k]))
			is(t, name+" before the list", got[:k], want[:k])
			is(t, name+" behind the list", got[k+1:], want[k+1:])
		}
	}
	is(t, "the argument", r, row(t, "> 1 oXdeo"))
}
