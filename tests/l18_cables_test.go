package tests

import (
	"fmt"
	"math"
	"slices"
	"strings"
	"testing"

	"loop.example/g00856/impl"
)

// lettersByHand are the letters of symbols, as the document lists them for each first column.
func lettersByHand(text string) []int64 {
	list, column := []int64{}, int64(0)
	for _, symbol := range text {
		for _, letter := range map[rune][]int64{'x': {1}, 'y': {-1}, 'e': {-1}, 'X': {2, 1, 3, 2}, 'Y': {-2, -1, -3, -2}}[symbol] {
			if letter > 0 {
				list = append(list, letter+column)
			} else {
				list = append(list, letter-column)
			}
		}
		taken, _ := columnsByHand(string(symbol))
		column += int64(taken)
	}
	return list
}

func isLaidOutByHand(text string) bool {
	taken, made := columnsByHand(text)
	return taken >= 1 && taken <= 8 && made >= 1 && made <= 8
}

// doubledByHand are the letters by which blocks of strands walk past one another.
func doubledByHand(letters, sizes []int64) []int64 {
	list, blocks := []int64{}, slices.Clone(sizes)
	for _, letter := range letters {
		k := max(letter, -letter)
		list = append(list, lettersOfCrossings(walked(total(blocks[:k-1]), blocks[k-1], blocks[k], letter/k))...)
		blocks[k-1], blocks[k] = blocks[k], blocks[k-1]
	}
	return list
}

// lettersOfCrossings are the letters of all crossings in a list of events.
func lettersOfCrossings(list []impl.Event) []int64 {
	letters := []int64{}
	for _, e := range list {
		if e.Kind == impl.EvCross {
			letters = append(letters, e.Count*(e.Place+1))
		}
	}
	return letters
}

// hasLetters checks the letters of a row.
func hasLetters(t *testing.T, r impl.Row) int64 {
	t.Helper()
	want, code := lettersByHand(symbolsOf(r.Stitches)), int64(impl.OK)
	if !isLaidOutByHand(symbolsOf(r.Stitches)) {
		want, code = nil, impl.ErrStitches
	}
	letters, got := impl.RowLetters(r)
	if got != code || !slices.Equal(letters, want) {
		t.Errorf("RowLetters %v: got %v %d, want %v %d", r, letters, got, want, code)
	}
	return code
}

// hasBraid checks the braid of a row of columns with some sizes.
func hasBraid(t *testing.T, r impl.Row, list []int64) int64 {
	t.Helper()
	want, code := impl.Braid{}, int64(impl.OK)
	taken, _ := columnsByHand(symbolsOf(r.Stitches))
	switch {
	case !areSizesByHand(list):
		code = impl.ErrInvalid
	case !isLaidOutByHand(symbolsOf(r.Stitches)) || taken != len(list):
		code = impl.ErrStitches
	default:
		want = braid(total(list), doubledByHand(lettersByHand(symbolsOf(r.Stitches)), list)...)
	}
	b, got := impl.RowBraid(r, list)
	if got != code || b.Strands != want.Strands || !slices.Equal(b.Word, want.Word) {
		t.Errorf("RowBraid %v %v: got %v %d, want %v %d", r, list, b, got, want, code)
	}
	if code == impl.OK && !impl.ValidBraid(b) {
		t.Errorf("RowBraid %v %v: %v is not valid", r, list, b)
	}
	return code
}

func TestExamplesOfCables(t *testing.T) {
	r, code := impl.RowOfLetters(4, []int64{-3, 1}, impl.DrRight, 1)
	is(t, "letters -3 and 1", result(r, code), result(row(t, "> 1 xy"), impl.OK))
}

// Each stitch at each column.
func TestRowLetters(t *testing.T) {
	for _, c := range []struct {
		text    string
		letters []int64
	}{
		{"k", nil}, {"p", nil}, {"t", nil}, {"s", nil}, {"d", nil}, {"ok", nil}, {"e", sizes(-1)}, {"x", sizes(1)}, {"y", sizes(-1)}, {"X", sizes(2, 1, 3, 2)}, {"Y", sizes(-2, -1, -3, -2)},
		{"kxo", sizes(2)}, {"dey", sizes(-3, -5)}, {"oxoyo", sizes(1, -3)}, {"kXy", sizes(3, 2, 4, 3, -6)}, {"kXyk", sizes(3, 2, 4, 3, -6)}, {"XY", sizes(2, 1, 3, 2, -6, -5, -7, -6)}, {"xxxx", sizes(1, 3, 5, 7)}, {"eeee", sizes(-1, -3, -5, -7)}, {"oooooox", sizes(1)}, {"kpdtsx", sizes(7)},
	} {
		for _, dir := range []int64{1, -1} {
			r := impl.Row{Dir: dir, Carrier: 4, Stitches: kindsIn(t, c.text)}
			is(t, "RowLetters "+c.text, result(impl.RowLetters(r)), result(c.letters, impl.OK))
			hasLetters(t, r)
		}
	}
	for _, symbol := range symbolsByHand {
		for left := range 9 {
			for right := range 9 {
				hasLetters(t, impl.Row{Dir: 1, Carrier: 1, Stitches: kindsIn(t, strings.Repeat("k", min(left, 7))+string(symbol)+strings.Repeat("s", right))})
			}
		}
	}
}

func TestRowsThatAreNotLaidOut(t *testing.T) {
	for _, text := range []string{"", "o", "oooooooo", "ooooooooo", "kkkkkkkkk", "XXk", "dddde", "XXXX", "kkkkkkkko", "okkkkkkkk", "ooooooooe", "oooooooxk", strings.Repeat("o", 16), strings.Repeat("Y", 16), strings.Repeat("d", 16)} {
		r := impl.Row{Dir: -1, Carrier: 2, Stitches: kindsIn(t, text)}
		is(t, "RowLetters "+text, result(impl.RowLetters(r)), "[[] 10]")
		is(t, "as by hand", hasLetters(t, r), impl.ErrStitches)
		for n := 1; n <= 8; n++ {
			is(t, "RowBraid "+text, result(impl.RowBraid(r, copiesOf(1, n))), "[{0 []} 10]")
		}
		for _, list := range [][]int64{nil, {0}, {5}, copiesOf(1, 9), {4, 4, 4, 1}} {
			is(t, "RowBraid "+text+" of no sizes", result(impl.RowBraid(r, list)), "[{0 []} 1]")
		}
	}
	for _, text := range []string{"k", "ddddooo", "oooodddd", "oooooook", "XY", "xxxx", "eeee"} {
		is(t, "laid out "+text, hasLetters(t, row(t, "> 1 "+text)), impl.OK)
	}
	for _, r := range append(notRows(t), impl.Row{}) {
		is(t, fmt.Sprint("RowLetters ", r), result(impl.RowLetters(r)), "[[] 1]")
		for _, list := range [][]int64{nil, {1}, copiesOf(1, 8), copiesOf(1, 9), {0}} {
			is(t, fmt.Sprint("RowBraid ", r, list), result(impl.RowBraid(r, list)), "[{0 []} 1]")
		}
	}
}

func TestRowBraids(t *testing.T) {
	for _, c := range []struct {
		text string
		list []int64
		want impl.Braid
		code int64
	}{
		{"x", sizes(2, 1), braid(3, 2, 1), impl.OK}, {"x", sizes(1, 2), braid(3, 1, 2), impl.OK}, {"e", sizes(2, 2), braid(4, -2, -1, -3, -2), impl.OK}, {"k", sizes(4), braid(4), impl.OK}, {"oy", sizes(1, 1), braid(2, -1), impl.OK}, {"kxk", sizes(3, 1, 2, 4), braid(10, 4, 5), impl.OK},
		{"X", sizes(2, 1, 1, 1), braid(5, 3, 2, 1, 4, 3, 2), impl.OK}, {"X", sizes(1, 1, 2, 1), braid(5, 2, 3, 1, 2, 4, 3), impl.OK}, {"Y", sizes(1, 1, 1, 2), braid(5, -2, -1, -3, -4, -2, -3), impl.OK}, {"ed", sizes(1, 2, 1, 1), braid(5, -1, -2), impl.OK}, {"e", sizes(4, 4), braid(8, -4, -3, -2, -1, -5, -4, -3, -2, -6, -5, -4, -3, -7, -6, -5, -4), impl.OK}, {"t", sizes(4), braid(4), impl.OK},
		{"x", sizes(1), impl.Braid{}, impl.ErrStitches}, {"x", sizes(1, 1, 1), impl.Braid{}, impl.ErrStitches}, {"k", sizes(1, 1), impl.Braid{}, impl.ErrStitches}, {"X", sizes(4, 4, 4), impl.Braid{}, impl.ErrStitches}, {"kkkkkkkkk", copiesOf(1, 8), impl.Braid{}, impl.ErrStitches}, {"XY", copiesOf(1, 7), impl.Braid{}, impl.ErrStitches},
		{"x", nil, impl.Braid{}, impl.ErrInvalid}, {"x", sizes(1, 0), impl.Braid{}, impl.ErrInvalid}, {"x", sizes(5, 1), impl.Braid{}, impl.ErrInvalid}, {"k", sizes(0, 1), impl.Braid{}, impl.ErrInvalid}, {"X", sizes(4, 4, 4, 1), impl.Braid{}, impl.ErrInvalid}, {"x", sizes(4, 4, 4, 1), impl.Braid{}, impl.ErrInvalid}, {"x", sizes(math.MinInt64, 1), impl.Braid{}, impl.ErrInvalid}, {"x", sizes(math.MaxInt64, 3), impl.Braid{}, impl.ErrInvalid},
	} {
		r := row(t, "> 1 "+c.text)
		is(t, fmt.Sprint("RowBraid ", c.text, c.list), result(impl.RowBraid(r, c.list)), result(c.want, c.code))
		is(t, "as by hand", hasBraid(t, r, c.list), c.code)
	}
	for _, list := range append(notStacks(), copiesOf(2, 7), copiesOf(4, 8)) {
		for _, text := range []string{"k", "tttttttt", "kkkkkkkk", "o"} {
			is(t, fmt.Sprint("RowBraid ", text, list), result(impl.RowBraid(row(t, "< 1 "+text), list)), "[{0 []} 1]")
		}
	}
}

// No row of valid sizes has more than MaxWord letters: the longest ones have 36.
func TestLongestRowBraids(t *testing.T) {
	for _, text := range []string{"X", "Y"} {
		b, code := impl.RowBraid(row(t, "> 1 "+text), copiesOf(3, 4))
		is(t, "letters of "+text, result(b.Strands, len(b.Word), code), "[12 36 0]")
	}
	most := 0
	for list := range listsOver(sizes(1, 2, 3, 4), 8) {
		if text := map[int]string{4: "X", 6: "Xy", 8: "XY"}[len(list)]; text != "" && total(list) <= 12 {
			b, code := impl.RowBraid(row(t, "> 1 "+text), list)
			is(t, fmt.Sprint("code of ", list), code, impl.OK)
			most = max(most, len(b.Word))
		}
	}
	is(t, "most letters", most, 36)
}

// P18: all rows of at most three stitches, and many longer ones, have the letters and the braid by hand.
func TestLettersAndBraidsOfManyRows(t *testing.T) {
	letters, braids := map[int64]int{}, map[int64]int{}
	d := dice(2)
	for _, text := range someStitches() {
		r := impl.Row{Dir: d.dir(), Carrier: 1 + d.below(4), Stitches: kindsIn(t, text)}
		letters[hasLetters(t, r)]++
		taken, _ := columnsByHand(text)
		for range 3 {
			braids[hasBraid(t, r, d.sizes(1+d.below(8)))]++
			braids[hasBraid(t, r, d.sizes(int64(max(1, min(taken, 8)))))]++
		}
		braids[hasBraid(t, r, manyStacks(min(taken, 4))[0])]++
	}
	is(t, "codes of letters", result(letters[impl.OK] > 500, letters[impl.ErrStitches] > 100, len(letters)), "[true true 2]")
	is(t, "codes of braids", result(braids[impl.OK] > 1000, braids[impl.ErrStitches] > 1000, braids[impl.ErrInvalid] > 0, len(braids)), "[true true true 3]")
}

// P18: the crossings of a row by hand are its braid.
func TestCrossingsOfARowAreItsBraid(t *testing.T) {
	rows, different := 0, 0
	for seed := range 800 {
		d := dice(seed)
		columns := 1 + d.below(8)
		r, list := impl.Row{Dir: d.dir(), Carrier: 1, Stitches: kindsIn(t, d.rowText(int(columns)))}, d.sizes(columns)
		events, _, code := impl.HandRow(r, list)
		b, braidCode := impl.RowBraid(r, list)
		if code != impl.OK {
			continue
		}
		crossings := events[:len(lettersOfCrossings(events))]
		made, madeCode := impl.CrossingBraid(total(list), crossings)
		is(t, fmt.Sprint("codes of ", r, list), result(braidCode, madeCode), "[0 0]")
		isEqualAsBraid(t, fmt.Sprint("braid of ", r, list), b, made)
		if !slices.Equal(b.Word, made.Word) {
			different++
		}
		rows++
	}
	is(t, "enough rows, also with other letters", result(rows > 200, different > 10), "[true true]")
}

// isCableByHand reports whether a chart is valid and has only stitches of a cable.
func isCableByHand(c impl.Chart) bool {
	_, ok := chartByHand(c)
	for _, r := range c.Rows {
		ok = ok && strings.Trim(symbolsOf(r.Stitches), "kpxyXY") == ""
	}
	return ok
}

// isCable checks whether a chart is a cable, and its braid.
func isCable(t *testing.T, c impl.Chart) int64 {
	t.Helper()
	want, code := braid(c.Columns), int64(impl.OK)
	_, valid := chartByHand(c)
	switch {
	case !valid:
		code = impl.ErrInvalid
	case !isCableByHand(c):
		code = impl.ErrState
	default:
		for _, r := range c.Rows {
			want.Word = append(want.Word, lettersByHand(symbolsOf(r.Stitches))...)
		}
		if len(want.Word) > 40 {
			code = impl.ErrFull
		}
	}
	if code != impl.OK {
		want = impl.Braid{}
	}
	is(t, fmt.Sprint("IsCable ", c), impl.IsCable(c), valid && isCableByHand(c))
	is(t, fmt.Sprint("CableBraid ", c), result(impl.CableBraid(c)), result(want, code))
	return code
}

// cable throws a cable chart with so many rows.
func (d *dice) cable(t *testing.T, columns int64, rows int) impl.Chart {
	t.Helper()
	c := impl.Chart{Columns: columns}
	for range rows {
		text := ""
		for taken := int64(0); taken < columns; {
			symbol := string("kpxyXYxyXYXYXYXY"[d.below(16)])
			if n, _ := columnsByHand(symbol); taken+int64(n) <= columns {
				text += symbol
				taken += int64(n)
			}
		}
		c.Rows = append(c.Rows, impl.Row{Dir: d.dir(), Carrier: 1 + d.below(4), Stitches: kindsIn(t, text)})
	}
	return c
}

func TestCables(t *testing.T) {
	for symbol, code := range map[string]int64{"k": 0, "p": 0, "x": 0, "y": 0, "X": 0, "Y": 0, "o": impl.ErrState, "d": impl.ErrState, "e": impl.ErrState, "t": impl.ErrState, "s": impl.ErrState} {
		taken, made := columnsByHand(symbol)
		is(t, "row of "+symbol, isCable(t, chart(t, int64(taken+1), "> 1 k"+symbol)), code)
		is(t, "first of two rows of "+symbol, isCable(t, chart(t, int64(taken+1), "< 1 "+symbol+"k", "> 2 "+strings.Repeat("k", made+1))), code)
		is(t, "last of three rows of "+symbol, isCable(t, chart(t, int64(taken+2), "> 1 "+strings.Repeat("k", taken+2), "> 1 x"+strings.Repeat("p", taken), "> 1 k"+symbol+"p")), code)
	}
	for _, c := range notCharts(t) {
		is(t, fmt.Sprint("cable ", c), result(impl.IsCable(c), result(impl.CableBraid(c))), "[false [{0 []} 1]]")
	}
	for _, c := range []impl.Chart{{Columns: 2, Rows: []impl.Row{row(t, "> 1 kkk")}}, {Columns: 2, Rows: []impl.Row{row(t, "> 1 x"), row(t, "> 1 X")}}, {Columns: 9, Rows: []impl.Row{row(t, "> 1 Xxxk")}}, {Columns: 4, Rows: []impl.Row{row(t, "> 1 X"), {Dir: 2, Carrier: 1, Stitches: []int64{10}}}}} {
		is(t, fmt.Sprint("cable that is not valid ", c), isCable(t, c), impl.ErrInvalid)
	}
}

// P18, P19: the braid of a cable is the one that knitting it by hand makes, because each column is a single strand.
func TestBraidsOfManyCables(t *testing.T) {
	codes := map[int64]int{}
	for seed := range 640 {
		d := dice(seed)
		c := d.cable(t, int64(1+seed%8), 1+seed/8%8)
		code := isCable(t, c)
		codes[code]++
		if code == impl.OK {
			b, _ := impl.CableBraid(c)
			events, _ := impl.HandKnit(c)
			is(t, fmt.Sprint("crossings by hand of ", c), lettersOfCrossings(events), b.Word)
		}
	}
	for _, c := range manyCharts(t, 128) {
		codes[isCable(t, c)]++
	}
	is(t, "codes", result(codes[impl.OK] > 300, codes[impl.ErrFull] > 10, codes[impl.ErrState] > 100, len(codes)), "[true true true 3]")
}

func TestCablesOfMaxWordLetters(t *testing.T) {
	rows := []string{"> 1 XX", "> 1 YY", "< 1 XY", "< 1 YX", "> 2 XX"}
	k := "> 1 kkkkkkkk"
	is(t, "40 letters", isCable(t, chart(t, 8, rows...)), impl.OK)
	is(t, "40 letters and rows without any", isCable(t, chart(t, 8, append([]string{k, k, k}, rows...)...)), impl.OK)
	is(t, "41 letters", isCable(t, chart(t, 8, append(rows, "> 1 kykkkkk")...)), impl.ErrFull)
	is(t, "41 letters, the first one apart", isCable(t, chart(t, 8, append([]string{"> 1 xkkkkkk", k}, rows...)...)), impl.ErrFull)
	is(t, "48 letters", isCable(t, chart(t, 8, append(rows, "> 1 XX")...)), impl.ErrFull)
	is(t, "as many as there may be", isCable(t, chart(t, 8, append(rows, rows[:3]...)...)), impl.ErrFull)
	is(t, "IsCable", impl.IsCable(chart(t, 8, append(rows, rows[:3]...)...)), true)
	is(t, "not a cable with 48 letters", isCable(t, chart(t, 8, append(rows, "> 1 XX", "> 1 skkkkkkk")...)), impl.ErrState)
}

// areSame checks whether two cables have equal braids, in both orders.
func areSame(t *testing.T, a, b impl.Chart, want bool) {
	t.Helper()
	is(t, fmt.Sprint("SameCable ", a, b), result(impl.SameCable(a, b)), result(want, impl.OK))
	is(t, fmt.Sprint("SameCable ", b, a), result(impl.SameCable(b, a)), result(want, impl.OK))
}

func TestSameCables(t *testing.T) {
	for _, c := range []struct {
		columns int64
		a, b    []string
		want    bool
	}{
		{3, []string{"> 1 xk", "> 1 kx", "> 1 xk"}, []string{"< 2 kx", "> 1 xk", "< 3 kx"}, true}, {3, []string{"> 1 yk", "> 1 kx"}, []string{"> 1 kx", "> 1 yk"}, false}, {2, []string{"> 1 x", "> 1 y"}, []string{"> 1 kk"}, true}, {2, []string{"> 1 x", "> 1 x"}, []string{"> 1 kk"}, false},
		{2, []string{"> 1 x"}, []string{"> 1 y"}, false}, {2, []string{"> 1 kp"}, []string{"< 4 pk", "< 3 kk"}, true}, {4, []string{"> 1 X"}, []string{"> 1 kxk", "> 1 xx", "> 1 kxk"}, true}, {4, []string{"> 1 X"}, []string{"> 1 Y"}, false}, {4, []string{"> 1 Y", "> 1 X"}, []string{"> 1 pppp"}, true},
		{4, []string{"> 1 xkk", "> 1 kkx"}, []string{"> 1 kkx", "> 1 xkk"}, true}, {4, []string{"> 1 xx"}, []string{"> 1 xkk", "> 1 kkx"}, true}, {4, []string{"> 1 xy"}, []string{"> 1 yx"}, false}, {1, []string{"> 1 k"}, []string{"> 1 p", "> 1 p"}, true}, {8, []string{"> 1 XY", "> 1 YX"}, []string{"> 1 kkkkkkkk"}, true}, {3, []string{"> 1 yk", "> 1 ky", "> 1 yk"}, []string{"> 1 ky", "> 1 yk", "> 1 ky"}, true}, {3, []string{"> 1 xk", "> 1 ky", "> 1 xk"}, []string{"> 1 kx", "> 1 yk", "> 1 kx"}, false},
	} {
		areSame(t, chart(t, c.columns, c.a...), chart(t, c.columns, c.b...), c.want)
	}
}

// P19: many pairs of short cables are the same exactly if their braids act in the same way.
func TestManyPairsOfCables(t *testing.T) {
	same := 0
	for columns := int64(2); columns <= 4; columns++ {
		cables := []impl.Chart{}
		for seed := range 40 {
			d := dice(seed)
			cables = append(cables, d.cable(t, columns, 1+seed%3))
		}
		for _, a := range cables {
			for _, b := range cables {
				first, _ := impl.CableBraid(a)
				second, _ := impl.CableBraid(b)
				want := fmt.Sprint(actionByHand(first)) == fmt.Sprint(actionByHand(second))
				is(t, fmt.Sprint("SameCable ", a, b), result(impl.SameCable(a, b)), result(want, impl.OK))
				if want && !slices.Equal(first.Word, second.Word) {
					same++
				}
			}
		}
	}
	is(t, "enough with other letters", same > 50, true)
}

// The errors of the first cable come before those of the second one, and both before different numbers of columns.
func TestErrorsOfSameCable(t *testing.T) {
	cable := chart(t, 8, "> 1 XX")
	other, invalid, state := chart(t, 7, "> 1 Xkkk"), chart(t, 2, "> 1 k"), chart(t, 8, "> 1 skkkkkkk")
	full := chart(t, 8, slices.Repeat([]string{"> 1 XX"}, 6)...)
	codes := []int64{impl.OK, impl.OK, impl.ErrInvalid, impl.ErrState, impl.ErrFull, impl.ErrInvalid}
	charts := []impl.Chart{cable, other, invalid, state, full, {}}
	for i, a := range charts {
		for k, b := range charts {
			want := codes[i]
			if want == impl.OK {
				want = codes[k]
			}
			same := i == k && want == impl.OK
			if want == impl.OK && i != k {
				want = impl.ErrStitches
			}
			is(t, fmt.Sprint("SameCable ", a, b), result(impl.SameCable(a, b)), result(same, want))
		}
	}
	for columns := int64(1); columns <= 8; columns++ {
		for others := int64(1); others <= 8; others++ {
			a, b := chart(t, columns, "> 1 "+strings.Repeat("k", int(columns))), chart(t, others, "> 1 "+strings.Repeat("k", int(others)))
			want := result(true, impl.OK)
			if columns != others {
				want = result(false, impl.ErrStitches)
			}
			is(t, fmt.Sprint("SameCable ", a, b), result(impl.SameCable(a, b)), want)
		}
	}
}

func touchByHand(a, b int64) bool {
	difference := numberOf(a) - numberOf(b)
	return difference == 0 || difference == 1 || difference == -1
}

func doTouch(letters []int64) bool {
	for i, a := range letters {
		for _, b := range letters[:i] {
			if touchByHand(a, b) {
				return true
			}
		}
	}
	return false
}

// groupsByHand are the groups of letters, each as long as no two of its letters touch.
func groupsByHand(letters []int64) [][]int64 {
	groups := [][]int64{}
	for len(letters) > 0 {
		n := 1
		for n < len(letters) && !doTouch(letters[:n+1]) {
			n++
		}
		groups = append(groups, slices.Clone(letters[:n]))
		letters = letters[n:]
	}
	return groups
}

func isPacked(t *testing.T, b impl.Braid) {
	t.Helper()
	groups, ok := impl.PackLetters(b)
	is(t, fmt.Sprint("PackLetters ", b), result(groups, ok), result(groupsByHand(b.Word), true))
	is(t, "groups share memory", shareMemory(groups), false)
}

func TestPackedLetters(t *testing.T) {
	for _, c := range []struct {
		letters []int64
		want    string
	}{
		{nil, "[]"}, {sizes(1), "[[1]]"}, {sizes(1, 3, 2, -2), "[[1 3] [2] [-2]]"}, {sizes(1, 1), "[[1] [1]]"}, {sizes(1, -1), "[[1] [-1]]"}, {sizes(-1, -2), "[[-1] [-2]]"}, {sizes(2, 1), "[[2] [1]]"}, {sizes(-3, 1), "[[-3 1]]"}, {sizes(3, -1), "[[3 -1]]"}, {sizes(-1, -3), "[[-1 -3]]"}, {sizes(1, -2), "[[1] [-2]]"},
		{sizes(1, 3, -5, 7), "[[1 3 -5 7]]"}, {sizes(1, 4, 2), "[[1 4] [2]]"}, {sizes(1, 4, 7, 2), "[[1 4 7] [2]]"}, {sizes(1, 4, 7, -5, 2), "[[1 4 7] [-5 2]]"}, {sizes(1, 2, 4, 7, 11), "[[1] [2 4 7 11]]"}, {sizes(4, 1, 4, 1, 4, 1), "[[4 1] [4 1] [4 1]]"}, {sizes(11, -9, 7, -5, 3, -1, 10), "[[11 -9 7 -5 3 -1] [10]]"}, {sizes(1, 3, 1, 5), "[[1 3] [1 5]]"}, {sizes(5, 1, 2, 5), "[[5 1] [2 5]]"},
	} {
		b := braid(12, c.letters...)
		is(t, fmt.Sprint("PackLetters ", c.letters), result(impl.PackLetters(b)), "["+c.want+" true]")
		isPacked(t, b)
	}
	for n := range int64(13) {
		is(t, "no letters", result(impl.PackLetters(braid(n))), "[[] true]")
	}
	for _, b := range append(someBraids(), repeated(12, -11, 40), repeated(2, 1, 40)) {
		isPacked(t, b)
	}
	for _, b := range notBraids() {
		groups, ok := impl.PackLetters(b)
		is(t, fmt.Sprint("PackLetters ", b), result(groups == nil, ok), "[true false]")
	}
}

// rowOfLettersByHand writes a row from left to right.
func rowOfLettersByHand(columns int64, letters []int64, dir, carrier int64) (string, int64) {
	if columns < 1 || columns > 8 || dir != 1 && dir != -1 || carrier < 1 || carrier > 4 {
		return "", impl.ErrRange
	}
	if slices.ContainsFunc(letters, func(letter int64) bool { return letter == 0 || letter <= -columns || letter >= columns }) {
		return "", impl.ErrInvalid
	}
	if doTouch(letters) {
		return "", impl.ErrState
	}
	text := ""
	for column := int64(1); column <= columns; column++ {
		switch {
		case slices.Contains(letters, column):
			text += "x"
			column++
		case slices.Contains(letters, -column):
			text += "y"
			column++
		default:
			text += "k"
		}
	}
	return text, impl.OK
}

func isRowOfLetters(t *testing.T, columns int64, letters []int64, dir, carrier int64) int64 {
	t.Helper()
	r, code := impl.RowOfLetters(columns, letters, dir, carrier)
	text, want := rowOfLettersByHand(columns, letters, dir, carrier)
	if code != want || symbolsOf(r.Stitches) != text || code != impl.OK && r.Stitches != nil {
		t.Errorf("RowOfLetters %d %v %d %d: got %v %d, want %s %d", columns, letters, dir, carrier, r, code, text, want)
	}
	if code == impl.OK {
		is(t, "yarn", result(r.Dir, r.Carrier), result(dir, carrier))
		list, _ := impl.RowLetters(r)
		sorted := slices.Clone(letters)
		slices.SortFunc(sorted, func(a, b int64) int { return int(numberOf(a) - numberOf(b)) })
		is(t, "letters", list, sorted)
	} else {
		is(t, "no yarn", result(r.Dir, r.Carrier), "[0 0]")
	}
	return code
}

func TestRowsOfLetters(t *testing.T) {
	codes := map[int64]int{}
	for columns := int64(0); columns <= 9; columns++ {
		letters := []int64{}
		for letter := -columns; letter <= columns; letter++ {
			letters = append(letters, letter)
		}
		for list := range listsOver(letters, 3) {
			codes[isRowOfLetters(t, columns, list, 1-2*(columns%2), 1+columns%4)]++
		}
	}
	for list := range listsOver(sizes(-7, 5, -3, 1, 6), 4) {
		codes[isRowOfLetters(t, 8, list, -1, 3)]++
	}
	is(t, "codes", result(codes[impl.OK] > 1000, codes[impl.ErrRange] > 1000, codes[impl.ErrInvalid] > 1000, codes[impl.ErrState] > 1000, len(codes)), "[true true true true 4]")
	for _, c := range []struct {
		columns int64
		letters []int64
		want    string
	}{
		{1, nil, "k"}, {8, nil, "kkkkkkkk"}, {2, sizes(1), "x"}, {2, sizes(-1), "y"}, {8, sizes(7), "kkkkkkx"}, {8, sizes(-7, -1), "ykkkky"}, {8, sizes(1, 3, 5, 7), "xxxx"}, {8, sizes(7, -5, 3, -1), "yxyx"}, {8, sizes(5, -1, 3, 7), "yxxx"}, {7, sizes(6, 2), "kxkkx"}, {3, sizes(-2), "ky"}, {4, sizes(-3, 1), "xy"},
	} {
		r, code := impl.RowOfLetters(c.columns, c.letters, -1, 4)
		is(t, fmt.Sprint("RowOfLetters ", c.columns, c.letters), result(r, code), result(row(t, "< 4 "+c.want), impl.OK))
	}
}

// Each argument is wrong apart, and together with those behind it.
func TestErrorsOfRowOfLetters(t *testing.T) {
	extremes := []int64{math.MinInt64, math.MinInt64 + 1, math.MaxInt64 - 1, math.MaxInt64}
	fine, invalid, touching := sizes(1, 3), sizes(1, 4), sizes(2, 1)
	for _, letters := range [][]int64{nil, fine, invalid, touching, {0, 0}, {math.MinInt64}} {
		for _, n := range append(extremes, -4, -1, 0, 9, 10, 12, 1<<32, 1<<32+1) {
			is(t, fmt.Sprint("columns ", n), isRowOfLetters(t, n, letters, 1, 1), impl.ErrRange)
		}
		for _, dir := range append(extremes, -2, 0, 2, 1<<32+1) {
			is(t, fmt.Sprint("direction ", dir), isRowOfLetters(t, 4, letters, dir, 1), impl.ErrRange)
		}
		for _, carrier := range append(extremes, -1, 0, 5, 1<<32+1) {
			is(t, fmt.Sprint("carrier ", carrier), isRowOfLetters(t, 4, letters, 1, carrier), impl.ErrRange)
		}
	}
	for _, letter := range append(extremes, 0, 4, -4, 5, -5, 8, 1<<32+1) {
		for _, letters := range [][]int64{{letter}, {1, letter}, {letter, 1}, {2, 2, letter}, {2, 1, letter, 3}, {letter, letter}} {
			is(t, fmt.Sprint("letters ", letters), isRowOfLetters(t, 4, letters, 1, 1), impl.ErrInvalid)
		}
	}
	for _, letters := range [][]int64{{1, 1}, {1, -1}, {-1, 1}, {1, 2}, {2, 1}, {-2, 1}, {-1, -2}, {1, 3, 2}, {3, 1, 3}, {1, 3, -1}, copiesOf(2, 5000)} {
		is(t, fmt.Sprint("letters ", letters), isRowOfLetters(t, 4, letters, -1, 4), impl.ErrState)
	}
	for _, letter := range []int64{1, -1, 0} {
		is(t, "one column", isRowOfLetters(t, 1, sizes(letter), 1, 1), impl.ErrInvalid)
	}
	is(t, "very many letters", isRowOfLetters(t, 8, append(copiesOf(1, 100000), 8), 1, 1), impl.ErrInvalid)
}

// chartOfLettersByHand is the text of the chart, made of the texts of its rows.
func chartOfLettersByHand(columns int64, letters []int64, carrier int64) (string, int64) {
	if columns < 1 || columns > 8 || carrier < 1 || carrier > 4 {
		return "", impl.ErrRange
	}
	groups := groupsByHand(letters)
	if len(groups) == 0 {
		groups = append(groups, nil)
	}
	text := fmt.Sprintf("chart %d\n", columns)
	for i, group := range groups {
		stitches, _ := rowOfLettersByHand(columns, group, 1, 1)
		text += fmt.Sprintf("%c %d %s\n", "<>"[i%2], carrier, stitches)
	}
	if len(groups) > 8 {
		return "", impl.ErrFull
	}
	return text, impl.OK
}

// isCableOf checks a chart that was made of letters, and returns its braid.
func isCableOf(t *testing.T, name string, c impl.Chart, code, columns int64, letters []int64, carrier int64) impl.Braid {
	t.Helper()
	text, want := chartOfLettersByHand(columns, letters, carrier)
	is(t, name, result(chartTextByHand(c), code), result(text, want))
	if code != impl.OK {
		is(t, name, c, impl.Chart{})
		return impl.Braid{}
	}
	is(t, name+" is a cable", result(isCable(t, c), shareMemory(listsOfChart(c))), "[0 false]")
	b, _ := impl.CableBraid(c)
	return b
}

// isKnittedAs checks the chart of a braid. Whether the braids are equal is left to chapter 4 if there are many letters.
func isKnittedAs(t *testing.T, b impl.Braid, carrier int64) int64 {
	t.Helper()
	c, code := impl.ChartOfBraid(b, carrier)
	name := fmt.Sprint("ChartOfBraid ", b, carrier)
	back := isCableOf(t, name, c, code, b.Strands, b.Word, carrier)
	if code == impl.OK {
		is(t, name+" is knitted with the braid", impl.EqualBraids(b, back), true)
		is(t, name+" has the permutation", impl.BraidPermutation(back), impl.BraidPermutation(b))
	}
	if code == impl.OK && len(b.Word) <= 8 {
		isEqualAsBraid(t, name, b, back)
	}
	return code
}

// P19: braids of all numbers of strands.
func TestChartsOfBraids(t *testing.T) {
	codes := map[int64]int{}
	for strands := range int64(13) {
		for i, b := range slices.Concat(manyBraids(strands, 8, 60), manyBraids(strands, 20, 30), manyBraids(strands, 40, 10)) {
			codes[isKnittedAs(t, b, int64(1+i%4))]++
		}
	}
	is(t, "codes", result(codes[impl.OK] > 200, codes[impl.ErrRange] > 300, codes[impl.ErrFull] > 50, len(codes)), "[true true true 3]")
	for _, c := range []struct {
		b    impl.Braid
		want string
	}{
		{braid(3, 1, -2), "chart 3\n< 2 xk\n> 2 ky\n"}, {braid(1), "chart 1\n< 2 k\n"}, {braid(8), "chart 8\n< 2 kkkkkkkk\n"}, {braid(2, 1, 1, 1), "chart 2\n< 2 x\n> 2 x\n< 2 x\n"}, {braid(8, 7, -5, 3, -1), "chart 8\n< 2 yxyx\n"}, {braid(4, 1, 3, 2, -2), "chart 4\n< 2 xx\n> 2 kxk\n< 2 kyk\n"},
	} {
		made, code := impl.ChartOfBraid(c.b, 2)
		is(t, fmt.Sprint("ChartOfBraid ", c.b), result(chartTextByHand(made), code), result(c.want, impl.OK))
	}
}

func TestChartsOfMaxRowsRows(t *testing.T) {
	is(t, "8 rows", isKnittedAs(t, repeated(2, 1, 8), 1), impl.OK)
	is(t, "9 rows", isKnittedAs(t, repeated(2, 1, 9), 1), impl.ErrFull)
	is(t, "8 rows of 4", isKnittedAs(t, braid(8, slices.Repeat(sizes(1, 3, -5, 7), 8)...), 4), impl.OK)
	is(t, "9 rows, of 4 and of 1", isKnittedAs(t, braid(8, append(slices.Repeat(sizes(1, 3, -5, 7), 8), 1)...), 4), impl.ErrFull)
	is(t, "10 rows of 4", isKnittedAs(t, braid(8, slices.Repeat(sizes(1, 3, -5, 7), 10)...), 4), impl.ErrFull)
	is(t, "40 rows", isKnittedAs(t, repeated(8, -7, 40), 4), impl.ErrFull)
	is(t, "letters that cancel", isKnittedAs(t, braid(2, 1, -1, 1, -1, 1, -1, 1, -1), 3), impl.OK)
}

func TestErrorsOfChartOfBraid(t *testing.T) {
	carriers := []int64{math.MinInt64, -1, 0, 5, 1 << 32, 1<<32 + 1, math.MaxInt64}
	for _, b := range notBraids() {
		for _, carrier := range append(carriers, 1, 4) {
			is(t, fmt.Sprint("ChartOfBraid ", b, carrier), result(impl.ChartOfBraid(b, carrier)), "[{0 []} 1]")
		}
	}
	for _, b := range []impl.Braid{braid(1), braid(8), braid(2, 1), repeated(2, 1, 9), repeated(8, 7, 40), braid(0), braid(9), repeated(12, 11, 40)} {
		for _, carrier := range carriers {
			is(t, fmt.Sprint("ChartOfBraid ", b, carrier), result(impl.ChartOfBraid(b, carrier)), "[{0 []} 2]")
		}
	}
	for _, b := range []impl.Braid{braid(0), braid(9), braid(12), braid(9, 8), repeated(9, 1, 9), repeated(12, 11, 40)} {
		for carrier := int64(1); carrier <= 4; carrier++ {
			is(t, fmt.Sprint("ChartOfBraid ", b, carrier), isKnittedAs(t, b, carrier), impl.ErrRange)
		}
	}
}

// firstDescents are the letters that exchange the first neighbours that are out of order until there are none.
func firstDescents(p []int64) []int64 {
	rest, letters := slices.Clone(p), []int64{}
	for k := 1; k < len(rest); k++ {
		if rest[k-1] > rest[k] {
			rest[k-1], rest[k] = rest[k], rest[k-1]
			letters = append(letters, int64(k))
			k = 0
		}
	}
	return letters
}

// isTurned checks the chart of a permutation: it takes as many crossings as there are inversions.
func isTurned(t *testing.T, p []int64, carrier int64) int64 {
	t.Helper()
	c, code := impl.ChartOfPermutation(p, carrier)
	name := fmt.Sprint("ChartOfPermutation ", p, carrier)
	back := isCableOf(t, name, c, code, int64(len(p)), firstDescents(p), carrier)
	if code == impl.OK {
		places := []int64{}
		for place := range p {
			places = append(places, placeByHand(back, int64(place)))
		}
		is(t, name+" has the permutation", result(places, impl.BraidPermutation(back)), result(p, p))
		is(t, name+" has as many letters as inversions", len(back.Word), len(inversionsByHand(p)))
		isPositive := !slices.ContainsFunc(back.Word, func(letter int64) bool { return letter < 0 })
		is(t, name+" has positive letters", isPositive, true)
	}
	return code
}

// P19: all permutations of at most six columns, and many of more.
func TestChartsOfPermutations(t *testing.T) {
	codes := map[int64]int{}
	for n := range 7 {
		for i, p := range allPermutations(n) {
			codes[isTurned(t, p, int64(1+i%4))]++
		}
	}
	for n := 7; n <= 12; n++ {
		for i, p := range manyPermutations(n, 300) {
			codes[isTurned(t, p, int64(1+i%4))]++
		}
	}
	is(t, "codes", result(codes[impl.OK] > 900, codes[impl.ErrRange] > 1000, codes[impl.ErrFull] > 100, len(codes)), "[true true true 3]")
	is(t, "most inversions of few columns", result(isTurned(t, falling(1), 1), isTurned(t, falling(2), 1), isTurned(t, falling(3), 1), isTurned(t, falling(4), 1)), "[0 0 0 0]")
	is(t, "nothing", result(isTurned(t, nil, 1), isTurned(t, []int64{0}, 1), isTurned(t, rising(8), 4), isTurned(t, rising(9), 4)), result(impl.ErrRange, 0, 0, impl.ErrRange))
	made, code := impl.ChartOfPermutation([]int64{2, 1, 0}, 3)
	is(t, "three columns", result(chartTextByHand(made), code), result("chart 3\n< 3 xk\n> 3 kx\n< 3 xk\n", impl.OK))
}

func TestErrorsOfChartOfPermutation(t *testing.T) {
	carriers := []int64{math.MinInt64, -1, 0, 5, 1 << 32, 1<<32 + 1, math.MaxInt64}
	for _, p := range notPermutations() {
		for _, carrier := range append(carriers, 1, 4) {
			is(t, fmt.Sprint("ChartOfPermutation ", p, carrier), result(impl.ChartOfPermutation(p, carrier)), "[{0 []} 1]")
		}
	}
	for _, p := range [][]int64{{0}, {1, 0}, rising(8), falling(8), nil, falling(9), falling(12)} {
		for _, carrier := range carriers {
			is(t, fmt.Sprint("ChartOfPermutation ", p, carrier), result(impl.ChartOfPermutation(p, carrier)), "[{0 []} 2]")
		}
	}
	// Those of 12 elements have more letters than a braid may have, too.
	for _, p := range [][]int64{nil, {}, rising(9), falling(9), rising(12), falling(10), falling(12)} {
		is(t, fmt.Sprint("ChartOfPermutation ", p), isTurned(t, p, 2), impl.ErrRange)
	}
	is(t, "more rows than there may be", isTurned(t, falling(8), 1), impl.ErrFull)
}
