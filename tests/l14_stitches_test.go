package tests

import (
	"fmt"
	"math"
	"slices"
	"strings"
	"testing"

	"loop.example/g00856/impl"
)

// symbolsByHand are the symbols of the kinds from 1 on.
const symbolsByHand = "kpodetsxyXY"

func notKinds() []int64 {
	return []int64{math.MinInt64, math.MinInt64 + 1, -11, -2, -1, 0, 12, 13, 107, 256 + 1, math.MaxInt64 - 1, math.MaxInt64}
}

// kindsIn reads symbols as the document lists them.
func kindsIn(t *testing.T, text string) []int64 {
	t.Helper()
	list := []int64{}
	for _, symbol := range text {
		kind := strings.IndexRune(symbolsByHand, symbol)
		if kind < 0 {
			t.Fatalf("%q has no stitches", text)
		}
		list = append(list, int64(kind+1))
	}
	return list
}

func symbolsOf(list []int64) string {
	text := ""
	for _, kind := range list {
		text += symbolsByHand[kind-1 : kind]
	}
	return text
}

// mirroredSymbols returns the symbols that a mirror shows.
func mirroredSymbols(text string) string {
	mirrored := ""
	for _, symbol := range strings.NewReplacer("d", "e", "e", "d", "x", "y", "y", "x", "X", "Y", "Y", "X").Replace(text) {
		mirrored = string(symbol) + mirrored
	}
	return mirrored
}

// columnsByHand counts the columns that symbols take and make.
func columnsByHand(text string) (int, int) {
	count := func(symbols string) int {
		n := 0
		for _, symbol := range symbols {
			n += strings.Count(text, string(symbol))
		}
		return n
	}
	return count("kpts") + 2*count("dexy") + 4*count("XY"), count("kpodets") + 2*count("xy") + 4*count("XY")
}

// stacksByHand knits columns of loops, each written as a text of as many letters.
func stacksByHand(stacks []int64, text string) ([]int64, int64) {
	columns := []string{}
	for _, n := range stacks {
		columns = append(columns, strings.Repeat("l", int(n)))
	}
	if taken, _ := columnsByHand(text); taken != len(columns) {
		return nil, impl.ErrStitches
	}
	after, limits := []string{}, 0
	for _, symbol := range text {
		switch symbol {
		case 'o':
			after = append(after, "l")
		case 'k', 'p':
			after, columns = append(after, "l"), columns[1:]
		case 't':
			after, columns = append(after, columns[0]+"l"), columns[1:]
		case 's':
			after, columns = append(after, columns[0]), columns[1:]
		case 'd', 'e':
			limits = max(limits, len(columns[0]+columns[1]))
			after, columns = append(after, "l"), columns[2:]
		case 'x', 'y':
			after, columns = append(after, "l", "l"), columns[2:]
		case 'X', 'Y':
			after, columns = append(after, "l", "l", "l", "l"), columns[4:]
		}
	}
	list := []int64{}
	for _, column := range after {
		limits = max(limits, len(column))
		list = append(list, int64(len(column)))
	}
	if limits > 4 || len(list) > 8 {
		return nil, impl.ErrFull
	}
	return list, impl.OK
}

// knitsTo compares the stacks after a row with what is expected, and those of the mirror image.
func knitsTo(t *testing.T, stacks []int64, text string, want []int64, code int64) {
	t.Helper()
	list, name := kindsIn(t, text), fmt.Sprint("StacksAfter ", stacks, " ", text)
	is(t, name, result(impl.StacksAfter(stacks, list)), result(want, code))
	is(t, name+", by hand", result(stacksByHand(stacks, text)), result(want, code))
	is(t, name+", mirrored", result(impl.StacksAfter(turned(stacks), mirrorOf(list))), result(turned(want), code))
}

func turned(list []int64) []int64 {
	list = slices.Clone(list)
	slices.Reverse(list)
	return list
}

// mirrorOf replaces the stitches by their mirror images, in the opposite order, as the program sees them.
func mirrorOf(list []int64) []int64 {
	mirrored := []int64{}
	for _, kind := range list {
		mirrored = append([]int64{impl.MirrorStitch(kind)}, mirrored...)
	}
	return mirrored
}

func TestStitchConstants(t *testing.T) {
	is(t, "kinds", result(impl.StKnit, impl.StPurl, impl.StOver, impl.StLeft, impl.StRight, impl.StTuck, impl.StSlip, impl.StCross, impl.StUnder, impl.StCross2, impl.StUnder2), rising(12)[1:])
	is(t, "limits", result(impl.MaxColumns, impl.MaxStitches), "[8 16]")
}

func TestExampleOfStacks(t *testing.T) {
	list, ok := impl.ReadStitches("kdot")
	is(t, "kdot", result(list, ok), "[[1 4 3 6] true]")
	is(t, "five columns", result(impl.StacksAfter([]int64{1, 1, 1, 2, 1}, list)), "[[] 10]")
	is(t, "four columns", result(impl.StacksAfter([]int64{1, 1, 1, 2}, list)), "[[1 1 1 3] 0]")
}

func TestKinds(t *testing.T) {
	for kind, want := range []string{
		impl.StKnit: "k 1 1 k", impl.StPurl: "p 1 1 p", impl.StOver: "o 0 1 o", impl.StLeft: "d 2 1 e", impl.StRight: "e 2 1 d", impl.StTuck: "t 1 1 t",
		impl.StSlip: "s 1 1 s", impl.StCross: "x 2 2 y", impl.StUnder: "y 2 2 x", impl.StCross2: "X 4 4 Y", impl.StUnder2: "Y 4 4 X",
	} {
		if kind == 0 {
			continue
		}
		k := int64(kind)
		symbol := impl.SymbolOf(k)
		is(t, "kind "+want, fmt.Sprint(symbol, " ", impl.ColumnsTaken(k), impl.ColumnsMade(k), " ", impl.SymbolOf(impl.MirrorStitch(k))), want)
		is(t, "KindOf "+symbol, impl.KindOf(symbol), kind)
		is(t, "mirrored twice "+symbol, impl.MirrorStitch(impl.MirrorStitch(k)), kind)
		is(t, "alone "+symbol, result(result(impl.ReadStitches(symbol)), impl.StitchesText([]int64{k})), result(result([]int64{k}, true), symbol))
	}
}

func TestNotKinds(t *testing.T) {
	for _, k := range notKinds() {
		is(t, fmt.Sprint("no kind ", k), fmt.Sprintf("%d %d %q %d", impl.ColumnsTaken(k), impl.ColumnsMade(k), impl.SymbolOf(k), impl.MirrorStitch(k)), `-1 -1 "" 0`)
	}
}

// notSymbols are texts of which none is the symbol of a kind.
func notSymbols() []string {
	list := []string{"", " ", "kk", "kp", "kpo", " k", "k ", "k\n", "\tk", "k\x00", "\x00", "k1", "0", "1", "StKnit", "knit", "\xff", "\xffk", "k\xff", "é", "к", "х", "ｋ", "𝐤", "k\u0301", "\u212a", "\ufffd", "X2", strings.Repeat("k", 17)}
	for c := range 256 {
		if symbol := string([]byte{byte(c)}); !strings.Contains(symbolsByHand, symbol) {
			list = append(list, symbol)
		}
		if symbol := string(rune(c)); !strings.Contains(symbolsByHand, symbol) {
			list = append(list, symbol)
		}
	}
	for _, symbol := range symbolsByHand {
		// A rune is not to be cut to a byte.
		list = append(list, string(symbol+256), string(symbol+65536), string(symbol)+string(symbol))
	}
	return list
}

func TestKindsOfOtherTexts(t *testing.T) {
	for _, s := range notSymbols() {
		is(t, fmt.Sprintf("KindOf %q", s), impl.KindOf(s), 0)
	}
	is(t, "upper case", result(impl.KindOf("K"), impl.KindOf("P"), impl.KindOf("D"), impl.KindOf("x"), impl.KindOf("X"), impl.KindOf("y"), impl.KindOf("Y")), "[0 0 0 8 10 9 11]")
}

// P15: the numbers of columns are those of the mirror image.
func TestColumnsOfMirrorImages(t *testing.T) {
	for k := int64(1); k <= 11; k++ {
		m := impl.MirrorStitch(k)
		is(t, fmt.Sprint("columns of the mirror image of ", k), result(impl.ColumnsTaken(m), impl.ColumnsMade(m)), result(impl.ColumnsTaken(k), impl.ColumnsMade(k)))
	}
}

// someStitches are valid lists of all lengths; every list of at most three stitches is among them.
func someStitches() []string {
	texts := []string{""}
	for from := 0; len(texts[from]) < 3; from++ {
		for _, symbol := range symbolsByHand {
			texts = append(texts, texts[from]+string(symbol))
		}
	}
	for length := range 17 {
		d := dice(length)
		for range 20 {
			text := ""
			for range length {
				text += string(symbolsByHand[d.below(11)])
			}
			texts = append(texts, text)
		}
		for _, symbol := range symbolsByHand {
			texts = append(texts, strings.Repeat(string(symbol), length))
		}
	}
	return texts
}

func TestTextsAndColumnsOfStitches(t *testing.T) {
	for _, text := range someStitches() {
		list := kindsIn(t, text)
		taken, made := columnsByHand(text)
		is(t, "StitchesText "+text, impl.StitchesText(list), text)
		is(t, "ReadStitches "+text, result(impl.ReadStitches(text)), result(list, true))
		is(t, "columns of "+text, result(impl.TakenBy(list), impl.MadeBy(list)), result(taken, made))
		is(t, "mirror image of "+text, impl.StitchesText(mirrorOf(list)), mirroredSymbols(text))
	}
	is(t, "no stitches", fmt.Sprintf("%q %d %d", impl.StitchesText(nil), impl.TakenBy(nil), impl.MadeBy([]int64{})), `"" 0 0`)
	is(t, "no text", result(impl.ReadStitches("")), "[[] true]")
	most := slices.Repeat([]int64{impl.StUnder2}, 16)
	is(t, "most columns", result(impl.TakenBy(most), impl.MadeBy(most), impl.StitchesText(most)), result(64, 64, strings.Repeat("Y", 16)))
}

// notStitches are lists that are not valid.
func notStitches() [][]int64 {
	list := [][]int64{slices.Repeat([]int64{1}, 17), slices.Repeat([]int64{3}, 17), slices.Repeat([]int64{11}, 18), make([]int64, 16), make([]int64, 17), make([]int64, 5000)}
	for _, k := range notKinds() {
		for at := range 16 {
			stitches := slices.Repeat([]int64{1}, 16)
			stitches[at] = k
			list = append(list, stitches, stitches[at:at+1], stitches[at:])
		}
	}
	return list
}

func TestListsThatAreNoStitches(t *testing.T) {
	for _, list := range notStitches() {
		is(t, fmt.Sprint("no stitches ", list), fmt.Sprintf("%q %d %d", impl.StitchesText(list), impl.TakenBy(list), impl.MadeBy(list)), `"" -1 -1`)
		is(t, fmt.Sprint("stacks after ", list), result(impl.StacksAfter(slices.Repeat([]int64{1}, min(len(list), 8)), list)), "[[] 1]")
	}
}

func TestTextsThatAreNoStitches(t *testing.T) {
	texts := []string{strings.Repeat("k", 17), strings.Repeat("k", 16) + " ", " " + strings.Repeat("o", 16), strings.Repeat("k", 5000), strings.Repeat("é", 8), strings.Repeat("é", 16), strings.Repeat("\xff", 3)}
	for _, s := range notSymbols() {
		// Some of them are stitches, though no symbol: none, or several ones.
		if strings.Trim(s, symbolsByHand) != "" {
			texts = append(texts, s, "k"+s, s+"k", "kp"+s+"od")
		}
	}
	for _, s := range texts {
		list, ok := impl.ReadStitches(s)
		is(t, fmt.Sprintf("ReadStitches %q", s), result(list, list == nil || len(list) == 0, ok), "[[] true false]")
	}
}

// P15: texts that differ a little are those of other lists, or of none.
func TestChangedTextsOfStitches(t *testing.T) {
	for _, text := range []string{"k", "kdot", "XyxY", "kkkkkkkkkkkkkkkk"} {
		for _, s := range changedTexts(text) {
			list, ok := impl.ReadStitches(s)
			want := strings.Trim(s, symbolsByHand) == "" && len(s) <= 16
			is(t, fmt.Sprintf("ReadStitches %q", s), ok, want)
			if ok {
				is(t, "text", impl.StitchesText(list), s)
			}
		}
	}
}

func TestStacksAfterEachKind(t *testing.T) {
	for n := int64(1); n <= 4; n++ {
		knitsTo(t, []int64{n}, "k", []int64{1}, impl.OK)
		knitsTo(t, []int64{n}, "p", []int64{1}, impl.OK)
		knitsTo(t, []int64{n}, "s", []int64{n}, impl.OK)
		knitsTo(t, []int64{n}, "ok", []int64{1, 1}, impl.OK)
		knitsTo(t, []int64{n, 1}, "x", []int64{1, 1}, impl.OK)
		knitsTo(t, []int64{n, 4}, "y", []int64{1, 1}, impl.OK)
		knitsTo(t, []int64{n, 4, 1, n}, "X", []int64{1, 1, 1, 1}, impl.OK)
		knitsTo(t, []int64{1, 1, n, 4}, "Y", []int64{1, 1, 1, 1}, impl.OK)
	}
	knitsTo(t, nil, "o", []int64{1}, impl.OK)
	knitsTo(t, []int64{1}, "t", []int64{2}, impl.OK)
	knitsTo(t, []int64{2}, "t", []int64{3}, impl.OK)
	knitsTo(t, []int64{3}, "t", []int64{4}, impl.OK)
	knitsTo(t, []int64{4}, "t", nil, impl.ErrFull)
}

func TestStacksOfColumnsKnittedTogether(t *testing.T) {
	for a := int64(1); a <= 4; a++ {
		for b := int64(1); b <= 4; b++ {
			want, code := []int64{1}, int64(impl.OK)
			if a+b > 4 {
				want, code = nil, impl.ErrFull
			}
			knitsTo(t, []int64{a, b}, "d", want, code)
			knitsTo(t, []int64{a, b}, "e", want, code)
		}
	}
	knitsTo(t, []int64{4, 2, 2, 4}, "kdk", []int64{1, 1, 1}, impl.OK)
	knitsTo(t, []int64{4, 2, 3, 4}, "kdk", nil, impl.ErrFull)
	knitsTo(t, []int64{4, 1, 3, 4}, "sosss", []int64{4, 1, 1, 3, 4}, impl.OK)
	knitsTo(t, []int64{1, 3, 1, 3}, "de", []int64{1, 1}, impl.OK)
	knitsTo(t, []int64{1, 3, 2, 3}, "de", nil, impl.ErrFull)
}

func TestStacksOfSeveralStitches(t *testing.T) {
	for _, c := range []struct {
		stacks []int64
		text   string
		want   []int64
		code   int64
	}{
		{nil, "", nil, impl.OK}, {[]int64{1, 2, 3}, "ttt", []int64{2, 3, 4}, impl.OK}, {[]int64{1, 2, 4}, "ttt", nil, impl.ErrFull}, {[]int64{4, 4}, "ss", []int64{4, 4}, impl.OK},
		{[]int64{1, 1}, "tt", []int64{2, 2}, impl.OK}, {[]int64{3, 3, 3}, "tst", []int64{4, 3, 4}, impl.OK}, {[]int64{2, 3, 1}, "sotk", []int64{2, 1, 4, 1}, impl.OK},
		{[]int64{1, 1, 1, 1, 1, 1, 1, 1}, "kpkpkpkp", copiesOf(1, 8), impl.OK}, {copiesOf(1, 8), "XY", copiesOf(1, 8), impl.OK}, {copiesOf(4, 8), "Yxy", copiesOf(1, 8), impl.OK},
		{copiesOf(1, 8), "dddd", copiesOf(1, 4), impl.OK}, {copiesOf(1, 8), "ddddoooo", copiesOf(1, 8), impl.OK}, {copiesOf(2, 8), "oeoeoeoe", copiesOf(1, 8), impl.OK}, {copiesOf(1, 8), "ddddooooo", nil, impl.ErrFull},
		{copiesOf(1, 8), "kkkkkkkko", nil, impl.ErrFull}, {copiesOf(1, 8), "okkkkkkd", copiesOf(1, 8), impl.OK}, {copiesOf(1, 8), "ooookkkkdd", nil, impl.ErrFull}, {nil, "oooooooo", copiesOf(1, 8), impl.OK}, {nil, "ooooooooo", nil, impl.ErrFull},
		{nil, strings.Repeat("o", 16), nil, impl.ErrFull}, {copiesOf(4, 7), "sssssss", copiesOf(4, 7), impl.OK}, {[]int64{1, 4, 2, 1, 3, 1, 1, 1}, "kxtsds", []int64{1, 1, 1, 2, 3, 1, 1}, impl.OK},
		{nil, "k", nil, impl.ErrStitches}, {[]int64{1}, "", nil, impl.ErrStitches}, {[]int64{1}, "o", nil, impl.ErrStitches}, {[]int64{1}, "kk", nil, impl.ErrStitches}, {[]int64{1, 1}, "k", nil, impl.ErrStitches}, {[]int64{1, 1, 1}, "X", nil, impl.ErrStitches},
		{copiesOf(1, 8), "XYk", nil, impl.ErrStitches}, {copiesOf(1, 7), "XY", nil, impl.ErrStitches}, {copiesOf(1, 8), strings.Repeat("Y", 16), nil, impl.ErrStitches}, {copiesOf(1, 8), strings.Repeat("k", 16), nil, impl.ErrStitches},
	} {
		knitsTo(t, c.stacks, c.text, c.want, c.code)
	}
}

// ErrStitches comes before ErrFull, wherever in the row the limit is exceeded.
func TestOrderOfErrorsOfStacks(t *testing.T) {
	knitsTo(t, []int64{4}, "tk", nil, impl.ErrStitches)
	knitsTo(t, []int64{4, 4}, "t", nil, impl.ErrStitches)
	knitsTo(t, []int64{4, 4, 1}, "d", nil, impl.ErrStitches)
	knitsTo(t, []int64{4, 4}, "de", nil, impl.ErrStitches)
	knitsTo(t, nil, "oooooooook", nil, impl.ErrStitches)
	knitsTo(t, copiesOf(1, 8), "kkkkkkkoo", nil, impl.ErrStitches)
}

// notStacks are lists that are not the stacks of columns.
func notStacks() [][]int64 {
	list := [][]int64{copiesOf(1, 9), copiesOf(4, 9), copiesOf(1, 5000)}
	for _, n := range []int64{math.MinInt64, -4, -1, 0, 5, 6, 1 << 32, math.MaxInt64} {
		for at := range 8 {
			stacks := copiesOf(1, 8)
			stacks[at] = n
			list = append(list, stacks, stacks[at:at+1], stacks[:at+1], []int64{n, -n, 1})
		}
	}
	return list
}

// ErrInvalid comes before the other errors.
func TestListsThatAreNoStacks(t *testing.T) {
	for _, stacks := range notStacks() {
		for _, text := range []string{"", "k", "o", "tttttttt", "sss", "d", "kkkkkkkk", "kkkkkkkkk", "ooooooooo"} {
			is(t, fmt.Sprint("StacksAfter ", stacks, " ", text), result(impl.StacksAfter(stacks, kindsIn(t, text))), "[[] 1]")
		}
		is(t, fmt.Sprint("StacksAfter ", stacks, " and no stitches"), result(impl.StacksAfter(stacks, []int64{0})), "[[] 1]")
	}
	for _, list := range [][]int64{{0}, {12}, {1, -1}, copiesOf(3, 17), copiesOf(1, 17)} {
		for _, stacks := range [][]int64{nil, {1}, {4, 4}, {1, 1}, copiesOf(1, 8)} {
			is(t, fmt.Sprint("StacksAfter ", stacks, " ", list), result(impl.StacksAfter(stacks, list)), "[[] 1]")
		}
	}
}

// manyStacks are the stacks of so many columns: all lists if there are few columns, and many of more columns.
func manyStacks(columns int) [][]int64 {
	lists := [][]int64{{}}
	for range columns {
		var longer [][]int64
		for _, stacks := range lists {
			for n := int64(1); n <= 4; n++ {
				longer = append(longer, append(slices.Clone(stacks), n))
			}
		}
		if len(longer) > 256 {
			longer = slices.DeleteFunc(longer, func(stacks []int64) bool { return (stacks[0]+2*stacks[1]+3*stacks[2]+stacks[len(stacks)-1])%5 > 0 })
		}
		lists = longer
	}
	return lists
}

// P15, for all lists of at most three stitches and many longer ones.
func TestMirrorImageOfStitchesLeavesMirrorImageOfStacks(t *testing.T) {
	for _, text := range someStitches() {
		taken, _ := columnsByHand(text)
		if taken > 8 {
			continue
		}
		list := kindsIn(t, text)
		for _, stacks := range manyStacks(taken) {
			after, code := impl.StacksAfter(stacks, list)
			want, wantCode := stacksByHand(stacks, text)
			mirrored, mirroredCode := impl.StacksAfter(turned(stacks), mirrorOf(list))
			if code != wantCode || !slices.Equal(after, want) {
				t.Errorf("StacksAfter %v %s: got %v %d, want %v %d", stacks, text, after, code, want, wantCode)
			}
			if mirroredCode != code || !slices.Equal(mirrored, turned(after)) {
				t.Errorf("mirror image of StacksAfter %v %s: got %v %d, want %v %d", stacks, text, mirrored, mirroredCode, turned(after), code)
			}
		}
	}
}
