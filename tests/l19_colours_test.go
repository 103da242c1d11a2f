package tests

import (
	"fmt"
	"math"
	"regexp"
	"slices"
	"strings"
	"testing"

	"loop.example/g00856/impl"
)

// colours reads a line of digits for each row. The first one gives the number of columns.
func colours(lines ...string) impl.ColourChart {
	c := impl.ColourChart{Columns: int64(len(lines[0]))}
	for _, line := range lines {
		list := []int64{}
		for _, digit := range line {
			list = append(list, int64(digit-'0'))
		}
		c.Rows = append(c.Rows, list)
	}
	return c
}

// linesOf writes the rows of a valid colour chart.
func linesOf(c impl.ColourChart) []string {
	lines := []string{}
	for _, list := range c.Rows {
		lines = append(lines, strings.ReplaceAll(strings.Trim(fmt.Sprint(list), "[]"), " ", ""))
	}
	return lines
}

var coloursPattern = regexp.MustCompile(`^([1-4]{1,8}\n){1,8}$`)

// isTextOfColours reports whether s is the text of a valid colour chart.
func isTextOfColours(s string) bool {
	if !coloursPattern.MatchString(s) {
		return false
	}
	lines := strings.Split(s, "\n")
	for _, line := range lines[:len(lines)-1] {
		if len(line) != len(lines[0]) {
			return false
		}
	}
	return true
}

func float(row, carrier, from, to int64) impl.Float {
	return impl.Float{Row: row, Carrier: carrier, From: from, To: to}
}

// floatsByHand looks at all pairs of columns for each carrier.
func floatsByHand(c impl.ColourChart) (list []impl.Float, longest int) {
	for i, line := range linesOf(c) {
		for _, carrier := range "1234" {
			for from := range line {
				for to := from + 2; to < len(line); to++ {
					between := line[from+1 : to]
					if rune(line[from]) == carrier && rune(line[to]) == carrier && !strings.ContainsRune(between, carrier) {
						list = append(list, float(int64(i), int64(carrier-'0'), int64(from), int64(to)))
						longest = max(longest, len(between))
					}
				}
			}
		}
	}
	return list, longest
}

// caughtByHand goes along a row with the yarn of a carrier, and counts the columns that it passes between two of its own.
func caughtByHand(line string, carrier byte, most int64) string {
	text, passed := "", int64(0)
	for i := range line {
		isBetween := strings.IndexByte(line[:i], carrier) >= 0 && strings.IndexByte(line[i:], carrier) >= 0
		passed++
		switch {
		case line[i] == carrier:
			text, passed = text+"k", 0
		case isBetween && passed > most:
			text, passed = text+"t", 0
		default:
			text += "s"
		}
	}
	return text
}

// caughtRowsByHand are the rows of the chart. Those of a carrier alternate; the first one of all is to the left.
func caughtRowsByHand(c impl.ColourChart, most int64) []string {
	rows, counts := []string{}, map[byte]int{}
	for _, line := range linesOf(c) {
		for carrier := byte('1'); carrier <= '4'; carrier++ {
			if strings.IndexByte(line, carrier) < 0 {
				continue
			}
			if len(rows) == 0 {
				counts[carrier]++
			}
			rows = append(rows, fmt.Sprintf("%c %c %s", "><"[counts[carrier]%2], carrier, caughtByHand(line, carrier, most)))
			counts[carrier]++
		}
	}
	return rows
}

func caughtChartByHand(t *testing.T, c impl.ColourChart, most int64) (impl.Chart, int64) {
	t.Helper()
	made := chart(t, c.Columns, caughtRowsByHand(c, most)...)
	if _, ok := chartByHand(made); !ok {
		return impl.Chart{}, impl.ErrFull
	}
	return made, impl.OK
}

// isKnittedOnce checks that the rows of a chart knit each stitch of a valid colour chart once, with its carrier, row by row.
func isKnittedOnce(t *testing.T, c impl.ColourChart, made impl.Chart) {
	t.Helper()
	rows := made.Rows
	for i, line := range linesOf(c) {
		left, last := line, int64(0)
		for left != strings.Repeat(".", len(line)) && len(rows) > 0 {
			r := rows[0]
			rows = rows[1:]
			for column, symbol := range symbolsOf(r.Stitches) {
				if isOwn := int64(line[column]-'0') == r.Carrier; isOwn != (symbol == 'k') || isOwn && left[column] == '.' {
					t.Errorf("chart of %v: row %d: %c in column %d of %v", c, i, symbol, column, r)
				}
			}
			left = strings.ReplaceAll(left, fmt.Sprint(r.Carrier), ".")
			if r.Carrier <= last {
				t.Errorf("chart of %v: row %d: carrier %d behind %d", c, i, r.Carrier, last)
			}
			last = r.Carrier
		}
		is(t, fmt.Sprint("columns left of row ", i, " of ", c), strings.Trim(left, "."), "")
	}
	is(t, fmt.Sprint("rows left of ", c), len(rows), 0)
	isKnittedByItsYarns(t, c, made)
}

// isKnittedByItsYarns counts what carriers knit when the chart is knitted by hand; the first one casts on, too.
func isKnittedByItsYarns(t *testing.T, c impl.ColourChart, made impl.Chart) {
	t.Helper()
	events, code := impl.HandKnit(made)
	counts := make([]int64, 4)
	for _, e := range events {
		if e.Kind == impl.EvKnit {
			counts[e.Carrier-1]++
		}
	}
	counts[made.Rows[0].Carrier-1] -= c.Columns
	is(t, fmt.Sprint("knitted stitches of ", c), result(counts, code), result(impl.CountColours(c), impl.OK))
}

var slipsPattern = regexp.MustCompile(`[kt](s+)`)

// hasNoLongFloats checks that no yarn passes more columns in one go, that tucks are only where it would, and that there are no more than it takes.
func hasNoLongFloats(t *testing.T, c impl.ColourChart, most int64, made impl.Chart) {
	t.Helper()
	tucks, needed := 0, int64(0)
	for _, r := range made.Rows {
		text := strings.Trim(symbolsOf(r.Stitches), "s")
		is(t, fmt.Sprint("ends of ", text), strings.HasPrefix(text, "k") && strings.HasSuffix(text, "k"), true)
		for _, slips := range slipsPattern.FindAllStringSubmatch(text, -1) {
			if int64(len(slips[1])) > most {
				t.Errorf("CatchFloats %v %d: a float of %d columns in %s", c, most, len(slips[1]), text)
			}
		}
		tucks += strings.Count(text, "t")
	}
	list, _ := floatsByHand(c)
	for _, f := range list {
		for between := f.To - f.From - 1; between > most; between -= most + 1 {
			needed++
		}
	}
	is(t, fmt.Sprint("tucks of ", c, most), tucks, needed)
}

// isCaught checks the chart in which floats are caught.
func isCaught(t *testing.T, c impl.ColourChart, most int64) int64 {
	t.Helper()
	made, code := impl.CatchFloats(c, most)
	want, wantCode := caughtChartByHand(t, c, most)
	is(t, fmt.Sprint("CatchFloats ", c, most), result(made, code), result(want, wantCode))
	if code == impl.OK {
		is(t, fmt.Sprint("CatchFloats ", c, most, " is a chart"), result(impl.ValidChart(made), shareMemory(listsOfChart(made))), "[true false]")
		isKnittedOnce(t, c, made)
		hasNoLongFloats(t, c, most, made)
	}
	return code
}

// isColoured checks all that is known of a valid colour chart.
func isColoured(t *testing.T, c impl.ColourChart) {
	t.Helper()
	text := strings.Join(linesOf(c), "\n") + "\n"
	read, ok := impl.ReadColours(text)
	is(t, "colours "+text, result(impl.ValidColours(c), impl.ColoursText(c), read, ok, impl.SameColours(c, read)), result(true, text, c, true, true))
	counts := impl.CountColours(c)
	is(t, "CountColours "+text, counts, sizes(count(text, "1"), count(text, "2"), count(text, "3"), count(text, "4")))
	is(t, "stitches of "+text, result(len(counts), total(counts)), result(4, c.Columns*int64(len(c.Rows))))
	list, longest := floatsByHand(c)
	is(t, "FloatsOf "+text, result(impl.FloatsOf(c)), result(list, impl.OK))
	is(t, "LongestFloat "+text, result(impl.LongestFloat(c)), result(longest, impl.OK))
	hasMirrorImage(t, c)
	made, code := impl.ChartOfColours(c)
	want, wantCode := caughtChartByHand(t, c, 8)
	is(t, "ChartOfColours "+text, result(made, code), result(want, wantCode))
	is(t, "code of "+text, code == impl.OK, len(caughtRowsByHand(c, 8)) <= 8)
	if code == impl.OK {
		isKnittedOnce(t, c, made)
	}
}

func count(text, digit string) int64 { return int64(strings.Count(text, digit)) }

// hasMirrorImage checks the mirror image of a valid colour chart, and its floats.
func hasMirrorImage(t *testing.T, c impl.ColourChart) {
	t.Helper()
	lines := []string{}
	for _, line := range linesOf(c) {
		lines = append(lines, reversedText(line))
	}
	mirrored, code := impl.MirrorColours(c)
	is(t, fmt.Sprint("MirrorColours ", c), result(mirrored, code), result(colours(lines...), impl.OK))
	is(t, fmt.Sprint("mirrored twice ", c), result(impl.MirrorColours(mirrored)), result(c, impl.OK))
	want := map[impl.Float]bool{}
	list, _ := impl.FloatsOf(c)
	for _, f := range list {
		want[float(f.Row, f.Carrier, c.Columns-1-f.To, c.Columns-1-f.From)] = true
	}
	got := map[impl.Float]bool{}
	list, _ = impl.FloatsOf(mirrored)
	for _, f := range list {
		got[f] = true
	}
	is(t, fmt.Sprint("mirrored floats of ", c), got, want)
}

// noColours checks that nothing is known of a colour chart that is not valid.
func noColours(t *testing.T, c impl.ColourChart) {
	t.Helper()
	counts := impl.CountColours(c)
	is(t, fmt.Sprint("no colours ", c), result(impl.ValidColours(c), impl.ColoursText(c), counts == nil), "[false  true]")
	is(t, fmt.Sprint("no floats of ", c), result(result(impl.FloatsOf(c)), result(impl.LongestFloat(c)), result(impl.MirrorColours(c))), "[[[] 1] [0 1] [{0 []} 1]]")
	is(t, fmt.Sprint("no chart of ", c), result(impl.ChartOfColours(c)), "[{0 []} 1]")
	for _, most := range []int64{math.MinInt64, -1, 0, 1, 8, 9, math.MaxInt64} {
		is(t, fmt.Sprint("CatchFloats ", c, most), result(impl.CatchFloats(c, most)), "[{0 []} 1]")
	}
}

// colours throws a valid colour chart.
func (d *dice) colours(columns, rows, carriers int64) impl.ColourChart {
	c := impl.ColourChart{Columns: columns}
	for range rows {
		list := []int64{}
		for range columns {
			list = append(list, 1+d.below(carriers))
		}
		c.Rows = append(c.Rows, list)
	}
	return c
}

func manyColours(count int) []impl.ColourChart {
	list := []impl.ColourChart{}
	for seed := range int64(count) {
		d := dice(seed)
		list = append(list, d.colours(1+seed%8, 1+seed/8%8, 1+seed/64%4))
	}
	return list
}

// notColours are colour charts that are not valid, each for one reason.
func notColours() []impl.ColourChart {
	list := []impl.ColourChart{{}, {Columns: 2}, {Columns: 2, Rows: [][]int64{}}, {Columns: 1, Rows: [][]int64{{}}}, {Columns: 1, Rows: [][]int64{nil}}, {Rows: [][]int64{{}}}, {Rows: [][]int64{{}, {}}}, colours("111111111"), colours(slices.Repeat([]string{"12"}, 9)...), colours(slices.Repeat([]string{"1"}, 5000)...), colours(strings.Repeat("1", 5000))}
	for _, n := range []int64{math.MinInt64, -2, -1, 0, 1, 3, 8, 9, 1<<32 + 2, math.MaxInt64} {
		list = append(list, impl.ColourChart{Columns: n, Rows: [][]int64{{1, 2}}}, impl.ColourChart{Columns: n, Rows: [][]int64{{1, 2}, {2, 1}}})
	}
	for _, line := range []string{"", "1", "12", "1234", "11111111", "111111111"} {
		list = append(list, colours("123", line), colours("123", line, "321"), impl.ColourChart{Columns: 3, Rows: colours(line, "123").Rows}, impl.ColourChart{Columns: 3, Rows: colours(line, "123", "123").Rows})
	}
	for _, n := range []int64{math.MinInt64, -256 + 1, -1, 0, 5, 6, 256 + 1, 1<<32 + 1, math.MaxInt64} {
		for _, row := range [][]int64{{n, 1, 2}, {1, 2, n}, {1, n, 2}, {n, n, n}} {
			list = append(list, impl.ColourChart{Columns: 3, Rows: [][]int64{row}}, impl.ColourChart{Columns: 3, Rows: [][]int64{{1, 2, 1}, row}}, impl.ColourChart{Columns: 3, Rows: [][]int64{row, {1, 2, 1}}}, impl.ColourChart{Columns: 3, Rows: [][]int64{{1, 2, 1}, row, {4, 4, 4}}})
		}
		list = append(list, impl.ColourChart{Columns: 1, Rows: [][]int64{{n}}})
	}
	return list
}

func TestExamplesOfColours(t *testing.T) {
	c := colours("12221")
	is(t, "float", result(impl.FloatsOf(c)), result([]impl.Float{float(0, 1, 0, 4)}, impl.OK))
	made, code := impl.CatchFloats(c, 1)
	is(t, "caught", result(symbolsOf(made.Rows[0].Stitches), code), "[kstsk 0]")
	is(t, "chart", result(made, code), result(chart(t, 5, "< 1 kstsk", "> 2 skkks"), impl.OK))
	is(t, "not caught", result(impl.ChartOfColours(c)), result(chart(t, 5, "< 1 ksssk", "> 2 skkks"), impl.OK))
}

func TestValidColours(t *testing.T) {
	for _, c := range []impl.ColourChart{
		colours("1"), colours("4"), colours("11111111"), colours("44444444"), colours("12344321"), colours("1", "2", "3", "4", "1", "2", "3", "4"), colours(slices.Repeat([]string{"12341234"}, 8)...), colours("12", "21", "33"), colours("1234", "4321"),
	} {
		is(t, fmt.Sprint("valid ", c), impl.ValidColours(c), true)
		isColoured(t, c)
	}
	for _, c := range notColours() {
		noColours(t, c)
	}
}

// P20: all colour charts of one row with at most five columns, and of two rows with at most two.
func TestAllSmallColourCharts(t *testing.T) {
	for _, text := range textsOver("1234", 5)[1:] {
		isColoured(t, colours(text))
		for most := int64(1); most <= 4; most++ {
			is(t, fmt.Sprint("code of ", text, most), isCaught(t, colours(text), most), impl.OK)
		}
	}
	for _, columns := range []int{1, 2} {
		for _, below := range textsOver("1234", columns) {
			for _, above := range textsOver("1234", columns) {
				if len(below) == columns && len(above) == columns {
					isColoured(t, colours(below, above))
				}
			}
		}
	}
}

// P20: many colour charts of all sizes.
func TestManyColourCharts(t *testing.T) {
	codes := map[int64]int{}
	for _, c := range manyColours(1024) {
		isColoured(t, c)
		for most := int64(1); most <= 8; most++ {
			codes[isCaught(t, c, most)]++
		}
	}
	for seed := range int64(2000) {
		d := dice(seed)
		codes[isCaught(t, d.colours(7+seed%2, 2+seed/2%2, 2+seed/4%3), 1+seed/16%2)]++
	}
	is(t, "codes", result(codes[impl.OK] > 2000, codes[impl.ErrFull] > 2000, len(codes)), "[true true 2]")
}

// Colour charts that differ in one thing only.
func TestSameColours(t *testing.T) {
	charts := []impl.ColourChart{
		{}, {Columns: 1}, {Columns: -1}, {Columns: math.MaxInt64}, {Rows: [][]int64{{}}}, {Rows: [][]int64{{}, {}}}, {Rows: [][]int64{{0}}}, {Rows: [][]int64{{0, 0}}}, {Rows: [][]int64{{}, {0}}}, {Rows: [][]int64{{0}, {}}}, {Rows: [][]int64{{-7}}}, {Columns: 1, Rows: [][]int64{{0}}},
		colours("123"), colours("124"), colours("223"), colours("133"), colours("132"), colours("1234"), colours("12"), colours("123", "123"), colours("123", "321"), colours("321", "123"), colours("123", "12"), colours("123", "1234"), colours("123", "123", "123"), colours("123", ""), colours("129"),
		{Columns: 2, Rows: colours("123").Rows}, {Columns: 3, Rows: colours("12").Rows}, {Columns: 3, Rows: colours("1234").Rows}, {Columns: 3, Rows: colours("12", "3").Rows}, {Columns: 3, Rows: colours("1", "23").Rows},
	}
	for i, a := range charts {
		for k, b := range charts {
			is(t, fmt.Sprint("SameColours ", a, b), impl.SameColours(a, impl.ColourChart{Columns: b.Columns, Rows: rowsWithSpare(b.Rows)}), i == k)
		}
	}
	with := func(row []int64) impl.ColourChart { return impl.ColourChart{Columns: 2, Rows: [][]int64{row}} }
	for _, pair := range [][2]impl.ColourChart{
		{{}, {Rows: [][]int64{}}}, {{Columns: 3}, {Columns: 3, Rows: make([][]int64, 0, 5)}}, {with(nil), with([]int64{})}, {with([]int64{}), with([]int64{1}[:0])},
	} {
		is(t, fmt.Sprint("SameColours ", pair), result(impl.SameColours(pair[0], pair[1]), impl.SameColours(pair[1], pair[0])), "[true true]")
	}
	is(t, "a row and none", result(impl.SameColours(with(nil), impl.ColourChart{Columns: 2}), impl.SameColours(impl.ColourChart{Columns: 2}, with(nil))), "[false false]")
	wrong := colours("907", "x")
	is(t, "itself, not valid", impl.SameColours(wrong, wrong), true)
}

// isReadLikeColours checks what is read from a text.
func isReadLikeColours(t *testing.T, s string) bool {
	t.Helper()
	c, ok := impl.ReadColours(s)
	if want := isTextOfColours(s); ok != want {
		t.Errorf("ReadColours %q: got %t, want %t", s, ok, want)
	}
	if ok {
		is(t, "text of what is read", result(impl.ColoursText(c), impl.ValidColours(c)), result(s, true))
	} else {
		is(t, "nothing is read", result(c.Columns, c.Rows == nil), "[0 true]")
	}
	return ok
}

func TestTextsOfColours(t *testing.T) {
	for _, s := range []string{"1\n", "4\n", "12341234\n", "12221\n11111\n", strings.Repeat("2\n", 8), strings.Repeat("43214321\n", 8)} {
		c, ok := impl.ReadColours(s)
		is(t, "read "+s, result(ok, impl.ColoursText(c), isReadLikeColours(t, s)), result(true, s, true))
	}
	read, ok := impl.ReadColours("12221\n11111\n")
	is(t, "two rows", result(read, ok), "[{5 [[1 2 2 2 1] [1 1 1 1 1]]} true]")
}

// Each of these texts nearly is the text of a colour chart.
func TestTextsThatAreNoColours(t *testing.T) {
	for _, s := range []string{
		"", "\n", "\n\n", " ", " \n", "12", "12\n21", "12\n\n", "\n12\n", "12\n\n21\n", "12\n21\n\n", "12\n21\n ", "12\n21\n1", "12\n1\n", "12\n123\n", "1\n12\n", "123\n12\n12\n", "12\n12\n1\n", "12\n12\n121\n", "111111111\n", "12\n111111111\n", "11111111\n111111111\n",
		"10\n", "01\n", "0\n", "15\n", "51\n", "5\n", "12\n10\n", "12\n52\n", "9\n", "1 2\n", " 12\n", "12 \n", "12\n 12\n", "1\t2\n", "12\r\n", "12\r\n21\r\n", "12\r21\r", "\r\n", "1\x00\n", "\x00\n", "\x01\x02\n", "1\xff\n", "\xb1\n", "1é\n", "\uff11\n", "①\n", "a\n", "-1\n", "+1\n", "1,2\n", "1.\n", "k\n",
		strings.Repeat("1\n", 9), strings.Repeat("11111111\n", 9), strings.Repeat("1\n", 5000), strings.Repeat("\n", 100000), strings.Repeat("1", 100000), strings.Repeat("1", 100000) + "\n", "chart 1\n> 1 k\n", "1\x0b", "1\v\n", "1\u2028", "1\u0085\n",
	} {
		is(t, fmt.Sprintf("no colours %.40q", s), isReadLikeColours(t, s), false)
	}
	for c := range 256 {
		for _, s := range []string{string([]byte{byte(c), '\n'}), string([]byte{'1', '2', byte(c), '\n'}), string([]byte{byte(c), '2', '3', '\n', '1', '1', '1', '\n'}), string([]byte{'1', '\n', byte(c), '\n'}), string([]byte{'1', byte(c)})} {
			isReadLikeColours(t, s)
		}
	}
}

func TestTextsOfColoursThatDifferALittle(t *testing.T) {
	for _, s := range []string{"1\n", "12221\n11111\n", "12341234\n43214321\n", strings.Repeat("12\n", 8)} {
		for _, other := range changedTexts(s) {
			isReadLikeColours(t, other)
		}
	}
	read := 0
	for _, s := range textsOver("145\n", 7) {
		if isReadLikeColours(t, s) {
			read++
		}
	}
	is(t, "enough is read", read > 50, true)
}

func TestCountColours(t *testing.T) {
	for _, c := range []struct {
		lines []string
		want  string
	}{
		{[]string{"1"}, "[1 0 0 0]"}, {[]string{"4"}, "[0 0 0 1]"}, {[]string{"12221", "11111"}, "[7 3 0 0]"}, {[]string{"1234", "1234", "4444"}, "[2 2 2 6]"}, {slices.Repeat([]string{"33333333"}, 8), "[0 0 64 0]"}, {slices.Repeat([]string{"12341234"}, 8), "[16 16 16 16]"},
	} {
		is(t, fmt.Sprint("CountColours ", c.lines), impl.CountColours(colours(c.lines...)), c.want)
	}
}

// The floats are written as row, carrier, from and to.
func TestFloats(t *testing.T) {
	for _, c := range []struct {
		lines   []string
		want    string
		longest int64
	}{
		{[]string{"1"}, "[]", 0}, {[]string{"11"}, "[]", 0}, {[]string{"12"}, "[]", 0}, {[]string{"11111111"}, "[]", 0}, {[]string{"1234"}, "[]", 0}, {[]string{"11223344"}, "[]", 0}, {[]string{"12", "21"}, "[]", 0}, {[]string{"12", "12", "12"}, "[]", 0},
		{[]string{"121"}, "[{0 1 0 2}]", 1}, {[]string{"1221"}, "[{0 1 0 3}]", 2}, {[]string{"12221"}, "[{0 1 0 4}]", 3}, {[]string{"1121"}, "[{0 1 1 3}]", 1}, {[]string{"1211"}, "[{0 1 0 2}]", 1}, {[]string{"33133"}, "[{0 3 1 3}]", 1},
		{[]string{"12222221"}, "[{0 1 0 7}]", 6}, {[]string{"42222224"}, "[{0 4 0 7}]", 6}, {[]string{"12342341"}, "[{0 1 0 7} {0 2 1 4} {0 3 2 5} {0 4 3 6}]", 6}, {[]string{"12121"}, "[{0 1 0 2} {0 1 2 4} {0 2 1 3}]", 1}, {[]string{"21212"}, "[{0 1 1 3} {0 2 0 2} {0 2 2 4}]", 1},
		{[]string{"43214321"}, "[{0 1 3 7} {0 2 2 6} {0 3 1 5} {0 4 0 4}]", 3}, {[]string{"41222214"}, "[{0 1 1 6} {0 4 0 7}]", 6}, {[]string{"14222241"}, "[{0 1 0 7} {0 4 1 6}]", 6}, {[]string{"21312213"}, "[{0 1 1 3} {0 1 3 6} {0 2 0 4} {0 3 2 7}]", 4},
		{[]string{"111", "121", "111"}, "[{1 1 0 2}]", 1}, {[]string{"424", "131"}, "[{0 4 0 2} {1 1 0 2}]", 1}, {[]string{"2112", "1221"}, "[{0 2 0 3} {1 1 0 3}]", 2}, {[]string{"32323", "12321", "12221"}, "[{0 2 1 3} {0 3 0 2} {0 3 2 4} {1 1 0 4} {1 2 1 3} {2 1 0 4}]", 3}, {[]string{"1112", "2111"}, "[]", 0}, {[]string{"112", "121", "211"}, "[{1 1 0 2}]", 1},
		{[]string{"12222", "22221"}, "[]", 0}, {slices.Repeat([]string{"12222221"}, 8), "[{0 1 0 7} {1 1 0 7} {2 1 0 7} {3 1 0 7} {4 1 0 7} {5 1 0 7} {6 1 0 7} {7 1 0 7}]", 6}, {[]string{"121111", "122111", "112221", "112211"}, "[{0 1 0 2} {1 1 0 3} {2 1 1 5} {3 1 1 4}]", 3},
	} {
		is(t, fmt.Sprint("FloatsOf ", c.lines), result(impl.FloatsOf(colours(c.lines...))), "["+c.want+" 0]")
		is(t, fmt.Sprint("LongestFloat ", c.lines), result(impl.LongestFloat(colours(c.lines...))), result(c.longest, impl.OK))
	}
}

// The greatest number of floats: in each of MaxRows rows all columns but the first ones of the carriers end one.
func TestGreatestNumberOfFloats(t *testing.T) {
	most := 0
	for _, text := range textsOver("1234", 8) {
		if len(text) == 8 {
			list, _ := impl.FloatsOf(colours(text))
			most = max(most, len(list))
		}
	}
	is(t, "in one row", most, 6)
	for _, line := range []string{"12121212", "43434343"} {
		list, code := impl.FloatsOf(colours(slices.Repeat([]string{line}, 8)...))
		is(t, "in all rows", result(len(list), code), "[48 0]")
		isOrdered := slices.IsSortedFunc(list, func(a, b impl.Float) int {
			return slices.Compare(sizes(a.Row, a.Carrier, a.From), sizes(b.Row, b.Carrier, b.From))
		})
		is(t, "in order", isOrdered, true)
		isColoured(t, colours(slices.Repeat([]string{line}, 8)...))
	}
	for _, line := range []string{"12341234", "21432143", "12312312"} {
		isColoured(t, colours(slices.Repeat([]string{line}, 8)...))
	}
}

func TestMirrorColours(t *testing.T) {
	for _, c := range []struct{ lines, want []string }{
		{[]string{"12"}, []string{"21"}}, {[]string{"1"}, []string{"1"}}, {[]string{"1234", "1123", "4441"}, []string{"4321", "3211", "1444"}}, {[]string{"121"}, []string{"121"}}, {[]string{"12341234"}, []string{"43214321"}},
	} {
		is(t, fmt.Sprint("MirrorColours ", c.lines), result(impl.MirrorColours(colours(c.lines...))), result(colours(c.want...), impl.OK))
	}
}

// becomes checks the chart of a colour chart in which floats are caught; 8 catches none.
func becomes(t *testing.T, most int64, lines []string, rows ...string) {
	t.Helper()
	c := colours(lines...)
	want := result(chart(t, c.Columns, rows...), impl.OK)
	is(t, fmt.Sprint("CatchFloats ", lines, most), result(impl.CatchFloats(c, most)), want)
	if most == 8 {
		is(t, fmt.Sprint("ChartOfColours ", lines), result(impl.ChartOfColours(c)), want)
	}
	is(t, "as by hand", isCaught(t, c, most), impl.OK)
}

func TestChartsOfColours(t *testing.T) {
	becomes(t, 8, []string{"1"}, "< 1 k")
	becomes(t, 8, []string{"4"}, "< 4 k")
	becomes(t, 8, []string{"12221", "11111"}, "< 1 ksssk", "> 2 skkks", "> 1 kkkkk")
	becomes(t, 8, []string{"4321"}, "< 1 sssk", "> 2 ssks", "> 3 skss", "> 4 ksss")
	becomes(t, 8, []string{"44", "44", "44", "44"}, "< 4 kk", "> 4 kk", "< 4 kk", "> 4 kk")
	becomes(t, 8, []string{"12222221"}, "< 1 kssssssk", "> 2 skkkkkks")
}

// A carrier that leaves out rows goes on in the opposite direction, and one that comes in later begins to the right, also one with a lower number.
func TestDirectionsOfColours(t *testing.T) {
	becomes(t, 8, []string{"12", "22", "21", "11"}, "< 1 ks", "> 2 sk", "< 2 kk", "> 1 sk", "> 2 ks", "< 1 kk")
	becomes(t, 8, []string{"3", "1", "2", "3", "2", "1", "3", "3"}, "< 3 k", "> 1 k", "> 2 k", "> 3 k", "< 2 k", "< 1 k", "< 3 k", "> 3 k")
	becomes(t, 8, []string{"22", "21", "12"}, "< 2 kk", "> 1 sk", "> 2 ks", "< 1 ks", "< 2 sk")
	becomes(t, 8, []string{"234", "111", "234", "111"}, "< 2 kss", "> 3 sks", "> 4 ssk", "> 1 kkk", "> 2 kss", "< 3 sks", "< 4 ssk", "< 1 kkk")
	becomes(t, 8, []string{"1234", "4321"}, "< 1 ksss", "> 2 skss", "> 3 ssks", "> 4 sssk", "> 1 sssk", "< 2 ssks", "< 3 skss", "< 4 ksss")
	becomes(t, 8, []string{"2", "3", "4", "1", "1", "4", "3", "2"}, "< 2 k", "> 3 k", "> 4 k", "> 1 k", "< 1 k", "< 4 k", "< 3 k", "> 2 k")
}

// The rows of the chart are those of all carriers together.
func TestColoursOfMaxRowsRows(t *testing.T) {
	for _, c := range []struct {
		lines []string
		code  int64
	}{
		{slices.Repeat([]string{"1"}, 8), impl.OK}, {slices.Repeat([]string{"12"}, 4), impl.OK}, {slices.Repeat([]string{"1234"}, 2), impl.OK}, {[]string{"123", "321", "122"}, impl.OK}, {append(slices.Repeat([]string{"11"}, 6), "12"), impl.OK}, {append(slices.Repeat([]string{"111"}, 5), "123"), impl.OK}, {append([]string{"1234"}, slices.Repeat([]string{"4444"}, 4)...), impl.OK},
		{append(slices.Repeat([]string{"12"}, 4), "11"), impl.ErrFull}, {append(slices.Repeat([]string{"11"}, 7), "12"), impl.ErrFull}, {append([]string{"21"}, slices.Repeat([]string{"11"}, 7)...), impl.ErrFull}, {append(slices.Repeat([]string{"1234"}, 2), "4444"), impl.ErrFull}, {slices.Repeat([]string{"123"}, 3), impl.ErrFull}, {slices.Repeat([]string{"12341234"}, 8), impl.ErrFull}, {append(slices.Repeat([]string{"1111"}, 5), "1234"), impl.ErrFull},
	} {
		made, code := impl.ChartOfColours(colours(c.lines...))
		is(t, fmt.Sprint("ChartOfColours ", c.lines), result(code, made.Columns > 0, made.Rows != nil), result(c.code, c.code == impl.OK, c.code == impl.OK))
		for most := int64(1); most <= 8; most++ {
			is(t, fmt.Sprint("CatchFloats ", c.lines, most), result(isCaught(t, colours(c.lines...), most) == impl.OK), result(c.code == impl.OK))
		}
		isColoured(t, colours(c.lines...))
	}
}

// The number of columns of a float is most, one less, one more, and a multiple of most + 1 and its neighbours. The texts are those for 1 to 6 columns.
func TestCaughtFloats(t *testing.T) {
	for most, texts := range map[int64]string{
		1: "ksk kstk kstsk kststk kststsk kstststk",
		2: "ksk kssk ksstk ksstsk ksstssk ksstsstk",
		3: "ksk kssk ksssk kssstk kssstsk kssstssk",
		4: "ksk kssk ksssk kssssk ksssstk ksssstsk",
		5: "ksk kssk ksssk kssssk ksssssk kssssstk",
		6: "ksk kssk ksssk kssssk ksssssk kssssssk",
		7: "ksk kssk ksssk kssssk ksssssk kssssssk",
		8: "ksk kssk ksssk kssssk ksssssk kssssssk",
	} {
		for i, text := range strings.Fields(texts) {
			others := strings.Repeat("k", i+1)
			becomes(t, most, []string{"1" + strings.Repeat("2", i+1) + "1"}, "< 1 "+text, "> 2 s"+others+"s")
			becomes(t, most, []string{"3" + strings.Repeat("1", i+1) + "3"}, "< 1 s"+others+"s", "> 3 "+text)
		}
		becomes(t, most, []string{"1122", "2221"}, "< 1 kkss", "> 2 sskk", "> 1 sssk", "< 2 kkks")
	}
}

// A float is caught in the row of its carrier, also if others lie across it, and each float from its own beginning on.
func TestManyFloatsAreCaught(t *testing.T) {
	becomes(t, 1, []string{"122122", "221221"}, "< 1 kstkss", "> 2 skkskk", "> 1 sskstk", "< 2 kkskks")
	becomes(t, 1, []string{"12212221"}, "< 1 kstkstsk", "> 2 skkskkks")
	becomes(t, 1, []string{"11221122"}, "< 1 kkstkkss", "> 2 sskkstkk")
	becomes(t, 1, []string{"12312312"}, "< 1 kstkstks", "> 2 skstkstk", "> 3 sskstkss")
	becomes(t, 2, []string{"12341234"}, "< 1 ksstksss", "> 2 sksstkss", "> 3 ssksstks", "> 4 sssksstk")
	becomes(t, 2, []string{"41222214"}, "< 1 sksstsks", "> 2 sskkkkss", "> 4 ksstsstk")
	becomes(t, 1, []string{"24322143"}, "< 1 ssssskss", "> 2 kstkksss", "> 3 sskststk", "> 4 skststks")
	becomes(t, 1, []string{"3113", "3113", "1331"}, "< 1 skks", "> 3 kstk", "> 1 skks", "< 3 kstk", "< 1 kstk", "> 3 skks")
	becomes(t, 3, []string{"12222221", "11111111"}, "< 1 kssstssk", "> 2 skkkkkks", "> 1 kkkkkkkk")
	becomes(t, 2, []string{"21112", "21112"}, "< 1 skkks", "> 2 ksstk", "> 1 skkks", "< 2 ksstk")
}

// Tucks count with the loops of all columns, at most 12, behind each stitch in the direction of the row, and with those of their own column, at most 4.
func TestFloatsThatCannotBeCaught(t *testing.T) {
	for _, c := range []struct {
		most   int64
		lines  []string
		reason string
		code   int64
	}{
		{1, []string{"21111112", "12221222"}, "12 loops", impl.OK},
		{1, []string{"21111112", "12222122"}, "13 loops", impl.ErrFull},
		{2, []string{"21111112", "12222221"}, "12 loops", impl.OK},
		{1, []string{"21111112", "12222221"}, "14 loops", impl.ErrFull},
		{1, []string{"34122342"}, "13 loops within the row", impl.ErrFull},
		{2, []string{"34122342"}, "fewer tucks", impl.OK},
		{1, []string{"24322143"}, "the mirror image has other tucks", impl.OK},
		{1, []string{"21111112", "12222212"}, "13 loops within the row", impl.ErrFull},
		{1, []string{"2131132", "3121432"}, "5 loops in one column", impl.ErrFull},
		{2, []string{"2131132", "3121432"}, "fewer tucks", impl.OK},
		{1, []string{"2131132", "3123432"}, "4 loops in one column", impl.OK},
	} {
		is(t, fmt.Sprint("CatchFloats ", c.lines, c.most, c.reason), isCaught(t, colours(c.lines...), c.most), c.code)
		made, code := impl.ChartOfColours(colours(c.lines...))
		is(t, fmt.Sprint("ChartOfColours ", c.lines), result(impl.ValidChart(made), code), result(true, impl.OK))
		if c.code != impl.OK {
			is(t, "nothing", result(impl.CatchFloats(colours(c.lines...), c.most)), "[{0 []} 5]")
		}
	}
}

// The errors come in the order of the table, each over the complete argument.
func TestErrorsOfCatchFloats(t *testing.T) {
	wrong := []int64{math.MinInt64, math.MinInt64 + 1, -8, -2, -1, 0, 9, 10, 1 << 32, 1<<32 + 1, math.MaxInt64 - 1, math.MaxInt64}
	fine := []impl.ColourChart{colours("1"), colours("12"), colours("12221"), colours("34122342"), colours("12222221", "21111112"), colours(slices.Repeat([]string{"12341234"}, 8)...), colours(append(slices.Repeat([]string{"12"}, 4), "11")...)}
	for _, c := range fine {
		for _, most := range wrong {
			is(t, fmt.Sprint("CatchFloats ", c, most), result(impl.CatchFloats(c, most)), "[{0 []} 2]")
		}
	}
	for _, c := range notColours() {
		for _, most := range append(wrong, 1, 2, 8) {
			is(t, fmt.Sprint("CatchFloats ", c, most), result(impl.CatchFloats(c, most)), "[{0 []} 1]")
		}
	}
	for _, most := range []int64{1, 2, 7, 8} {
		for _, c := range fine[5:] {
			is(t, fmt.Sprint("CatchFloats ", c, most), result(impl.CatchFloats(c, most)), "[{0 []} 5]")
		}
	}
	for _, c := range fine[5:] {
		is(t, fmt.Sprint("ChartOfColours ", c), result(impl.ChartOfColours(c)), "[{0 []} 5]")
	}
	is(t, "not caught", result(impl.ChartOfColours(fine[3])), result(chart(t, 8, "< 1 ssksssss", "> 2 ssskkssk", "> 3 ksssskss", "> 4 skssssks"), impl.OK))
}

// One list may be several rows, and one piece of memory may hold several rows, also as the unused capacity of one another.
func TestColoursThatShareMemory(t *testing.T) {
	memory := []int64{1, 2, 2, 1, 3, 4}
	for _, rows := range [][][]int64{{memory[:3], memory[:3]}, {memory[:3], memory[1:4], memory[3:]}, {memory[:3], memory[3:], memory[2:5]}} {
		c := impl.ColourChart{Columns: 3, Rows: rows}
		text := impl.ColoursText(c)
		isColoured(t, c)
		isCaught(t, c, 1)
		is(t, "memory", result(memory, impl.ColoursText(c)), result(sizes(1, 2, 2, 1, 3, 4), text))
	}
}

// No two lists of a result share memory, also not as the unused capacity of one another.
func TestColoursShareNoMemory(t *testing.T) {
	c := colours("12221", "21312", "12221")
	for name, call := range map[string]func() [][]int64{
		"MirrorColours": func() [][]int64 {
			mirrored, _ := impl.MirrorColours(c)
			return mirrored.Rows
		},
		"ReadColours": func() [][]int64 {
			read, _ := impl.ReadColours("12221\n21312\n12221\n")
			return read.Rows
		},
		"ChartOfColours": func() [][]int64 {
			made, _ := impl.ChartOfColours(c)
			return listsOfChart(made)
		},
		"CatchFloats": func() [][]int64 {
			made, _ := impl.CatchFloats(c, 1)
			return listsOfChart(made)
		},
	} {
		want := call()
		is(t, name+" has rows", len(want) >= 3, true)
		for k := range want {
			got := call()
			scribble(result(got[k]))
			is(t, name+" before the row", got[:k], want[:k])
			is(t, name+" behind the row", got[k+1:], want[k+1:])
		}
	}
	is(t, "the argument", c, colours("12221", "21312", "12221"))
}
