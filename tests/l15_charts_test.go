package tests

import (
	"fmt"
	"math"
	"regexp"
	"slices"
	"strconv"
	"strings"
	"testing"

	"loop.example/g00856/impl"
)

// row reads an arrow, a carrier and symbols.
func row(t *testing.T, text string) impl.Row {
	t.Helper()
	words := strings.Split(text, " ")
	carrier, err := strconv.Atoi(words[1])
	if err != nil || len(words) != 3 {
		t.Fatalf("%q is no row", text)
	}
	dir := map[string]int64{">": 1, "<": -1}[words[0]]
	return impl.Row{Dir: dir, Carrier: int64(carrier), Stitches: kindsIn(t, words[2])}
}

func chart(t *testing.T, columns int64, rows ...string) impl.Chart {
	t.Helper()
	c := impl.Chart{Columns: columns}
	for _, text := range rows {
		c.Rows = append(c.Rows, row(t, text))
	}
	return c
}

// total adds up numbers.
func total(list []int64) int64 {
	n := int64(0)
	for _, x := range list {
		n += x
	}
	return n
}

func isRowByHand(r impl.Row) bool {
	isNoKind := func(kind int64) bool { return kind < 1 || kind > 11 }
	return (r.Dir == 1 || r.Dir == -1) && r.Carrier >= 1 && r.Carrier <= 4 && len(r.Stitches) <= 16 && !slices.ContainsFunc(r.Stitches, isNoKind)
}

// rowByHand knits a row stitch by stitch; the yarn is ahead of the column with the number at.
func rowByHand(stacks []int64, r impl.Row) ([]int64, bool) {
	if !isRowByHand(r) {
		return nil, false
	}
	symbols, columns, at := symbolsOf(r.Stitches), slices.Clone(stacks), 0
	if r.Dir < 0 {
		at = len(columns)
	}
	for k := range symbols {
		symbol := symbols[k : k+1]
		if r.Dir < 0 {
			symbol = symbols[len(symbols)-1-k : len(symbols)-k]
		}
		taken, made := columnsByHand(symbol)
		from, next := at, at+made
		if r.Dir < 0 {
			from, next = at-taken, at-taken
		}
		if from < 0 || from+taken > len(columns) {
			return nil, false
		}
		after, code := stacksByHand(columns[from:from+taken], symbol)
		if columns = slices.Concat(columns[:from], after, columns[from+taken:]); code != impl.OK || total(columns) > 12 {
			return nil, false
		}
		at = next
	}
	isAtEnd := r.Dir > 0 && at == len(columns) || r.Dir < 0 && at == 0
	return columns, isAtEnd && len(columns) <= 8
}

// chartByHand returns the stacks after each row.
func chartByHand(c impl.Chart) ([][]int64, bool) {
	if c.Columns < 1 || c.Columns > 8 || len(c.Rows) < 1 || len(c.Rows) > 8 {
		return nil, false
	}
	lists, stacks, ok := [][]int64{}, copiesOf(1, int(c.Columns)), false
	for _, r := range c.Rows {
		if stacks, ok = rowByHand(stacks, r); !ok {
			return nil, false
		}
		lists = append(lists, stacks)
	}
	return lists, true
}

func chartTextByHand(c impl.Chart) string {
	if _, ok := chartByHand(c); !ok {
		return ""
	}
	text := fmt.Sprintf("chart %d\n", c.Columns)
	for _, r := range c.Rows {
		text += fmt.Sprintf("%s %d %s\n", map[int64]string{1: ">", -1: "<"}[r.Dir], r.Carrier, symbolsOf(r.Stitches))
	}
	return text
}

var chartPattern = regexp.MustCompile(`^chart [1-8]\n([<>] [1-4] [kpodetsxyXY]+\n){1,8}$`)

// isReadAsChart reports whether s is the text of a valid chart.
func isReadAsChart(t *testing.T, s string) bool {
	t.Helper()
	if !chartPattern.MatchString(s) {
		return false
	}
	lines := strings.Split(strings.TrimSuffix(s, "\n"), "\n")
	_, ok := chartByHand(chart(t, int64(s[len("chart ")]-'0'), lines[1:]...))
	return ok
}

// isChart checks all that is known of a chart without other charts.
func isChart(t *testing.T, c impl.Chart) {
	t.Helper()
	name := fmt.Sprint("chart ", c)
	stacks, valid := chartByHand(c)
	is(t, "valid "+name, impl.ValidChart(c), valid)
	is(t, "text of "+name, impl.ChartText(c), chartTextByHand(c))
	if !valid {
		is(t, "stacks of "+name, result(result(impl.StacksOf(c)), result(impl.ColumnsAfter(c))), "[[[] 1] [[] 1]]")
		is(t, "mirror image of "+name, result(impl.MirrorChart(c)), "[{0 []} 1]")
		return
	}
	columns := []int{}
	for _, list := range stacks {
		columns = append(columns, len(list))
	}
	is(t, "stacks of "+name, result(impl.StacksOf(c)), result(stacks, impl.OK))
	is(t, "columns of "+name, result(impl.ColumnsAfter(c)), result(columns, impl.OK))
	is(t, "read back "+name, result(impl.ReadChart(impl.ChartText(c))), result(c, true))
	isMirrored(t, c)
}

// isMirrored checks the mirror image of a valid chart.
func isMirrored(t *testing.T, c impl.Chart) {
	t.Helper()
	name := fmt.Sprint("mirror image of ", c)
	want := impl.Chart{Columns: c.Columns}
	for _, r := range c.Rows {
		want.Rows = append(want.Rows, impl.Row{Dir: -r.Dir, Carrier: r.Carrier, Stitches: kindsIn(t, mirroredSymbols(symbolsOf(r.Stitches)))})
	}
	mirrored, code := impl.MirrorChart(c)
	is(t, name, result(mirrored, code), result(want, impl.OK))
	is(t, name+" is valid", impl.ValidChart(mirrored), true)
	is(t, name+" mirrored", result(impl.MirrorChart(mirrored)), result(c, impl.OK))
	stacks, _ := chartByHand(c)
	for i := range stacks {
		stacks[i] = turned(stacks[i])
	}
	is(t, "stacks of the "+name, result(impl.StacksOf(mirrored)), result(stacks, impl.OK))
}

// rowText throws symbols that take so many columns.
func (d *dice) rowText(columns int) string {
	text := ""
	for {
		symbol := string(symbolsByHand[d.below(11)])
		if taken, _ := columnsByHand(text + symbol); taken <= columns {
			text += symbol
		}
		if taken, _ := columnsByHand(text); taken == columns && d.below(4) > 0 {
			return text
		}
	}
}

// chart throws a valid chart.
func (d *dice) chart(t *testing.T, columns int64, rows int) impl.Chart {
	t.Helper()
	c := impl.Chart{Columns: columns}
	stacks := copiesOf(1, int(columns))
	for len(c.Rows) < rows {
		r := impl.Row{Dir: d.dir(), Carrier: 1 + d.below(4), Stitches: kindsIn(t, d.rowText(len(stacks)))}
		if after, ok := rowByHand(stacks, r); ok {
			c.Rows, stacks = append(c.Rows, r), after
		}
	}
	return c
}

func manyCharts(t *testing.T, count int) []impl.Chart {
	t.Helper()
	list := []impl.Chart{}
	for seed := range count {
		d := dice(seed)
		list = append(list, d.chart(t, int64(1+seed%8), 1+seed/8%8))
	}
	return list
}

// notCharts are charts that are not valid, each for one reason.
func notCharts(t *testing.T) []impl.Chart {
	t.Helper()
	list := []impl.Chart{{}, {Columns: 1}, {Columns: 3, Rows: []impl.Row{}}, {Columns: 1, Rows: []impl.Row{{}}}, {Columns: 1, Rows: []impl.Row{{Dir: 1, Carrier: 1}}}, {Rows: []impl.Row{{Dir: 1, Carrier: 1}}}}
	list = append(list, chart(t, 9, "> 1 kkkkkkkkk"), chart(t, 9, "> 1 kkkkkkkdd"), chart(t, 0, "> 1 o"), chart(t, -1, "> 1 o"), chart(t, math.MaxInt64, "> 1 k"), chart(t, math.MinInt64, "> 1 k"))
	list = append(list, impl.Chart{Columns: 1, Rows: slices.Repeat([]impl.Row{row(t, "> 1 k")}, 9)}, impl.Chart{Columns: 1, Rows: slices.Repeat([]impl.Row{row(t, "< 4 s")}, 5000)})
	for _, r := range notRows(t) {
		k := row(t, "> 1 k")
		list = append(list, impl.Chart{Columns: 1, Rows: []impl.Row{r}}, impl.Chart{Columns: 1, Rows: []impl.Row{k, k, r}}, impl.Chart{Columns: 1, Rows: []impl.Row{k, r, k}}, impl.Chart{Columns: int64(len(r.Stitches)), Rows: []impl.Row{r}})
	}
	list = append(list, chart(t, 3, "> 1 kk"), chart(t, 3, "> 1 kkkk"), chart(t, 3, "> 1 kkk", "< 1 kk"), chart(t, 3, "> 1 kxo", "< 1 kkk"), chart(t, 3, "> 1 kd", "< 1 kkk"), chart(t, 3, "> 1 kkk", "< 1 kkk", "> 1 X"))
	list = append(list, chart(t, 8, "> 1 kkkkkkkko"), chart(t, 8, "< 1 okkkkkkkk"), chart(t, 7, "> 1 oxkkkkk", "< 1 kkkkkkkok"), chart(t, 1, "> 1 t", "> 1 t", "> 1 t", "> 1 t"), chart(t, 2, "> 1 tt", "> 1 tk", "> 1 ts", "> 1 td"), chart(t, 2, "> 1 tt", "> 1 ts", "> 1 d"), chart(t, 3, "> 1 ttk", "> 1 tsk", "> 1 ek"))
	list = append(list, chart(t, 8, "> 1 tttttkkk"), chart(t, 8, "> 1 tttttttt"), chart(t, 7, "> 1 ttttttk"), chart(t, 5, "> 1 ttttt", "> 1 tttss"))
	return list
}

// notRows are rows that are not valid, each for one reason.
func notRows(t *testing.T) []impl.Row {
	t.Helper()
	list := []impl.Row{}
	for _, n := range []int64{math.MinInt64, -2, 0, 2, 3, 256 + 1, math.MaxInt64} {
		list = append(list, impl.Row{Dir: n, Carrier: 1, Stitches: []int64{1}})
	}
	for _, n := range []int64{math.MinInt64, -1, 0, 5, 256 + 1, math.MaxInt64} {
		list = append(list, impl.Row{Dir: 1, Carrier: n, Stitches: []int64{1}})
	}
	for _, stitches := range notStitches() {
		list = append(list, impl.Row{Dir: -1, Carrier: 4, Stitches: stitches})
	}
	return list
}

func TestChartConstants(t *testing.T) {
	is(t, "limit", impl.MaxRows, 8)
}

func TestExampleOfCharts(t *testing.T) {
	c, ok := impl.ReadChart("chart 3\n> 1 kxo\n")
	is(t, "kxo", result(c, ok), "[{3 [{1 1 [1 8 3]}]} true]")
	is(t, "columns", result(impl.ColumnsAfter(c)), "[[4] 0]")
	mirrored, code := impl.MirrorChart(c)
	is(t, "mirror image", result(impl.ChartText(mirrored), code), "[chart 3\n< 1 oyk\n 0]")
}

func TestRows(t *testing.T) {
	for _, dir := range []int64{1, -1} {
		for carrier := int64(1); carrier <= 4; carrier++ {
			for _, text := range []string{"", "k", "kpodetsxyXY", strings.Repeat("Y", 16), strings.Repeat("o", 16)} {
				is(t, "valid row "+text, impl.ValidRow(impl.Row{Dir: dir, Carrier: carrier, Stitches: kindsIn(t, text)}), true)
			}
		}
	}
	for _, r := range notRows(t) {
		is(t, fmt.Sprint("no row ", r), impl.ValidRow(r), false)
	}
	is(t, "nothing", result(impl.ValidRow(impl.Row{}), impl.ValidRow(impl.Row{Dir: 1, Carrier: 1})), "[false true]")
}

func TestChartsThatAreNotValid(t *testing.T) {
	fine := chart(t, 1, "> 1 k")
	for _, c := range notCharts(t) {
		isChart(t, c)
		is(t, fmt.Sprint("ValidChart ", c), impl.ValidChart(c), false)
		is(t, fmt.Sprint("RepeatChart ", c), result(result(impl.RepeatChart(c, 1)), result(impl.RepeatChart(c, 0)), result(impl.RepeatChart(c, 9))), "[[{0 []} 1] [{0 []} 1] [{0 []} 1]]")
		for _, other := range []impl.Chart{c, fine, {}} {
			is(t, fmt.Sprint("StackCharts ", c, other), result(result(impl.StackCharts(c, other)), result(impl.StackCharts(other, c))), "[[{0 []} 1] [{0 []} 1]]")
			is(t, fmt.Sprint("BesideCharts ", c, other), result(result(impl.BesideCharts(c, other)), result(impl.BesideCharts(other, c))), "[[{0 []} 1] [{0 []} 1]]")
		}
	}
}

func TestChartsThatAreValid(t *testing.T) {
	for _, c := range []impl.Chart{
		chart(t, 1, "> 1 k"), chart(t, 8, "< 4 kkkkkkkk"), chart(t, 8, "> 2 XY", "< 3 YX"), chart(t, 1, "> 1 k", "> 2 p", "> 3 t", "> 4 s", "< 1 k", "< 2 k", "< 3 k", "< 4 ok"),
		chart(t, 1, "> 1 t", "> 1 t", "> 1 t", "> 1 s", "< 1 k"), chart(t, 2, "> 1 tt", "> 1 ss", "> 1 d"), chart(t, 2, "> 1 tt", "> 1 tk", "> 1 e"), chart(t, 1, "> 1 ook", "< 1 dok", "> 1 ooooodk"), chart(t, 8, "> 1 dddd", "> 1 dd", "> 1 d"),
		chart(t, 8, "> 1 ddddoooo"), chart(t, 8, "< 1 ddddoooo"), chart(t, 8, "> 1 oooodddd"), chart(t, 8, "< 1 oooodddd"), chart(t, 8, "> 1 ttttkkkk", "< 2 ssssssss"), chart(t, 4, "> 1 tttt", "> 1 tttt", "> 1 ssss"), chart(t, 3, "> 1 ttt", "> 1 ttt", "> 1 ttt", "> 1 sss"),
	} {
		is(t, fmt.Sprint("ValidChart ", c), impl.ValidChart(c), true)
		isChart(t, c)
	}
}

// P16: the stacks, the text and the mirror image of many charts.
func TestManyCharts(t *testing.T) {
	for _, c := range manyCharts(t, 640) {
		is(t, fmt.Sprint("valid ", c), impl.ValidChart(c), true)
		isChart(t, c)
	}
}

// Charts that differ a little are often not valid, each for another reason.
func TestChartsThatDifferALittle(t *testing.T) {
	for seed, c := range manyCharts(t, 128) {
		d := dice(seed)
		for range 20 {
			other := copyOfChart(c)
			switch at := d.below(int64(len(c.Rows))); d.below(6) {
			case 0:
				other.Columns = d.below(11) - 1
			case 1:
				other.Rows[at].Dir = d.below(5) - 2
			case 2:
				other.Rows[at].Carrier = d.below(7) - 1
			case 3:
				other.Rows = slices.Delete(other.Rows, int(at), int(at)+1)
			case 4:
				other.Rows = append(other.Rows, other.Rows[at])
			default:
				list := other.Rows[at].Stitches
				list[d.below(int64(len(list)))] = d.below(13)
			}
			isChart(t, other)
		}
	}
}

func copyOfChart(c impl.Chart) impl.Chart {
	c.Rows = slices.Clone(c.Rows)
	for i := range c.Rows {
		c.Rows[i].Stitches = slices.Clone(c.Rows[i].Stitches)
	}
	return c
}

// isValidOnlyTo checks a chart whose last row is valid only to dir, or to neither side if dir is 0. Its mirror image is checked, too.
func isValidOnlyTo(t *testing.T, dir int64, columns int64, rows ...string) {
	t.Helper()
	for _, to := range []int64{1, -1} {
		c := chart(t, columns, rows...)
		c.Rows[len(c.Rows)-1].Dir = to
		is(t, fmt.Sprint("ValidChart ", rows, " to ", to), impl.ValidChart(c), to == dir)
		isChart(t, c)
	}
}

// The loops are counted behind each stitch in the direction of the yarn, also if there are fewer at the end.
func TestLoopsWithinARow(t *testing.T) {
	const right, left, neither = 1, -1, 0
	for _, c := range []struct {
		before  []string
		dir     int64
		columns int64
		rows    string
	}{
		{[]string{"> 1 ttttkkkk"}, left, 8, "tkkkkkkk odkkkkkk oekkkkkk ossssssd"},
		{[]string{"> 1 ttttkkkk"}, right, 8, "kkkkkkdo kkkkkkkt yskkkkt Xskkt dsssssso pxsstkk"},
		{[]string{"> 1 ttttkkkk"}, neither, 8, "ssssssst ssssotd"},
		{[]string{"> 1 tttttt"}, left, 6, "okkkkkk tkkkkk stX"},
		{[]string{"> 1 tttttt"}, right, 6, "kosssss kkoossss sYt"},
		{[]string{"> 1 tttttt"}, neither, 6, "koosssss sosssss skttss"},
		{[]string{"> 1 tttt", "< 1 tttt"}, left, 4, "osssk tssk stkk"},
		{[]string{"> 1 tttt", "< 1 tttt"}, right, 4, "ksst ktts skst xts"},
		{[]string{"> 1 tttt", "< 1 tttt"}, neither, 4, "kttt otss"},
		{[]string{"> 1 ttt", "< 1 ttt", "< 2 ttt"}, left, 3, "osks oskk"},
		{[]string{"> 1 ttt", "< 1 ttt", "< 2 ttt"}, right, 3, "koss skos"},
		{[]string{"> 1 ttt", "< 1 ttt", "< 2 ttt"}, neither, 3, "kooooss osss"},
		{[]string{"> 1 ttttk", "< 1 ttsss", "> 1 tssss"}, left, 5, "ssods oksdk ossds"},
		{[]string{"> 1 ttttk", "< 1 ttsss", "> 1 tssss"}, right, 5, "ssdoos ksstt"},
	} {
		for _, last := range strings.Fields(c.rows) {
			isValidOnlyTo(t, c.dir, c.columns, append(slices.Clone(c.before), "> 1 "+last)...)
		}
	}
}

// Charts that differ in one field only, or in the order of their stitches or rows.
func TestSameChart(t *testing.T) {
	charts := []impl.Chart{
		{}, {Columns: 1}, {Columns: -1}, {Rows: []impl.Row{{}}}, {Rows: []impl.Row{{}, {}}}, {Rows: []impl.Row{{Dir: 1}}}, {Rows: []impl.Row{{Carrier: 1}}}, {Rows: []impl.Row{{Stitches: []int64{0}}}}, {Rows: []impl.Row{{Stitches: []int64{0, 0}}}}, {Rows: []impl.Row{{}, {Stitches: []int64{0}}}},
		chart(t, 3, "> 1 kxo"), chart(t, 2, "> 1 kxo"), chart(t, 3, "< 1 kxo"), chart(t, 3, "> 2 kxo"), chart(t, 3, "> 1 kyo"), chart(t, 3, "> 1 kox"), chart(t, 3, "> 1 kx"), chart(t, 3, "> 1 kxoo"), chart(t, 3, "> 1 pxo"), chart(t, 3, "> 1 kxo", "> 1 kxo"),
		chart(t, 3, "> 1 kkk", "> 1 ppp"), chart(t, 3, "> 1 ppp", "> 1 kkk"), chart(t, 3, "> 1 kkk", "> 1 ppk"), chart(t, 3, "> 1 kkk", "< 1 ppp"), chart(t, 3, "> 1 kkk", "> 4 ppp"), chart(t, 4, "> 1 kkk", "> 1 ppp"), chart(t, 3, "> 1 kkkp", "> 1 pp"),
	}
	for i, a := range charts {
		for k, b := range charts {
			is(t, fmt.Sprint("SameChart ", a, b), impl.SameChart(a, copyOfChart(b)), i == k)
		}
	}
}

// Nil and empty slices are the same at every depth.
func TestSameChartOfEmptyLists(t *testing.T) {
	with := func(stitches []int64) impl.Chart {
		return impl.Chart{Columns: 2, Rows: []impl.Row{{Dir: 1, Stitches: stitches}}}
	}
	for _, pair := range [][2]impl.Chart{
		{{}, {Rows: []impl.Row{}}}, {{Columns: 3}, {Columns: 3, Rows: make([]impl.Row, 0, 5)}}, {with(nil), with([]int64{})}, {with([]int64{}), with([]int64{1}[:0])},
	} {
		is(t, fmt.Sprint("SameChart ", pair), result(impl.SameChart(pair[0], pair[1]), impl.SameChart(pair[1], pair[0])), "[true true]")
	}
	is(t, "a row and none", result(impl.SameChart(with(nil), impl.Chart{Columns: 2}), impl.SameChart(impl.Chart{Columns: 2}, with(nil))), "[false false]")
}

func TestColumnsAndStacksOfCharts(t *testing.T) {
	for _, c := range []struct {
		chart           impl.Chart
		columns, stacks string
	}{
		{chart(t, 1, "> 1 k"), "[1]", "[[1]]"},
		{chart(t, 3, "> 1 kxo"), "[4]", "[[1 1 1 1]]"},
		{chart(t, 8, "> 1 dddd", "< 1 ee", "> 1 d"), "[4 2 1]", "[[1 1 1 1] [1 1] [1]]"},
		{chart(t, 1, "> 1 ook", "< 2 ttk", "> 1 dos", "< 3 te"), "[3 3 3 2]", "[[1 1 1] [2 2 1] [1 1 1] [2 1]]"},
		{chart(t, 2, "> 1 tk", "> 1 tt", "> 1 ts", "> 1 kos"), "[2 2 2 3]", "[[2 1] [3 2] [4 2] [1 1 2]]"},
	} {
		is(t, "columns", result(impl.ColumnsAfter(c.chart)), "["+c.columns+" 0]")
		is(t, "stacks", result(impl.StacksOf(c.chart)), "["+c.stacks+" 0]")
	}
}

// isReadLikeChart checks what is read from a text.
func isReadLikeChart(t *testing.T, s string) {
	t.Helper()
	c, ok := impl.ReadChart(s)
	if want := isReadAsChart(t, s); ok != want {
		t.Errorf("ReadChart %q: got %t, want %t", s, ok, want)
	}
	if ok {
		is(t, "text of what is read", chartTextByHand(c), s)
	} else {
		is(t, "nothing is read", result(c.Columns, c.Rows == nil), "[0 true]")
	}
}

func TestTextsOfCharts(t *testing.T) {
	for _, s := range []string{"chart 1\n> 1 k\n", "chart 8\n< 4 kkkkkkkk\n> 3 XY\n", "chart 3\n> 1 kxo\n", "chart 1\n" + strings.Repeat("< 2 s\n", 8), "chart 4\n> 1 tttt\n< 1 tttt\n> 1 ktts\n"} {
		c, ok := impl.ReadChart(s)
		is(t, "read "+s, result(ok, impl.ChartText(c)), result(true, s))
		isReadLikeChart(t, s)
	}
}

// Each of these texts nearly is the text of a chart.
func TestTextsThatAreNoCharts(t *testing.T) {
	for _, s := range []string{
		"", "\n", "\n\n", " ", "chart", "chart\n", "chart 3", "chart 3\n", "chart 3\n\n", "chart 3\n> 1 kxo", "chart 3\n> 1 kxo\n\n", "chart 3\n\n> 1 kxo\n", "\nchart 3\n> 1 kxo\n", "chart 3\n> 1 kkk\n\n> 1 kkk\n", "chart 3\n> 1 kxo\n ", "chart 3\n> 1 kxo\nx", "chart 3\r\n> 1 kxo\r\n",
		"chart  3\n> 1 kxo\n", " chart 3\n> 1 kxo\n", "chart 3 \n> 1 kxo\n", "chart\t3\n> 1 kxo\n", "chart 3\n>  1 kxo\n", "chart 3\n> 1  kxo\n", "chart 3\n> 1 kxo \n", "chart 3\n > 1 kxo\n", "chart 3\n> 1 k xo\n", "chart 3\n>\t1 kxo\n", "chart 3\n>1 kxo\n", "chart 3\n> 1kxo\n", "chart3\n> 1 kxo\n",
		"chart 03\n> 1 kxo\n", "chart +3\n> 1 kxo\n", "chart -3\n> 1 kxo\n", "chart 3.0\n> 1 kxo\n", "chart 3\n> 01 kxo\n", "chart 3\n> +1 kxo\n", "chart 3\n> 1. kxo\n", "chart three\n> 1 kxo\n", "3\n> 1 kxo\n", "Chart 3\n> 1 kxo\n", "charts 3\n> 1 kxo\n", "chart 3 3\n> 1 kxo\n", "chart chart 3\n> 1 kxo\n", "width 3\n> 1 kxo\n",
		"chart 3\n- 1 kxo\n", "chart 3\n>> 1 kxo\n", "chart 3\n1 kxo\n", "chart 3\n> kxo\n", "chart 3\n> 1\n", "chart 3\n> 1 \n", "chart 3\n> 0 kxo\n", "chart 3\n> 5 kxo\n", "chart 3\n= 1 kxo\n", "chart 3\n> 1 kzo\n", "chart 3\n> 1 kx0\n", "chart 3\n> 1 KXO\n", "chart 3\n> 1 kxo kxo\n", "chart 3\n> 1 kxo 1\n", "chart 3\n> 1 kx\xff\n", "chart 3\n> 1 2 kxo\n", "chart 3\n> > 1 kxo\n",
		"chart 4\n> 1 kxo\n", "chart 2\n> 1 kxo\n", "chart 3\n> 1 kkkk\n", "chart 0\n> 1 o\n", "chart 9\n> 1 kkkkkkkkk\n", "chart 8\n> 1 kkkkkkkko\n", "chart 8\n> 1 tttttkkk\n", "chart 1\n> 1 t\n> 1 t\n> 1 t\n> 1 t\n", "chart 1\n" + strings.Repeat("> 1 k\n", 9), "chart 1\n" + strings.Repeat("> 1 k\n", 5000), strings.Repeat("\n", 100000), "chart 99999999999999999999\n> 1 k\n", "chart 1\n> 99999999999999999999 k\n",
	} {
		is(t, fmt.Sprintf("no chart %q", s), isReadAsChart(t, s), false)
		isReadLikeChart(t, s)
	}
}

// P16: a text that differs a little is read only if it is the text of another chart.
func TestTextsOfChartsThatDifferALittle(t *testing.T) {
	for _, s := range []string{"chart 3\n> 1 kxo\n", "chart 1\n< 4 t\n> 3 ok\n", "chart 8\n> 1 ttttkkkk\n< 1 tkkkkkkk\n"} {
		for _, other := range changedTexts(s) {
			isReadLikeChart(t, other)
		}
		lines := strings.SplitAfter(s, "\n")
		for i := range lines {
			isReadLikeChart(t, strings.Join(slices.Insert(slices.Clone(lines), i, lines[i]), ""))
			isReadLikeChart(t, strings.Join(slices.Delete(slices.Clone(lines), i, i+1), ""))
			isReadLikeChart(t, strings.Join(slices.Insert(slices.Clone(lines), i, "\n"), ""))
		}
	}
}

// joinedByHand is the chart with rows of both, and what is wrong with it.
func joinedByHand(columns int64, rows ...impl.Row) (impl.Chart, int64) {
	c := impl.Chart{Columns: columns, Rows: rows}
	if _, ok := chartByHand(c); !ok {
		return impl.Chart{}, impl.ErrFull
	}
	return c, impl.OK
}

func columnsAtEndByHand(c impl.Chart) int64 {
	stacks, _ := chartByHand(c)
	return int64(len(stacks[len(stacks)-1]))
}

func stackedByHand(a, b impl.Chart) (impl.Chart, int64) {
	_, isFirst := chartByHand(a)
	_, isSecond := chartByHand(b)
	switch {
	case !isFirst || !isSecond:
		return impl.Chart{}, impl.ErrInvalid
	case columnsAtEndByHand(a) != b.Columns:
		return impl.Chart{}, impl.ErrStitches
	}
	return joinedByHand(a.Columns, slices.Concat(a.Rows, b.Rows)...)
}

func repeatedByHand(c impl.Chart, times int64) (impl.Chart, int64) {
	_, valid := chartByHand(c)
	switch {
	case !valid:
		return impl.Chart{}, impl.ErrInvalid
	case times < 1 || times > 8:
		return impl.Chart{}, impl.ErrRange
	case times > 1 && columnsAtEndByHand(c) != c.Columns:
		return impl.Chart{}, impl.ErrStitches
	}
	return joinedByHand(c.Columns, slices.Repeat(c.Rows, int(times))...)
}

func besideByHand(a, b impl.Chart) (impl.Chart, int64) {
	_, isFirst := chartByHand(a)
	_, isSecond := chartByHand(b)
	if !isFirst || !isSecond {
		return impl.Chart{}, impl.ErrInvalid
	}
	if len(a.Rows) != len(b.Rows) {
		return impl.Chart{}, impl.ErrState
	}
	rows := []impl.Row{}
	for i, r := range a.Rows {
		if r.Dir != b.Rows[i].Dir || r.Carrier != b.Rows[i].Carrier {
			return impl.Chart{}, impl.ErrState
		}
		rows = append(rows, impl.Row{Dir: r.Dir, Carrier: r.Carrier, Stitches: slices.Concat(r.Stitches, b.Rows[i].Stitches)})
	}
	return joinedByHand(a.Columns+b.Columns, rows...)
}

// isMade compares a chart that is made of others with one made by hand, and checks that its rows share no memory.
func isMade(t *testing.T, name string, got impl.Chart, code int64, want impl.Chart, wantCode int64) {
	t.Helper()
	is(t, name, result(got, code), result(want, wantCode))
	is(t, name+" shares memory", shareMemory(listsOfChart(got)), false)
}

func listsOfChart(c impl.Chart) [][]int64 {
	lists := [][]int64{}
	for _, r := range c.Rows {
		lists = append(lists, r.Stitches)
	}
	return lists
}

func isStacked(t *testing.T, a, b impl.Chart) int64 {
	t.Helper()
	got, code := impl.StackCharts(a, b)
	want, wantCode := stackedByHand(a, b)
	isMade(t, fmt.Sprint("StackCharts ", a, b), got, code, want, wantCode)
	return code
}

func isRepeated(t *testing.T, c impl.Chart, times int64) int64 {
	t.Helper()
	got, code := impl.RepeatChart(c, times)
	want, wantCode := repeatedByHand(c, times)
	isMade(t, fmt.Sprint("RepeatChart ", c, times), got, code, want, wantCode)
	return code
}

func isBeside(t *testing.T, a, b impl.Chart) int64 {
	t.Helper()
	got, code := impl.BesideCharts(a, b)
	want, wantCode := besideByHand(a, b)
	isMade(t, fmt.Sprint("BesideCharts ", a, b), got, code, want, wantCode)
	return code
}

func TestStackedCharts(t *testing.T) {
	k := "> 1 k"
	tucked, eight := chart(t, 8, "> 1 ttttkkkk"), chart(t, 1, k, k, k, k, k, k, k, k)
	for _, c := range []struct {
		a, b impl.Chart
		code int64
	}{
		{chart(t, 3, "> 1 kxo"), chart(t, 4, "< 2 dkk"), impl.OK}, {chart(t, 1, k, k, k, k), chart(t, 1, k, k, k, "< 2 p"), impl.OK}, {chart(t, 1, k, k, k, k, k, k, k), chart(t, 1, "< 2 p"), impl.OK},
		{chart(t, 3, "> 1 kxo"), chart(t, 3, "> 1 kxo"), impl.ErrStitches}, {chart(t, 3, "> 1 kd"), chart(t, 3, "> 1 kkk"), impl.ErrStitches}, {chart(t, 1, "> 1 ok"), chart(t, 1, k), impl.ErrStitches}, {chart(t, 1, "> 1 ok", "> 1 d"), chart(t, 2, "> 1 kk"), impl.ErrStitches}, {chart(t, 1, "> 1 ok", "> 1 d"), chart(t, 1, k), impl.OK},
		{eight, chart(t, 1, k), impl.ErrFull}, {chart(t, 1, k), eight, impl.ErrFull}, {eight, eight, impl.ErrFull}, {chart(t, 1, k, k, k, k), chart(t, 1, k, k, k, k, k), impl.ErrFull},
		{chart(t, 1, "> 1 t", "> 1 t", "> 1 t"), chart(t, 1, "> 1 t"), impl.ErrFull}, {chart(t, 1, "> 1 t", "> 1 t"), chart(t, 1, "> 1 t"), impl.OK}, {chart(t, 2, "> 1 tt", "> 1 ts"), chart(t, 2, "> 1 d"), impl.ErrFull}, {chart(t, 2, "> 1 tt"), chart(t, 2, "> 1 e"), impl.OK},
		{tucked, chart(t, 8, "> 1 tkkkkkkk"), impl.ErrFull}, {tucked, chart(t, 8, "< 1 tkkkkkkk"), impl.OK}, {tucked, chart(t, 8, "> 1 kkkkkkkk", "> 1 tkkkkkkk"), impl.OK}, {tucked, chart(t, 8, "< 1 kkkkkkdo"), impl.ErrFull}, {tucked, chart(t, 8, "> 1 kkkkkkdo"), impl.OK},
		{chart(t, 2, "> 1 kk", "> 1 kk", "> 1 kk", "> 1 kk"), eight, impl.ErrStitches}, {tucked, chart(t, 7, "> 1 tkkkkkk"), impl.ErrStitches},
	} {
		is(t, fmt.Sprint("code of StackCharts ", c.a, c.b), isStacked(t, c.a, c.b), c.code)
	}
}

func TestRepeatedCharts(t *testing.T) {
	k := "> 1 k"
	for _, c := range []struct {
		chart impl.Chart
		codes map[int64]int64 // by the number of times
	}{
		{chart(t, 1, k), map[int64]int64{1: 0, 2: 0, 3: 0, 7: 0, 8: 0}},
		{chart(t, 2, "> 1 x", "< 2 y"), map[int64]int64{1: 0, 4: 0, 5: impl.ErrFull, 8: impl.ErrFull}},
		{chart(t, 1, k, k, k), map[int64]int64{1: 0, 2: 0, 3: impl.ErrFull}},
		{chart(t, 1, k, k, k, k, k), map[int64]int64{1: 0, 2: impl.ErrFull}},
		{chart(t, 1, k, k, k, k, k, k, k, k), map[int64]int64{1: 0, 2: impl.ErrFull, 8: impl.ErrFull}},
		{chart(t, 3, "> 1 kxo"), map[int64]int64{1: 0, 2: impl.ErrStitches, 8: impl.ErrStitches}},
		{chart(t, 3, "> 1 kd"), map[int64]int64{1: 0, 2: impl.ErrStitches, 8: impl.ErrStitches}},
		{chart(t, 1, "> 1 ok", k+"k", k+"k", k+"k", k+"k"), map[int64]int64{1: 0, 2: impl.ErrStitches}},
		{chart(t, 1, "> 1 ok", "< 1 d"), map[int64]int64{1: 0, 2: 0, 4: 0, 5: impl.ErrFull}},
		{chart(t, 1, "> 1 t"), map[int64]int64{1: 0, 3: 0, 4: impl.ErrFull, 8: impl.ErrFull}},
		{chart(t, 8, "> 1 ttkkkkkk"), map[int64]int64{1: 0, 2: 0, 3: impl.ErrFull}},
		{chart(t, 8, "> 1 ttttkkkk"), map[int64]int64{1: 0, 2: impl.ErrFull}},
		{chart(t, 8, "> 1 kkkktttt"), map[int64]int64{1: 0, 2: impl.ErrFull}},
	} {
		for times, code := range c.codes {
			is(t, fmt.Sprint("code of RepeatChart ", c.chart, times), isRepeated(t, c.chart, times), code)
		}
		for _, times := range []int64{math.MinInt64, -8, -1, 0, 9, 16, 1 << 32, 1<<32 + 1, math.MaxInt64} {
			is(t, fmt.Sprint("code of RepeatChart ", c.chart, times), isRepeated(t, c.chart, times), impl.ErrRange)
		}
	}
}

func TestChartsBesideOneAnother(t *testing.T) {
	two := chart(t, 2, "> 1 kk", "< 2 pp")
	for _, c := range []struct {
		a, b impl.Chart
		code int64
	}{
		{two, two, impl.OK}, {two, chart(t, 3, "> 1 kxo", "< 2 dkk"), impl.OK}, {chart(t, 4, "< 1 dkk"), chart(t, 4, "< 1 dkk"), impl.OK}, {chart(t, 4, "> 1 X"), chart(t, 4, "> 1 Y"), impl.OK}, {chart(t, 1, "> 4 k"), chart(t, 7, "> 4 oXdk"), impl.OK},
		{two, chart(t, 2, "> 1 kk"), impl.ErrState}, {chart(t, 2, "> 1 kk"), two, impl.ErrState}, {two, chart(t, 2, "> 1 kk", "< 2 pp", "> 1 kk"), impl.ErrState}, {two, chart(t, 2, "< 1 kk", "< 2 pp"), impl.ErrState}, {two, chart(t, 2, "> 1 kk", "> 2 pp"), impl.ErrState},
		{two, chart(t, 2, "> 2 kk", "< 2 pp"), impl.ErrState}, {two, chart(t, 2, "> 1 kk", "< 1 pp"), impl.ErrState}, {two, chart(t, 2, "< 2 pp", "> 1 kk"), impl.ErrState}, {chart(t, 3, "> 1 kxo"), chart(t, 3, "< 1 oyk"), impl.ErrState}, {chart(t, 8, "> 1 kkkkkkkk"), chart(t, 8, "> 2 kkkkkkkk"), impl.ErrState}, {chart(t, 8, "> 1 kkkkkkkk"), chart(t, 8, "> 1 kkkkkkkk", "> 1 kkkkkkkk"), impl.ErrState},
		{chart(t, 5, "> 1 kkkkk"), chart(t, 4, "> 1 kkkk"), impl.ErrFull}, {chart(t, 4, "> 1 kkkk"), chart(t, 5, "> 1 ddk"), impl.ErrFull}, {chart(t, 8, "> 1 dddd"), chart(t, 1, "> 1 k"), impl.ErrFull}, {chart(t, 8, "> 1 XX"), chart(t, 8, "> 1 XX"), impl.ErrFull}, {chart(t, 8, "> 1 kkkkkkkk"), chart(t, 8, "> 1 kkkkkkkk"), impl.ErrFull},
		{chart(t, 4, "> 1 okkkk"), chart(t, 4, "> 1 kkkk"), impl.ErrFull}, {chart(t, 4, "> 1 okkkk"), chart(t, 4, "> 1 kkd"), impl.OK}, {chart(t, 4, "> 1 kkkk", "> 1 okkkk"), chart(t, 4, "> 1 kkkk", "> 1 kkkk"), impl.ErrFull}, {chart(t, 1, "> 1 ooook"), chart(t, 2, "> 1 ookk"), impl.ErrFull},
		{chart(t, 4, "> 1 tttt"), chart(t, 4, "> 1 kkkk"), impl.OK}, {chart(t, 4, "> 1 tttt"), chart(t, 4, "> 1 kktk"), impl.ErrFull}, {chart(t, 4, "> 1 kktk"), chart(t, 4, "> 1 tttt"), impl.ErrFull}, {chart(t, 4, "< 1 tttt", "< 1 tttt"), chart(t, 1, "< 1 k", "< 1 k"), impl.ErrFull},
		{chart(t, 4, "> 1 tttt", "> 1 kkkk"), chart(t, 4, "> 1 kkkk", "> 1 tttt"), impl.OK}, {chart(t, 4, "> 1 kkkk", "> 1 tttt"), chart(t, 4, "> 1 tttt", "> 1 kkkk"), impl.ErrFull}, {chart(t, 4, "> 1 tttt", "< 1 kkkk"), chart(t, 4, "> 1 kkkk", "< 1 tttt"), impl.ErrFull}, {chart(t, 4, "> 1 kkkk", "< 1 tttt"), chart(t, 4, "> 1 tttt", "< 1 kkkk"), impl.OK},
	} {
		is(t, fmt.Sprint("code of BesideCharts ", c.a, c.b), isBeside(t, c.a, c.b), c.code)
	}
}

// someCharts are many charts that are valid, and some that are not. Many of them have the same numbers of rows and the same yarns.
func someCharts(t *testing.T) []impl.Chart {
	t.Helper()
	list := append(notCharts(t)[:12], manyCharts(t, 64)...)
	for columns := int64(1); columns <= 5; columns++ {
		for rows := 1; rows <= 3; rows++ {
			d := dice(8*columns + int64(rows))
			for range 4 {
				c := d.chart(t, columns, 8)
				for i := range c.Rows {
					c.Rows[i].Carrier = 1
				}
				c.Rows = c.Rows[:rows:rows]
				list = append(list, c)
			}
		}
	}
	return list
}

// P16: charts are stacked, repeated and put beside one another as by hand, and every code comes up.
func TestPairsOfCharts(t *testing.T) {
	stacked, repeated, beside := map[int64]int{}, map[int64]int{}, map[int64]int{}
	charts := someCharts(t)
	for _, a := range charts {
		for _, b := range charts {
			stacked[isStacked(t, a, b)]++
			beside[isBeside(t, a, b)]++
		}
		for times := int64(-1); times <= 9; times++ {
			repeated[isRepeated(t, a, times)]++
		}
	}
	for _, code := range []int64{impl.OK, impl.ErrInvalid, impl.ErrStitches, impl.ErrFull} {
		is(t, fmt.Sprint("enough of ", code), stacked[code] > 10 && repeated[code] > 10, true)
	}
	for _, code := range []int64{impl.OK, impl.ErrInvalid, impl.ErrState, impl.ErrFull} {
		is(t, fmt.Sprint("enough of ", code), beside[code] > 10, true)
	}
	is(t, "enough of ErrRange", repeated[impl.ErrRange] > 10, true)
	is(t, "no other code", result(len(stacked), len(repeated), len(beside)), "[4 5 4]")
}

// P16: stacking is associative, and a chart that is repeated is stacked on itself.
func TestChartsOfSeveralCharts(t *testing.T) {
	for _, c := range someCharts(t) {
		twice, code := impl.RepeatChart(c, 2)
		stacked, stackedCode := impl.StackCharts(c, c)
		is(t, fmt.Sprint("twice ", c), result(twice, code), result(stacked, stackedCode))
		once, onceCode := impl.RepeatChart(c, 1)
		if onceCode == impl.OK {
			is(t, fmt.Sprint("once ", c), once, c)
		}
		fourTimes, code := impl.RepeatChart(c, 4)
		if code == impl.OK {
			is(t, fmt.Sprint("four times ", c), result(impl.StackCharts(twice, twice)), result(fourTimes, impl.OK))
			thrice, _ := impl.StackCharts(twice, c)
			is(t, fmt.Sprint("three times and once ", c), result(impl.StackCharts(thrice, c)), result(fourTimes, impl.OK))
		}
	}
}

// P16: charts that are beside one another change places in the mirror, and those that are stacked do not.
func TestMirrorImagesOfPairs(t *testing.T) {
	mirrored := func(c impl.Chart) impl.Chart {
		m, _ := impl.MirrorChart(c)
		return m
	}
	charts := someCharts(t)
	for _, a := range charts {
		for _, b := range charts {
			if c, code := impl.BesideCharts(a, b); code == impl.OK {
				is(t, fmt.Sprint("mirror image of BesideCharts ", a, b), result(impl.BesideCharts(mirrored(b), mirrored(a))), result(mirrored(c), impl.OK))
			}
			if c, code := impl.StackCharts(a, b); code == impl.OK {
				is(t, fmt.Sprint("mirror image of StackCharts ", a, b), result(impl.StackCharts(mirrored(a), mirrored(b))), result(mirrored(c), impl.OK))
			}
		}
	}
}
