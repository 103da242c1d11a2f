package tests

import (
	"fmt"
	"math"
	"slices"
	"strings"
	"testing"

	"loop.example/g00856/impl"
)

// walked are the crossings of a block of so many strands from a place on, to whose left end each strand of the block behind it walks.
func walked(place, left, right, sign int64) []impl.Event {
	list := []impl.Event{}
	for t := range right {
		for at := place + left + t; at > place+t; at-- {
			list = append(list, cross(at-1, sign))
		}
	}
	return list
}

// crossedByHand returns the crossings of symbols, and the sizes of the columns behind them.
func crossedByHand(text string, sizes []int64) ([]impl.Event, []int64) {
	events, behind := []impl.Event{}, []int64{}
	for _, symbol := range text {
		taken, _ := columnsByHand(string(symbol))
		columns := sizes[:taken]
		sizes = sizes[taken:]
		if sign := map[rune]int64{'x': 1, 'X': 1, 'y': -1, 'Y': -1, 'e': -1}[symbol]; sign != 0 {
			left, right := columns[:taken/2], columns[taken/2:]
			events = append(events, walked(total(behind), total(left), total(right), sign)...)
			columns = slices.Concat(right, left)
		}
		behind = append(behind, columns...)
	}
	return events, behind
}

// knitter holds the sizes of the columns on both sides of the yarn.
type knitter struct {
	left, right []int64
	row         impl.Row
	events      []impl.Event
	most        int64
}

// take takes the next column off the side to which the yarn goes.
func (k *knitter) take() int64 {
	if k.row.Dir > 0 {
		n := k.right[0]
		k.right = k.right[1:]
		return n
	}
	n := k.left[len(k.left)-1]
	k.left = k.left[:len(k.left)-1]
	return n
}

// give puts a column where the yarn comes from.
func (k *knitter) give(size int64) {
	if k.row.Dir > 0 {
		k.left = append(k.left, size)
	} else {
		k.right = append([]int64{size}, k.right...)
	}
	k.most = max(k.most, total(k.left)+total(k.right))
}

// event makes an event so many strands behind the columns on the left.
func (k *knitter) event(kind, behind, count, bed int64) {
	k.events = append(k.events, impl.Event{Kind: kind, Place: total(k.left) + behind, Count: count, Bed: bed, Carrier: k.row.Carrier, Dir: k.row.Dir})
}

func (k *knitter) knit(columns int, bed int64) {
	count := int64(0)
	for range columns {
		count += k.take()
	}
	k.event(impl.EvKnit, 0, count, bed)
	k.give(1)
}

func (k *knitter) stitch(symbol byte) {
	switch symbol {
	case 'p':
		k.knit(1, impl.BdBack)
	case 'd', 'e':
		k.knit(2, impl.BdFront)
	case 'o':
		k.event(impl.EvTuck, 0, 0, impl.BdFront)
		k.give(1)
	case 't':
		n := k.take()
		k.event(impl.EvTuck, n, 0, impl.BdFront)
		k.give(n + 1)
	case 's':
		k.give(k.take())
	default:
		for range map[byte]int{'k': 1, 'x': 2, 'y': 2, 'X': 4, 'Y': 4}[symbol] {
			k.knit(1, impl.BdFront)
		}
	}
}

func areSizesByHand(sizes []int64) bool {
	isNone := func(n int64) bool { return n < 1 || n > 4 }
	return len(sizes) >= 1 && len(sizes) <= 8 && !slices.ContainsFunc(sizes, isNone) && total(sizes) <= 12
}

// handRowByHand knits a row with the yarn between the columns that are done and those that are left.
func handRowByHand(r impl.Row, sizes []int64) ([]impl.Event, []int64, int64) {
	if !isRowByHand(r) || !areSizesByHand(sizes) {
		return nil, nil, impl.ErrInvalid
	}
	text := symbolsOf(r.Stitches)
	if _, code := stacksByHand(sizes, text); code != impl.OK {
		return nil, nil, code
	}
	crossings, columns := crossedByHand(text, sizes)
	k := knitter{right: columns, row: r, events: crossings}
	if r.Dir < 0 {
		k.left, k.right = columns, nil
		text = reversedText(text)
	}
	for i := range len(text) {
		k.stitch(text[i])
	}
	if k.most > 12 {
		return nil, nil, impl.ErrFull
	}
	return k.events, slices.Concat(k.left, k.right), impl.OK
}

func reversedText(text string) string {
	bytes := []byte(text)
	slices.Reverse(bytes)
	return string(bytes)
}

// isHandRow compares a row with that by hand, and checks that its events are valid and make columns of the stacks that the stitches make.
func isHandRow(t *testing.T, r impl.Row, sizes []int64) int64 {
	t.Helper()
	events, after, code := impl.HandRow(r, sizes)
	want, wantAfter, wantCode := handRowByHand(r, sizes)
	if code != wantCode || !slices.Equal(events, want) || !slices.Equal(after, wantAfter) {
		t.Errorf("HandRow %v %v: got %v %v %d, want %v %v %d", r, sizes, events, after, code, want, wantAfter, wantCode)
	}
	if code != impl.OK {
		return code
	}
	stacks, _ := impl.StacksAfter(sizes, r.Stitches)
	if all := append(tucks(total(sizes)), events...); !slices.Equal(after, stacks) || fmt.Sprint(strandsByHand(all)) != fmt.Sprint(result(total(after), 0)) {
		t.Errorf("HandRow %v %v: the sizes are %v, the stacks %v, and %v the strands", r, sizes, after, stacks, strandsByHand(all))
	}
	return code
}

// knitsByHand compares a row with a text of its events, each without the carrier and the direction.
func knitsByHand(t *testing.T, text string, sizes []int64, want string, after ...int64) {
	t.Helper()
	r := row(t, text)
	isHandRow(t, r, sizes)
	events, list, code := impl.HandRow(r, sizes)
	parts := []string{}
	for _, e := range events {
		switch e.Kind {
		case impl.EvCross:
			parts = append(parts, fmt.Sprintf("%+d", e.Count*(e.Place+1)))
			is(t, "yarn of a crossing", result(e.Bed, e.Carrier, e.Dir), "[0 0 0]")
			continue
		case impl.EvTuck:
			parts = append(parts, fmt.Sprintf("t%d", e.Place))
			is(t, "a tuck", result(e.Count, e.Bed), "[0 1]")
		default:
			parts = append(parts, fmt.Sprintf("%c%d:%d", "-kp"[e.Bed], e.Place, e.Count))
			is(t, "a knit", e.Kind, impl.EvKnit)
		}
		is(t, "yarn of a stitch", result(e.Carrier, e.Dir), result(r.Carrier, r.Dir))
	}
	is(t, fmt.Sprint("HandRow ", text, sizes), result(strings.Join(parts, " "), list, code), result(want, after, impl.OK))
}

func sizes(list ...int64) []int64 { return list }

func TestExamplesOfHandKnitting(t *testing.T) {
	is(t, "column", result(impl.ColumnAt(sizes(1, 3, 1), 3)), "[1 true]")
	is(t, "first strand", result(impl.FirstOf(sizes(1, 3, 1), 1)), "[1 true]")
	list, code := impl.HandKnit(chart(t, 2, "< 1 xo"))
	knit := func(place, count, dir int64) impl.Event {
		return impl.Event{Kind: impl.EvKnit, Place: place, Count: count, Bed: impl.BdFront, Carrier: 1, Dir: dir}
	}
	tuck := impl.Event{Kind: impl.EvTuck, Place: 2, Bed: impl.BdFront, Carrier: 1, Dir: impl.DrLeft}
	is(t, "chart", result(list, code), result([]impl.Event{knit(0, 0, 1), knit(1, 0, 1), cross(0, 1), tuck, knit(1, 1, -1), knit(0, 1, -1)}, impl.OK))
}

// someStrands are strands or columns of which most are none.
func someStrands(count int64) []int64 {
	list := []int64{math.MinInt64, math.MinInt64 + 1, -13, -1, math.MaxInt64 - 1, math.MaxInt64, 1 << 32, 1<<32 + 1}
	for n := range count + 4 {
		list = append(list, n)
	}
	return list
}

// areSizes checks the strands of columns whose sizes are valid, or that there are none.
func areSizes(t *testing.T, list []int64, valid bool) {
	t.Helper()
	if impl.ValidSizes(list) != valid {
		t.Errorf("ValidSizes %v: got %t", list, !valid)
	}
	owners, strands, columns := []int64{}, int64(3), int64(8)
	if valid {
		owners, strands, columns = ownersOf(list), total(list), int64(len(list))
	}
	for _, strand := range someStrands(strands) {
		column, ok := impl.ColumnAt(list, strand)
		if isStrand := strand >= 0 && strand < int64(len(owners)); ok != isStrand || ok && column != owners[strand] || !ok && column != 0 {
			t.Errorf("ColumnAt %v %d: got %d %t", list, strand, column, ok)
		}
	}
	for _, column := range someStrands(columns) {
		strand, ok := impl.FirstOf(list, column)
		isColumn := valid && column >= 0 && column < columns
		if want := int64(slices.Index(owners, column)); ok != isColumn || ok && strand != want || !ok && strand != 0 {
			t.Errorf("FirstOf %v %d: got %d %t", list, column, strand, ok)
		}
	}
}

// All sizes of at most MaxColumns columns, of which many are too many strands.
func TestSizes(t *testing.T) {
	valid := 0
	for list := range listsOver(sizes(1, 2, 3, 4), 6) {
		areSizes(t, list, areSizesByHand(list))
	}
	for list := range listsOver(sizes(1, 2, 3, 4), 8) {
		if len(list) >= 7 && total(list) <= 13 {
			areSizes(t, list, areSizesByHand(list))
			valid++
		}
	}
	is(t, "enough sizes", valid > 1000, true)
}

func TestLimitsOfSizes(t *testing.T) {
	for _, list := range [][]int64{{1}, {4}, copiesOf(1, 8), {4, 4, 4}, {2, 2, 2, 2, 2, 2}, {1, 1, 1, 1, 1, 1, 2, 4}, {4, 1, 1, 1, 1, 1, 1, 2}} {
		areSizes(t, list, true)
	}
	for _, list := range append(notStacks(), nil, []int64{}, copiesOf(1, 9), sizes(4, 4, 4, 1), sizes(1, 4, 4, 4), copiesOf(2, 7), sizes(1, 1, 1, 1, 1, 1, 3, 4), copiesOf(4, 8), copiesOf(3, 5), sizes(math.MaxInt64, math.MaxInt64, 3), sizes(math.MinInt64, math.MinInt64, 1), sizes(0), sizes(5), sizes(13), sizes(-1, 2), sizes(1, 0, 1)) {
		areSizes(t, list, false)
	}
}

func TestYarnOrder(t *testing.T) {
	for n := range 17 {
		for _, kind := range []int64{impl.StKnit, impl.StOver, impl.StUnder2} {
			list := copiesOf(kind, n)
			is(t, "to the right", impl.YarnOrder(impl.Row{Dir: 1, Carrier: 4, Stitches: list}), rising(n))
			is(t, "to the left", impl.YarnOrder(impl.Row{Dir: -1, Carrier: 1, Stitches: list}), falling(n))
		}
	}
	is(t, "all kinds", result(impl.YarnOrder(row(t, "> 2 kpodetsxyXY")), impl.YarnOrder(row(t, "< 2 kpodetsxyXY"))), result(rising(11), falling(11)))
	for _, r := range append(notRows(t), impl.Row{}) {
		is(t, fmt.Sprint("YarnOrder ", r), impl.YarnOrder(r) == nil, true)
	}
}

func TestHandCastOn(t *testing.T) {
	numbers := []int64{math.MinInt64, math.MinInt64 + 1, -8, -2, -1, 0, 9, 10, 16, 1 << 32, 1<<32 + 1, math.MaxInt64 - 1, math.MaxInt64}
	for n := int64(1); n <= 8; n++ {
		numbers = append(numbers, n)
	}
	for _, columns := range numbers {
		for _, carrier := range numbers {
			want, code := []impl.Event{}, impl.ErrRange
			if columns >= 1 && columns <= 8 && carrier >= 1 && carrier <= 4 {
				code = impl.OK
				for place := range columns {
					want = append(want, impl.Event{Kind: 2, Place: place, Count: 0, Bed: 1, Carrier: carrier, Dir: 1})
				}
			}
			list, got := impl.HandCastOn(columns, carrier)
			is(t, fmt.Sprint("HandCastOn ", columns, carrier), result(list, got), result(want, code))
			if code == impl.OK {
				areEvents(t, list, int(columns))
			}
		}
	}
}

func TestHandRowsOfOneStitch(t *testing.T) {
	for _, dir := range []string{">", "<"} {
		for n := int64(1); n <= 4; n++ {
			knitsByHand(t, dir+" 1 k", sizes(n), fmt.Sprintf("k0:%d", n), 1)
			knitsByHand(t, dir+" 2 p", sizes(n), fmt.Sprintf("p0:%d", n), 1)
			knitsByHand(t, dir+" 3 s", sizes(n), "", n)
		}
		for n := int64(1); n <= 3; n++ {
			knitsByHand(t, dir+" 4 t", sizes(n), fmt.Sprintf("t%d", n), n+1)
		}
		knitsByHand(t, dir+" 1 d", sizes(1, 3), "k0:4", 1)
		knitsByHand(t, dir+" 1 d", sizes(3, 1), "k0:4", 1)
		knitsByHand(t, dir+" 1 e", sizes(1, 1), "-1 k0:2", 1)
		knitsByHand(t, dir+" 1 e", sizes(1, 3), "-1 -2 -3 k0:4", 1)
		knitsByHand(t, dir+" 1 e", sizes(3, 1), "-3 -2 -1 k0:4", 1)
		knitsByHand(t, dir+" 1 e", sizes(2, 2), "-2 -1 -3 -2 k0:4", 1)
	}
}

// The crossings go from left to right in both directions, and the columns of a stitch are made in the direction of the yarn.
func TestHandRowsWithCrossings(t *testing.T) {
	knitsByHand(t, "> 1 x", sizes(1, 1), "+1 k0:1 k1:1", 1, 1)
	knitsByHand(t, "< 1 x", sizes(1, 1), "+1 k1:1 k0:1", 1, 1)
	knitsByHand(t, "> 1 y", sizes(3, 2), "-3 -2 -1 -4 -3 -2 k0:2 k1:3", 1, 1)
	knitsByHand(t, "< 1 y", sizes(3, 2), "-3 -2 -1 -4 -3 -2 k2:3 k0:2", 1, 1)
	knitsByHand(t, "> 1 X", sizes(1, 1, 1, 1), "+2 +1 +3 +2 k0:1 k1:1 k2:1 k3:1", 1, 1, 1, 1)
	knitsByHand(t, "< 1 X", sizes(1, 1, 1, 1), "+2 +1 +3 +2 k3:1 k2:1 k1:1 k0:1", 1, 1, 1, 1)
	knitsByHand(t, "> 1 Y", sizes(1, 2, 3, 1), "-3 -2 -1 -4 -3 -2 -5 -4 -3 -6 -5 -4 k0:3 k1:1 k2:1 k3:2", 1, 1, 1, 1)
	knitsByHand(t, "< 1 Y", sizes(1, 2, 3, 1), "-3 -2 -1 -4 -3 -2 -5 -4 -3 -6 -5 -4 k5:2 k4:1 k3:1 k0:3", 1, 1, 1, 1)
	knitsByHand(t, "> 1 xy", sizes(2, 1, 1, 1), "+2 +1 -4 k0:1 k1:2 k2:1 k3:1", 1, 1, 1, 1)
	knitsByHand(t, "< 1 xy", sizes(2, 1, 1, 1), "+2 +1 -4 k4:1 k3:1 k1:2 k0:1", 1, 1, 1, 1)
	knitsByHand(t, "> 1 oex", sizes(1, 2, 1, 1), "-1 -2 +4 t0 k1:3 k2:1 k3:1", 1, 1, 1, 1)
	knitsByHand(t, "< 1 oex", sizes(1, 2, 1, 1), "-1 -2 +4 k4:1 k3:1 k0:3 t0", 1, 1, 1, 1)
	knitsByHand(t, "> 1 XY", copiesOf(1, 8), "+2 +1 +3 +2 -6 -5 -7 -6 k0:1 k1:1 k2:1 k3:1 k4:1 k5:1 k6:1 k7:1", copiesOf(1, 8)...)
}

// Stitches that make or join columns change the places of those behind them only for the stitches that come later.
func TestOrderOfTheYarn(t *testing.T) {
	knitsByHand(t, "> 1 ok", sizes(2), "t0 k1:2", 1, 1)
	knitsByHand(t, "< 1 ok", sizes(2), "k0:2 t0", 1, 1)
	knitsByHand(t, "> 1 ko", sizes(2), "k0:2 t1", 1, 1)
	knitsByHand(t, "< 1 ko", sizes(2), "t2 k0:2", 1, 1)
	knitsByHand(t, "> 1 dk", sizes(1, 2, 3), "k0:3 k1:3", 1, 1)
	knitsByHand(t, "< 1 dk", sizes(1, 2, 3), "k3:3 k0:3", 1, 1)
	knitsByHand(t, "> 1 kdot", sizes(1, 1, 1, 2), "k0:1 k1:2 t2 t5", 1, 1, 1, 3)
	knitsByHand(t, "< 1 kdot", sizes(1, 1, 1, 2), "t5 t3 k1:2 k0:1", 1, 1, 1, 3)
	knitsByHand(t, "> 1 tst", sizes(3, 2, 1), "t3 t7", 4, 2, 2)
	knitsByHand(t, "< 1 tst", sizes(3, 2, 1), "t6 t3", 4, 2, 2)
	knitsByHand(t, "> 1 ooko", sizes(4), "t0 t1 k2:4 t3", 1, 1, 1, 1)
	knitsByHand(t, "< 1 ooko", sizes(4), "t4 k0:4 t0 t0", 1, 1, 1, 1)
	knitsByHand(t, "> 3 sps", sizes(2, 3, 2), "p2:3", 2, 1, 2)
	knitsByHand(t, "< 3 sps", sizes(2, 3, 2), "p2:3", 2, 1, 2)
	knitsByHand(t, "> 1 odd", sizes(1, 2, 3, 1), "t0 k1:3 k2:4", 1, 1, 1)
	knitsByHand(t, "< 1 odd", sizes(1, 2, 3, 1), "k3:4 k0:3 t0", 1, 1, 1)
}

// Each stitch as the first one, as the last one and between others, of columns of many sizes, to both sides.
func TestEachStitchBetweenOthers(t *testing.T) {
	codes := map[int64]int{}
	for _, symbol := range symbolsByHand {
		for _, text := range []string{"", "k", "o", "d", "e", "t", "s", "x", "Y"} {
			for _, texts := range []string{text + string(symbol), string(symbol) + text, text + string(symbol) + "t", "s" + string(symbol) + text} {
				taken, _ := columnsByHand(texts)
				for _, list := range manyStacks(taken) {
					for _, dir := range []int64{1, -1} {
						codes[isHandRow(t, impl.Row{Dir: dir, Carrier: 1 + total(list)%4, Stitches: kindsIn(t, texts)}, list)]++
					}
				}
			}
		}
	}
	is(t, "codes", result(codes[impl.OK] > 1000, codes[impl.ErrFull] > 1000, codes[impl.ErrInvalid] > 1000, len(codes)), "[true true true 3]")
}

// sizes throws sizes of so many columns, often as many strands as there may be.
func (d *dice) sizes(columns int64) []int64 {
	list := copiesOf(1, int(columns))
	for range 3 * columns {
		if at := d.below(columns); list[at] < 4 && total(list) < 12 {
			list[at]++
		}
	}
	return list
}

// P18: all rows of at most three stitches, and many longer ones.
func TestManyHandRows(t *testing.T) {
	codes := map[int64]int{}
	d := dice(1)
	for _, text := range someStitches() {
		for range 4 {
			taken, _ := columnsByHand(text)
			list := d.sizes(1 + d.below(8))
			if taken >= 1 && taken <= 8 && d.below(8) > 0 {
				list = d.sizes(int64(taken))
			}
			for _, dir := range []int64{1, -1} {
				codes[isHandRow(t, impl.Row{Dir: dir, Carrier: 1 + d.below(4), Stitches: kindsIn(t, text)}, list)]++
			}
		}
	}
	for seed := range 4000 {
		d := dice(seed)
		columns := 1 + d.below(8)
		codes[isHandRow(t, impl.Row{Dir: d.dir(), Carrier: 1 + d.below(4), Stitches: kindsIn(t, d.rowText(int(columns)))}, d.sizes(columns))]++
	}
	is(t, "codes", result(codes[impl.OK] > 1000, codes[impl.ErrFull] > 1000, codes[impl.ErrStitches] > 1000, len(codes)), "[true true true 3]")
}

// P18: each stitch takes all strands of its columns, and no other ones.
func TestStitchesTakeWholeColumns(t *testing.T) {
	for seed := range 1000 {
		d := dice(seed)
		columns := 1 + d.below(8)
		list := d.sizes(columns)
		r := impl.Row{Dir: d.dir(), Carrier: 1, Stitches: kindsIn(t, d.rowText(int(columns)))}
		events, _, code := impl.HandRow(r, list)
		if code != impl.OK {
			continue
		}
		strands, owners, knitted := rising(int(total(list))), ownersOf(list), map[int64]int64{}
		for _, e := range events {
			after, taken := playedByHand(strands, e, -1)
			strands = after
			for _, strand := range taken {
				knitted[owners[strand]]++
			}
			for _, strand := range taken {
				is(t, fmt.Sprint("whole columns of ", r, list), knitted[owners[strand]], list[owners[strand]])
			}
		}
	}
}

// fails checks a code of HandRow, and that of the row by hand.
func fails(t *testing.T, text string, list []int64, code int64) {
	t.Helper()
	is(t, fmt.Sprint("code of HandRow ", text, list), isHandRow(t, row(t, text), list), code)
}

func TestErrorsOfHandRow(t *testing.T) {
	for _, r := range append(notRows(t), impl.Row{}) {
		for _, list := range [][]int64{nil, {1}, copiesOf(1, 8), copiesOf(1, 9), {4, 4, 4, 4}, {0}} {
			is(t, fmt.Sprint("HandRow ", r, list), result(impl.HandRow(r, list)), "[[] [] 1]")
		}
	}
	for _, list := range append(notStacks(), nil, []int64{}, sizes(4, 4, 4, 1), copiesOf(2, 7), copiesOf(4, 8)) {
		for _, text := range []string{"", "k", "o", "kk", "tttt", "tttttttt", "ooooooooo", "dddd", "kkkkkkkk", "kkkkkkkkk", "ssss"} {
			is(t, fmt.Sprint("HandRow ", text, list), result(impl.HandRow(impl.Row{Dir: 1, Carrier: 1, Stitches: kindsIn(t, text)}, list)), "[[] [] 1]")
		}
	}
	for _, dir := range []string{"> 1 ", "< 1 "} {
		for _, text := range []string{"", "o", "oo", "kk", "kkk", "x", "d", "kko", "X", strings.Repeat("o", 16)} {
			fails(t, dir+text, sizes(1), impl.ErrStitches)
		}
		for _, text := range []string{"k", "t", "ttt", "ddd", "ooooooooo", strings.Repeat("k", 16), "ooooooooot"} {
			// The limits are exceeded as well.
			fails(t, dir+text, sizes(4, 4), impl.ErrStitches)
		}
		for _, text := range []string{"t", "ko", "ooooooook"} {
			fails(t, dir+text, sizes(4, 4, 4), impl.ErrStitches)
		}
		fails(t, dir+"t", sizes(4), impl.ErrFull)
		fails(t, dir+"kt", sizes(1, 4), impl.ErrFull)
		fails(t, dir+"d", sizes(2, 3), impl.ErrFull)
		fails(t, dir+"e", sizes(4, 1), impl.ErrFull)
		fails(t, dir+"ksds", sizes(1, 1, 3, 2, 1), impl.ErrFull)
		fails(t, dir+"kkkkkkkko", copiesOf(1, 8), impl.ErrFull)
		fails(t, dir+"ooooooook", sizes(1), impl.ErrFull)
		fails(t, dir+"oooooook", sizes(1), impl.OK)
		fails(t, dir+"sssst", sizes(3, 2, 2, 2, 3), impl.ErrFull)
		fails(t, dir+"ssssso", sizes(3, 3, 3, 3), impl.ErrStitches)
		fails(t, dir+"sssso", sizes(3, 3, 3, 3), impl.ErrFull)
		fails(t, dir+"sssso", sizes(3, 3, 3, 2), impl.OK)
		fails(t, dir+"ssst", sizes(3, 3, 3, 2), impl.OK)
		fails(t, dir+"ssst", sizes(3, 3, 3, 3), impl.ErrFull)
	}
}

// A stitch that makes a strand comes ahead of those that leave fewer if the yarn comes from one side, and behind them if it comes from the other one.
func TestHandRowsThatAreFullAtATime(t *testing.T) {
	for _, c := range []struct {
		text        string
		list        []int64
		right, left int64
	}{
		{"osssd", sizes(4, 3, 2, 2, 1), impl.ErrFull, impl.OK}, {"dssso", sizes(2, 1, 4, 3, 2), impl.OK, impl.ErrFull}, {"tsssk", sizes(3, 2, 2, 3, 2), impl.ErrFull, impl.OK}, {"kssst", sizes(2, 2, 2, 3, 3), impl.OK, impl.ErrFull},
		{"okss", sizes(4, 4, 4), impl.ErrFull, impl.OK}, {"xsso", sizes(2, 4, 4, 2), impl.OK, impl.ErrFull}, {"ossy", sizes(4, 4, 2, 2), impl.ErrFull, impl.OK}, {"sosk", sizes(4, 4, 4), impl.ErrFull, impl.OK}, {"ksos", sizes(4, 4, 4), impl.OK, impl.ErrFull},
		{"Xto", sizes(2, 2, 2, 3, 3), impl.OK, impl.ErrFull}, {"tsssss", copiesOf(2, 6), impl.ErrFull, impl.ErrFull}, {"ktk", sizes(4, 3, 4), impl.OK, impl.OK}, {"ksotk", sizes(4, 1, 3, 4), impl.OK, impl.OK}, {"ooooks", sizes(4, 4), impl.OK, impl.OK}, {"ooookss", sizes(4, 4, 3), impl.ErrFull, impl.OK}, {"oooookss", sizes(4, 4, 3), impl.ErrFull, impl.ErrFull},
		{"odo", sizes(1, 3), impl.OK, impl.OK}, {"osssk", sizes(4, 4, 3, 1), impl.ErrFull, impl.ErrFull}, {"ossske", sizes(4, 2, 2, 1, 1, 2), impl.ErrFull, impl.OK},
	} {
		fails(t, "> 2 "+c.text, c.list, c.right)
		fails(t, "< 2 "+c.text, c.list, c.left)
	}
}

// handKnitByHand knits the rows of a valid chart, one after the other.
func handKnitByHand(c impl.Chart) []impl.Event {
	events, list := []impl.Event{}, copiesOf(1, int(c.Columns))
	for place := range c.Columns {
		events = append(events, impl.Event{Kind: 2, Place: place, Bed: 1, Carrier: c.Rows[0].Carrier, Dir: 1})
	}
	for _, r := range c.Rows {
		row, after, _ := handRowByHand(r, list)
		events, list = append(events, row...), after
	}
	return events
}

// isHandKnitted checks the events of a valid chart.
func isHandKnitted(t *testing.T, c impl.Chart) {
	t.Helper()
	list, code := impl.HandKnit(c)
	is(t, fmt.Sprint("HandKnit ", c), result(list, code), result(handKnitByHand(c), impl.OK))
	stacks, _ := chartByHand(c)
	areEvents(t, list, int(total(stacks[len(stacks)-1])))
}

// P18: many charts leave as many strands as the sizes of their columns say.
func TestManyHandKnittedCharts(t *testing.T) {
	for _, c := range manyCharts(t, 640) {
		isHandKnitted(t, c)
	}
}

func TestHandKnittedCharts(t *testing.T) {
	for _, c := range []impl.Chart{
		chart(t, 1, "> 1 k"), chart(t, 8, "< 4 kkkkkkkk"), chart(t, 2, "> 3 xo", "> 2 kxo", "> 1 dd"), chart(t, 2, "< 3 xo", "< 2 kxo", "< 1 dd"), chart(t, 3, "> 1 ttt", "< 2 eok", "> 1 kyo"), chart(t, 8, "> 1 ttttkkkk", "< 2 tkkkkkkk"),
		chart(t, 1, "> 1 t", "> 1 t", "> 1 t", "> 1 ok", "< 2 y", "< 2 ooxoo", "< 2 Xd", "> 4 Xk"), chart(t, 8, "> 1 XY", "> 2 YX", "< 3 XX", "< 4 YY", "> 1 xyxy", "> 1 yyyy", "> 1 kXkkk", "> 1 kkYkk"),
	} {
		isHandKnitted(t, c)
	}
	for _, c := range notCharts(t) {
		is(t, fmt.Sprint("HandKnit ", c), result(impl.HandKnit(c)), "[[] 1]")
	}
}

func TestEventCounts(t *testing.T) {
	is(t, "no events", result(result(impl.EventCounts(nil)), result(impl.EventCounts([]impl.Event{}))), "[[[0 0 0 0 0] 0] [[0 0 0 0 0] 0]]")
	is(t, "all kinds", result(impl.EventCounts([]impl.Event{tuck(0), tuck(1), tuck(2), cross(0, 1), cross(1, -1), cross(0, 1), cross(0, 1), knit(0, 2), split(1, 0, 1), split(2, 2, 1), split(2, 3, 2), split(1, 0, 1), split(1, 0, 1), drop(0, 1), drop(0, 2)})), "[[4 1 3 2 5] 0]")
	for _, n := range []int{1, 1999, 2000} {
		is(t, "as many as allowed", result(impl.EventCounts(append(slices.Repeat([]impl.Event{knit(0, 0), knit(0, 1), drop(0, 1)}, n)[:n-n%3], slices.Repeat([]impl.Event{tuck(0)}, n%3)...))), result([]int{0, n / 3 * 2, n % 3, n / 3, 0}, impl.OK))
	}
	for kind := int64(1); kind <= 5; kind++ {
		events := tucks(4)
		for _, e := range eventsFor(4) {
			if e.Kind == kind {
				counts := []int64{0, 0, 4, 0, 0}
				counts[kind-1]++
				is(t, fmt.Sprint("EventCounts with ", e), result(impl.EventCounts(append(events, e))), result(counts, impl.OK))
			}
		}
	}
	for _, list := range append(notEventLists(), slices.Repeat([]impl.Event{knit(0, 0), drop(0, 1)}, 1001)[:2001], tucks(13), []impl.Event{{}}, []impl.Event{cross(0, 1)}, []impl.Event{tuck(0), {Kind: 6}}) {
		is(t, "no events", result(impl.EventCounts(list)), "[[] 1]")
	}
	for seed := range 60 {
		d := dice(seed)
		list := d.fabricEvents(seed % 6)
		counts := make([]int, 5)
		for _, e := range list {
			counts[e.Kind-1]++
		}
		is(t, "EventCounts of many events", result(impl.EventCounts(list)), result(counts, impl.OK))
	}
}

// Neither of the results shares memory with the other one, with the sizes or with the stitches.
func TestHandRowsShareNoMemory(t *testing.T) {
	memory := []int64{1, 2, 1, 2, 1}
	r := impl.Row{Dir: 1, Carrier: 1, Stitches: memory[:3]}
	for range 2 {
		events, after, code := impl.HandRow(r, memory[1:4])
		is(t, "one piece of memory", result(len(events), after, code, memory), "[3 [1 1 1] 0 [1 2 1 2 1]]")
		scribble(result(events, after))
	}
	slips := impl.Row{Dir: 1, Carrier: 1, Stitches: copiesOf(impl.StSlip, 3)}
	list := withSpare(sizes(2, 1, 3))
	_, after, _ := impl.HandRow(slips, list)
	scribble(result(after))
	is(t, "untouched", isUntouched(list, sizes(2, 1, 3)), true)
}
