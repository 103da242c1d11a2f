package tests

import (
	"fmt"
	"math"
	"slices"
	"testing"

	"loop.example/g00856/impl"
)

// extremes are numbers that are never needles, and whose differences may be no int64.
func extremes() []int64 {
	return sizes(math.MinInt64, math.MinInt64+1, -1<<62, -1<<32, -25, -24, 25, 26, 1<<32, 1<<32+1, 1<<62, math.MaxInt64-1, math.MaxInt64)
}

// crossedTwo are the operations in the table for two columns.
func crossedTwo(t *testing.T, left int64, front bool) []impl.Op {
	t.Helper()
	if front {
		return moveOpsByHand(t, move(left+2, left-1), move(left, left+2), move(left-1, left))
	}
	return moveOpsByHand(t, move(left, left+3), move(left+2, left), move(left+3, left+2))
}

// crossedMany are the operations in the table, one letter after the other.
func crossedMany(t *testing.T, first int64, letters []int64) []impl.Op {
	t.Helper()
	ops := []impl.Op{}
	for _, letter := range letters {
		ops = append(ops, crossedTwo(t, first+2*(numberOf(letter)-1), letter > 0)...)
	}
	return ops
}

// crossOpsOf are the operations of a braid that has room.
func crossOpsOf(t *testing.T, first int64, b impl.Braid) []impl.Op {
	t.Helper()
	ops, code := impl.CrossOps(first, b)
	is(t, fmt.Sprint("code of CrossOps ", first, b), code, impl.OK)
	return ops
}

// everySecond are the needles of so many columns.
func everySecond(first int64, columns int) []int64 {
	list := []int64{}
	for i := range columns {
		list = append(list, first+2*int64(i))
	}
	return list
}

// eventsWhile executes operations that must not fail, and returns all of their events.
func eventsWhile(t *testing.T, m impl.Machine, ops []impl.Op) (impl.Machine, []impl.Event) {
	t.Helper()
	events := []impl.Event{}
	for _, o := range ops {
		list, code := impl.OpEvents(m, o)
		is(t, fmt.Sprint("code of ", o), code, impl.OK)
		events, m = append(events, list...), stepOf(t, m, o)
	}
	return m, events
}

func isRacked(t *testing.T, from, to int64) int64 {
	t.Helper()
	want, code := []impl.Op{}, int64(impl.OK)
	switch {
	case isNoNeedle(from) || isNoNeedle(to):
		code = impl.ErrInvalid
	case from-to > 3 || to-from > 3:
		code = impl.ErrRack
	default:
		want = moveOpsByHand(t, move(from, to))
	}
	ops, got := impl.RackOps(from, to)
	if got != code || !slices.Equal(ops, want) {
		t.Errorf("RackOps %d %d: got %v %d, want %v %d", from, to, ops, got, want, code)
	}
	return code
}

func TestRackOps(t *testing.T) {
	ops, code := impl.RackOps(5, 2)
	is(t, "to the left", result(ops, code), result([]impl.Op{xferOp(onFront(5), onBack(5)), rackOp(-3), xferOp(onBack(5), onFront(2)), rackOp(0)}, impl.OK))
	ops, code = impl.RackOps(7, 7)
	is(t, "equal needles", result(ops, code), result([]impl.Op{xferOp(onFront(7), onBack(7)), rackOp(0), xferOp(onBack(7), onFront(7)), rackOp(0)}, impl.OK))
	for _, c := range []struct{ from, to, code int64 }{
		{0, 0, impl.OK}, {23, 23, impl.OK}, {0, 1, impl.OK}, {1, 0, impl.OK}, {0, 3, impl.OK}, {3, 0, impl.OK}, {20, 23, impl.OK}, {23, 20, impl.OK}, {22, 23, impl.OK}, {23, 22, impl.OK}, {9, 12, impl.OK}, {12, 9, impl.OK},
		{0, 4, impl.ErrRack}, {4, 0, impl.ErrRack}, {19, 23, impl.ErrRack}, {23, 19, impl.ErrRack}, {9, 13, impl.ErrRack}, {13, 9, impl.ErrRack}, {0, 23, impl.ErrRack}, {23, 0, impl.ErrRack},
		{-1, 0, impl.ErrInvalid}, {0, -1, impl.ErrInvalid}, {-1, -1, impl.ErrInvalid}, {24, 23, impl.ErrInvalid}, {23, 24, impl.ErrInvalid}, {24, 24, impl.ErrInvalid}, {-1, 2, impl.ErrInvalid}, {21, 24, impl.ErrInvalid},
		{-1, 3, impl.ErrInvalid}, {3, -1, impl.ErrInvalid}, {24, 20, impl.ErrInvalid}, {20, 24, impl.ErrInvalid}, {-1, 24, impl.ErrInvalid}, {24, -1, impl.ErrInvalid}, {24, 0, impl.ErrInvalid}, {0, 24, impl.ErrInvalid}, {-1, 23, impl.ErrInvalid}, {23, -1, impl.ErrInvalid},
	} {
		is(t, fmt.Sprint("RackOps ", c), isRacked(t, c.from, c.to), c.code)
	}
	for from := int64(-5); from <= 28; from++ {
		for to := int64(-5); to <= 28; to++ {
			isRacked(t, from, to)
		}
	}
	for _, a := range extremes() {
		for _, b := range append(extremes(), -1, 0, 1, 3, 4, 20, 23, 24) {
			is(t, "no needle", result(isRacked(t, a, b), isRacked(t, b, a)), "[1 1]")
		}
	}
}

// The operations of RackOps bring the loops of a needle to another one, and nothing crosses.
func TestRackOpsAreExecuted(t *testing.T) {
	for from := range int64(24) {
		for to := max(from-3, 0); to <= min(from+3, 23); to++ {
			loops := 1 + (from+to)%4
			ops, _ := impl.RackOps(from, to)
			m, events := eventsWhile(t, machineWithColumns(t, sizes(from), sizes(loops)), ops)
			is(t, fmt.Sprint("racked ", from, to), result(m.Front[to], liveByHand(m), m.Rack, events), result(rising(int(loops)), rising(int(loops)), 0, "[]"))
		}
	}
}

func TestCrossColumns(t *testing.T) {
	ops, code := impl.CrossColumns(3, true)
	is(t, "in front", result(ops, code), result(readOps(t, "xfer f5 b5\nrack -3\nxfer b5 f2\nrack 0\nxfer f3 b3\nrack 2\nxfer b3 f5\nrack 0\nxfer f2 b2\nrack 1\nxfer b2 f3\nrack 0\n"), impl.OK))
	ops, code = impl.CrossColumns(3, false)
	is(t, "behind", result(ops, code), result(readOps(t, "xfer f3 b3\nrack 3\nxfer b3 f6\nrack 0\nxfer f5 b5\nrack -2\nxfer b5 f3\nrack 0\nxfer f6 b6\nrack -1\nxfer b6 f5\nrack 0\n"), impl.OK))
	for _, front := range []bool{true, false} {
		for left := int64(1); left <= 20; left++ {
			ops, code := impl.CrossColumns(left, front)
			is(t, fmt.Sprint("CrossColumns ", left, front), result(ops, code), result(crossedTwo(t, left, front), impl.OK))
			is(t, "as RackOps", code, impl.OK)
		}
		for _, left := range append(extremes(), -1, 0, 21, 22, 23, 24) {
			is(t, fmt.Sprint("CrossColumns ", left, front), result(impl.CrossColumns(left, front)), "[[] 2]")
		}
	}
}

// Two columns of some loops change places between other columns, and cross as blocks.
func areExchanged(t *testing.T, left int64, front bool, loops, others []int64) {
	t.Helper()
	places, stacks := sizes(left, left+2), slices.Clone(loops)
	before := int64(0)
	if left >= 3 {
		places, stacks, before = append(sizes(left-2), places...), append(sizes(others[0]), stacks...), others[0]
	}
	if left <= 19 {
		places, stacks = append(places, left+4), append(stacks, others[1])
	}
	start := machineWithColumns(t, places, stacks)
	ops, code := impl.CrossColumns(left, front)
	is(t, "code of CrossColumns", code, impl.OK)
	m, events := eventsWhile(t, start, ops)
	name, sign := fmt.Sprint("columns ", left, front, places, stacks), int64(-1)
	if front {
		sign = 1
	}
	is(t, "crossings of "+name, events, walked(before, loops[0], loops[1], sign))
	want := copiesOfRows(start.Front)
	want[left], want[left+2] = want[left+2], want[left]
	is(t, "places of "+name, result(m.Front, m.Rack, len(slices.Concat(m.Back...)), m.Carriers), result(want, 0, 0, start.Carriers))
}

func copiesOfRows(rows [][]int64) [][]int64 {
	list := [][]int64{}
	for _, row := range rows {
		list = append(list, slices.Clone(row))
	}
	return list
}

// P23: each place, both values of front, and columns of 1 to MaxStack loops.
func TestCrossedColumnsChangePlaces(t *testing.T) {
	for left := int64(1); left <= 20; left++ {
		for _, front := range []bool{true, false} {
			areExchanged(t, left, front, sizes(1+left%4, 1+left%3), sizes(2, 4))
		}
	}
	for a := int64(1); a <= 4; a++ {
		for b := int64(1); b <= 4; b++ {
			for _, left := range sizes(1, 7, 20) {
				areExchanged(t, left, true, sizes(a, b), sizes(1, 2))
				areExchanged(t, left, false, sizes(a, b), sizes(3, 1))
			}
		}
	}
}

// isCrossed compares the operations of a braid with those of its letters, and returns the code.
func isCrossed(t *testing.T, first int64, b impl.Braid) int64 {
	t.Helper()
	want, code := []impl.Op{}, int64(impl.OK)
	switch {
	case !impl.ValidBraid(b) || b.Strands > 8:
		code = impl.ErrInvalid
	case first < 1 || first > 23 || first+2*(b.Strands-1)+1 > 23:
		code = impl.ErrRange
	default:
		want = crossedMany(t, first, b.Word)
	}
	ops, got := impl.CrossOps(first, b)
	if got != code || !slices.Equal(ops, want) {
		t.Errorf("CrossOps %d %v: got %v %d, want %v %d", first, b, ops, got, want, code)
	}
	return code
}

func TestCrossOps(t *testing.T) {
	is(t, "no letters", result(impl.CrossOps(1, braid(3))), "[[] 0]")
	is(t, "one letter", result(impl.CrossOps(5, braid(3, -2))), result(crossedTwo(t, 7, false), impl.OK))
	is(t, "two letters", result(impl.CrossOps(1, braid(3, 1, -2))), result(slices.Concat(crossedTwo(t, 1, true), crossedTwo(t, 3, false)), impl.OK))
	for strands := range int64(9) {
		last := 23 - 2*strands + 1
		for first := int64(-2); first <= 26; first++ {
			code := int64(impl.OK)
			if first < 1 || first > min(last, 23) {
				code = impl.ErrRange
			}
			for _, b := range append(manyBraids(strands, 6, 6), braid(strands)) {
				is(t, fmt.Sprint("CrossOps ", first, b), isCrossed(t, first, b), code)
			}
			if strands > 1 {
				for _, letter := range sizes(1, -1, strands-1, 1-strands) {
					is(t, fmt.Sprint("CrossOps ", first, strands, letter), isCrossed(t, first, braid(strands, letter)), code)
				}
			}
		}
		for _, first := range extremes() {
			is(t, fmt.Sprint("no needle ", first), isCrossed(t, first, braid(strands)), impl.ErrRange)
		}
	}
	is(t, "MaxWord letters", result(isCrossed(t, 1, repeated(8, -7, 40)), isCrossed(t, 8, repeated(8, 1, 40)), isCrossed(t, 9, repeated(8, 1, 40))), "[0 0 2]")
	for _, c := range []struct{ strands, last int64 }{{0, 23}, {1, 22}, {2, 20}, {3, 18}, {7, 10}, {8, 8}} {
		is(t, fmt.Sprint("room for ", c), result(isCrossed(t, 1, braid(c.strands)), isCrossed(t, c.last, braid(c.strands)), isCrossed(t, c.last+1, braid(c.strands)), isCrossed(t, 0, braid(c.strands))), "[0 0 2 2]")
	}
}

// ErrInvalid stands before ErrRange.
func TestErrorsOfCrossOps(t *testing.T) {
	list := notBraids()
	for strands := int64(9); strands <= 12; strands++ {
		list = append(list, braid(strands), braid(strands, 1), braid(strands, 1-strands))
	}
	for _, b := range list {
		for _, first := range append(extremes(), -1, 0, 1, 8, 18, 23, 24) {
			is(t, fmt.Sprint("CrossOps ", first, b), result(isCrossed(t, first, b), result(impl.CrossOps(first, b))), "[1 [[] 1]]")
		}
	}
}

// isRackedFrom compares the events of racking with those by hand, and returns how many there are.
func isRackedFrom(t *testing.T, m impl.Machine, rack int64) int {
	t.Helper()
	list, code := impl.RackEvents(m, rack)
	want := rackedByHand(t, m, rack)
	other, otherCode := impl.OpEvents(m, rackOp(rack))
	if code != impl.OK || otherCode != impl.OK || !slices.Equal(list, want) || !slices.Equal(list, other) {
		t.Errorf("RackEvents %v %d: got %v %d, want %v", m, rack, list, code, want)
	}
	return len(list)
}

func TestRackEvents(t *testing.T) {
	for _, c := range []struct {
		rack  int64
		hangs string
		to    int64
		want  string
	}{
		{0, "", 3, ""}, {0, "f1 1, b1 1", 0, ""}, {2, "f3 1, b1 1", 2, ""}, {0, "f1 1, f2 4, f3 2", 3, ""}, {0, "b1 1, b2 4, b3 2", -3, ""},
		{0, "b1 1, f2 1", 1, "-0"}, {0, "b1 1, f2 1", -3, ""}, {0, "f1 1, b1 1", 3, ""}, {0, "f1 1, b1 1", -1, "+0"}, {0, "b0 1, f3 1", 2, ""}, {0, "b0 1, f3 1", 3, "-0"}, {-3, "f0 1, b3 1", 3, ""}, {3, "f3 1, b0 1", 2, "+0"}, {-3, "b4 1, f3 1", 3, "-0"},
		{0, "b1 1, f2 1, f3 1", 1, "-0"}, {0, "b1 1, f2 1, f3 1", 2, "-0 -1"}, {0, "f0 1, f1 1, b1 1", -2, "+1 +0"}, {0, "b1 2, f2 1", 1, "-1 -0"}, {0, "b1 1, f2 2", 3, "-0 -1"}, {0, "b1 2, f2 2", 1, "-1 -0 -2 -1"}, {0, "f1 2, b1 3", -1, "+1 +0 +2 +1 +3 +2"}, {0, "f0 3, b1 2, f2 2", 1, "-4 -3 -5 -4"}, {1, "b0 1, f0 2, f1 2, b1 1", -1, "+3 +2 +1 +0 +4 +3"},
	} {
		m := hanging(t, 5, c.rack, c.hangs)
		list, code := impl.RackEvents(m, c.to)
		is(t, fmt.Sprint("RackEvents ", c), result(list, code), result(rackedByHand(t, m, c.to), impl.OK))
		is(t, fmt.Sprint("events ", c), signsAndPlaces(list), c.want)
	}
	crossed := 0
	for seed := range 20 {
		d := dice(seed)
		width := 1 + d.below(9)
		m := machineAfter(t, width, d.executableOps(t, width, 60))
		for from := int64(-3); from <= 3; from++ {
			m.Rack = from
			for to := int64(-3); to <= 3; to++ {
				crossed += isRackedFrom(t, m, to)
			}
		}
	}
	is(t, "many crossings", crossed > 500, true)
}

// signsAndPlaces is a text with a word for each crossing.
func signsAndPlaces(list []impl.Event) string {
	text := ""
	for i, e := range list {
		if i > 0 {
			text += " "
		}
		text += fmt.Sprintf("%c%d", map[int64]rune{1: '+', -1: '-'}[e.Count], e.Place)
	}
	return text
}

// ErrInvalid stands before ErrRange.
func TestErrorsOfRackEvents(t *testing.T) {
	for _, m := range []impl.Machine{newMachine(t, 1), newMachine(t, 24), richMachine(t), hanging(t, 5, 3, "f1 2, b1 2")} {
		for _, rack := range append(extremes(), -5, -4, 4, 5) {
			is(t, fmt.Sprint("rack ", rack), result(impl.RackEvents(m, rack)), "[[] 2]")
		}
		for rack := int64(-3); rack <= 3; rack++ {
			isRackedFrom(t, m, rack)
		}
	}
	for i, m := range notMachines(t) {
		for _, rack := range append(extremes(), -4, -3, 0, 1, 3, 4) {
			is(t, fmt.Sprint("state and rack ", i, rack), result(impl.RackEvents(m, rack)), "[[] 1]")
		}
	}
}

func isSwapped(t *testing.T, place, left, right int64, front bool) {
	t.Helper()
	sign := int64(-1)
	if front {
		sign = 1
	}
	want, ok := []int64{}, place >= 0 && place <= 12 && left >= 0 && left <= 4 && right >= 0 && right <= 4 && place+left+right <= 12
	if ok {
		want = lettersOfCrossings(walked(place, left, right, sign))
	}
	letters, got := impl.SwapLetters(place, left, right, front)
	if got != ok || !slices.Equal(letters, want) || !got && letters != nil {
		t.Errorf("SwapLetters %d %d %d %v: got %v %v, want %v %v", place, left, right, front, letters, got, want, ok)
	}
	if ok && place == 0 && left+right > 0 {
		doubled, code := impl.DoubleBraid(braid(2, sign), sizes(left, right))
		is(t, "as DoubleBraid", result(letters, code), result(doubled.Word, impl.OK))
	}
}

func TestSwapLetters(t *testing.T) {
	for _, c := range []struct {
		place, left, right int64
		front              bool
		want               string
	}{
		{0, 1, 1, true, "[[1] true]"}, {0, 1, 1, false, "[[-1] true]"}, {2, 2, 1, false, "[[-4 -3] true]"}, {0, 1, 2, true, "[[1 2] true]"}, {3, 2, 2, true, "[[5 4 6 5] true]"}, {4, 4, 4, false, "[[-8 -7 -6 -5 -9 -8 -7 -6 -10 -9 -8 -7 -11 -10 -9 -8] true]"}, {10, 1, 1, true, "[[11] true]"},
		{0, 0, 0, true, "[[] true]"}, {12, 0, 0, false, "[[] true]"}, {0, 4, 0, true, "[[] true]"}, {0, 0, 4, true, "[[] true]"}, {8, 0, 4, false, "[[] true]"}, {8, 4, 0, false, "[[] true]"},
		{13, 0, 0, true, "[[] false]"}, {-1, 0, 0, true, "[[] false]"}, {-1, 1, 1, true, "[[] false]"}, {9, 0, 4, false, "[[] false]"}, {9, 4, 0, true, "[[] false]"}, {11, 1, 1, true, "[[] false]"}, {5, 4, 4, true, "[[] false]"}, {0, 5, 1, true, "[[] false]"}, {0, 1, 5, true, "[[] false]"}, {1, -1, 1, false, "[[] false]"}, {1, 1, -1, false, "[[] false]"}, {0, 5, 0, true, "[[] false]"}, {0, 0, -1, true, "[[] false]"},
	} {
		is(t, fmt.Sprint("SwapLetters ", c), result(impl.SwapLetters(c.place, c.left, c.right, c.front)), c.want)
	}
	for _, front := range []bool{true, false} {
		for place := int64(-2); place <= 14; place++ {
			for left := int64(-2); left <= 6; left++ {
				for right := int64(-2); right <= 6; right++ {
					isSwapped(t, place, left, right, front)
				}
			}
		}
		for _, x := range extremes() {
			for _, y := range append(extremes(), 0, 1, 4, 12) {
				for _, numbers := range [][]int64{{x, y, 1}, {x, 1, y}, {y, x, 1}, {1, x, y}, {y, 1, x}, {1, y, x}} {
					isSwapped(t, numbers[0], numbers[1], numbers[2], front)
				}
			}
		}
	}
}

// isDoubled compares the braid of columns with words that are cancelled and doubled by hand, and returns the code.
func isDoubled(t *testing.T, b impl.Braid, list []int64) int64 {
	t.Helper()
	want, code := impl.Braid{}, int64(impl.OK)
	switch {
	case !impl.ValidBraid(b) || int(b.Strands) != len(list):
		code = impl.ErrInvalid
	case slices.ContainsFunc(list, func(size int64) bool { return size < 1 || size > 4 }):
		code = impl.ErrRange
	default:
		want = braid(total(list), cancelledByHand(doubledByHand(cancelledByHand(b.Word), list))...)
		if want.Strands > 12 || len(want.Word) > 40 {
			want, code = impl.Braid{}, impl.ErrFull
		}
	}
	doubled, got := impl.ColumnBraid(b, list)
	if got != code || doubled.Strands != want.Strands || !slices.Equal(doubled.Word, want.Word) {
		t.Errorf("ColumnBraid %v %v: got %v %d, want %v %d", b, list, doubled, got, want, code)
	}
	return code
}

func TestColumnBraid(t *testing.T) {
	for _, c := range []struct {
		b     impl.Braid
		sizes []int64
		want  impl.Braid
	}{
		{braid(0), nil, braid(0)}, {braid(1), sizes(4), braid(4)}, {braid(2), sizes(1, 3), braid(4)}, {braid(2, 1), sizes(1, 1), braid(2, 1)}, {braid(2, 1), sizes(2, 1), braid(3, 2, 1)}, {braid(2, -1), sizes(1, 2), braid(3, -1, -2)}, {braid(3, 1, -2), sizes(1, 2, 1), braid(4, 1, 2, -3)}, {braid(2, 1, 1), sizes(2, 1), braid(3, 2, 1, 1, 2)}, {braid(2, 1), sizes(4, 4), braid(8, 4, 3, 2, 1, 5, 4, 3, 2, 6, 5, 4, 3, 7, 6, 5, 4)},
		{braid(2, 1, -1), sizes(3, 2), braid(5)}, {braid(3, 1, 2, -2, -1), sizes(4, 4, 4), braid(12)}, {braid(3, 2, -1, 1, -2, 1), sizes(1, 2, 1), braid(4, 1, 2)}, {braid(12, 11), copiesOf(1, 12), braid(12, 11)}, {braid(11, -10), append(copiesOf(1, 10), 2), braid(12, -10, -11)},
		{braid(2, slices.Repeat(sizes(1, -1), 20)...), sizes(4, 4), braid(8)}, {braid(3, slices.Concat(copiesOf(1, 19), sizes(2, -2), copiesOf(-1, 18))...), sizes(4, 4, 4), braid(12, 4, 3, 2, 1, 5, 4, 3, 2, 6, 5, 4, 3, 7, 6, 5, 4)}, {braid(3, 1, 2, 1, -2, -1, -2), sizes(1, 1, 1), braid(3, 1, 2, 1, -2, -1, -2)},
	} {
		is(t, fmt.Sprint("ColumnBraid ", c.b, c.sizes), result(impl.ColumnBraid(c.b, c.sizes)), result(c.want, impl.OK))
		is(t, "by hand", isDoubled(t, c.b, c.sizes), impl.OK)
	}
	codes := map[int64]int{}
	for n := range int64(13) {
		for _, b := range append(manyBraids(n, 8, 20), manyBraids(n, 40, 10)...) {
			for seed := range 6 {
				d := dice(seed)
				codes[isDoubled(t, b, d.sizes(n))]++
				codes[isDoubled(t, b, someSizes(n, seed))]++
			}
		}
	}
	is(t, "codes", result(codes[impl.OK] > 500, codes[impl.ErrRange] > 100, codes[impl.ErrFull] > 100, len(codes)), "[true true true 3]")
}

func TestLimitsOfColumnBraid(t *testing.T) {
	for _, c := range []struct {
		name string
		b    impl.Braid
		list []int64
		code int64
	}{
		{"most strands", braid(3), sizes(4, 4, 4), impl.OK}, {"most strands of one loop", braid(12), copiesOf(1, 12), impl.OK}, {"one more strand", braid(4), sizes(4, 4, 4, 1), impl.ErrFull}, {"one more strand of 12 columns", braid(12), append(copiesOf(1, 11), 2), impl.ErrFull}, {"far more strands", braid(12, 11), copiesOf(4, 12), impl.ErrFull},
		{"most letters", repeated(2, 1, 20), sizes(2, 1), impl.OK}, {"most letters of blocks", repeated(2, -1, 10), sizes(2, 2), impl.OK}, {"most letters of one loop", repeated(2, 1, 40), sizes(1, 1), impl.OK}, {"one more letter", braid(3, append(copiesOf(1, 39), 2)...), sizes(1, 1, 2), impl.ErrFull}, {"two more letters", repeated(2, 1, 21), sizes(1, 2), impl.ErrFull}, {"far more letters", repeated(2, 1, 40), sizes(4, 4), impl.ErrFull},
		{"more letters in between", braid(2, slices.Concat(copiesOf(1, 30), copiesOf(-1, 10))...), sizes(2, 1), impl.OK}, {"one pair more", braid(2, slices.Concat(copiesOf(1, 31), copiesOf(-1, 9))...), sizes(2, 1), impl.ErrFull}, {"letters that cancel only later", braid(2, slices.Concat(copiesOf(1, 20), copiesOf(-1, 20))...), sizes(4, 4), impl.OK},
		{"fewer sizes", braid(3, 1), sizes(1, 1), impl.ErrInvalid}, {"more sizes", braid(3, 1), sizes(1, 1, 1, 1), impl.ErrInvalid}, {"no sizes", braid(1), nil, impl.ErrInvalid}, {"a size for no strand", braid(0), sizes(1), impl.ErrInvalid},
		{"number of sizes before range", braid(3, 1), sizes(0, 9), impl.ErrInvalid}, {"number of sizes before strands", braid(3, 1), sizes(4, 4, 4, 4), impl.ErrInvalid}, {"number of sizes before letters", repeated(2, 1, 40), sizes(4, 4, 1), impl.ErrInvalid},
	} {
		is(t, c.name, isDoubled(t, c.b, c.list), c.code)
	}
	for _, size := range append(extremes(), -1, 0, 5) {
		for _, c := range []struct {
			b    impl.Braid
			list []int64
		}{{braid(2, 1), sizes(size, 1)}, {braid(2, 1), sizes(1, size)}, {braid(1), sizes(size)}, {braid(4), sizes(4, 4, 4, size)}, {repeated(2, 1, 40), sizes(4, size)}, {braid(5), sizes(4, 4, 4, 4, size)}, {braid(2, 1, -1), sizes(size, size)}} {
			is(t, fmt.Sprint("range of ", c), isDoubled(t, c.b, c.list), impl.ErrRange)
		}
	}
	for _, b := range notBraids() {
		for _, list := range [][]int64{nil, {1}, {1, 1}, {1, 1, 1}, {0, 9}, copiesOf(1, 5), copiesOf(4, 12), copiesOf(1, 13), make([]int64, 12)} {
			is(t, fmt.Sprint("no braid ", b.Strands), isDoubled(t, b, list), impl.ErrInvalid)
		}
	}
}

// checkedStart is the state with which CheckCrossing begins.
func checkedStart(t *testing.T, places, list []int64) impl.Machine {
	t.Helper()
	m := machineWithColumns(t, places, list)
	m.Carriers[0] = impl.Carrier{In: true, At: -3}
	if len(places) > 0 {
		m.Carriers[0].At = slices.Max(places) + 1
	}
	return m
}

// checkedByHand executes operations by hand. The words must be short, since their actions on the free group grow.
func checkedByHand(t *testing.T, places, list []int64, ops []impl.Op, b impl.Braid) (bool, int64) {
	t.Helper()
	m, letters := checkedStart(t, places, list), []int64{}
	for _, o := range ops {
		events, code := opEventsByHand(t, m, o)
		if code != impl.OK {
			return false, code
		}
		if slices.ContainsFunc(events, func(e impl.Event) bool { return e.Kind != impl.EvCross }) {
			return false, impl.OK
		}
		letters = append(letters, lettersOfCrossings(events)...)
		m, _ = stepByHand(m, o)
	}
	for column, size := range list {
		at := places[placeByHand(b, int64(column))]
		if len(m.Front[at]) != int(size) {
			return false, impl.OK
		}
	}
	difference := slices.Concat(inverseWordByHand(doubledByHand(b.Word, list)), letters)
	return m.Rack == 0 && isTrivialByHand(braid(total(list), cancelledByHand(difference)...)), impl.OK
}

// isChecked compares CheckCrossing with what is done by hand, and returns what it reports.
func isChecked(t *testing.T, places, list []int64, ops []impl.Op, b impl.Braid) (bool, int64) {
	t.Helper()
	want, code := checkedByHand(t, places, list, ops, b)
	got, gotCode := impl.CheckCrossing(places, list, ops, b)
	if got != want || gotCode != code {
		t.Errorf("CheckCrossing %v %v %v %v: got %v %d, want %v %d", places, list, ops, b, got, gotCode, want, code)
	}
	return want, code
}

// makes checks what CheckCrossing reports without an error.
func makes(t *testing.T, name string, places, list []int64, ops []impl.Op, b impl.Braid, want bool) {
	t.Helper()
	is(t, name, result(impl.CheckCrossing(places, list, ops, b)), result(want, impl.OK))
}

func TestCheckCrossingWithoutColumns(t *testing.T) {
	makes(t, "nothing", nil, nil, nil, braid(0), true)
	makes(t, "empty lists", sizes(), sizes(), []impl.Op{}, impl.Braid{Word: sizes()}, true)
	for text, want := range map[string]string{
		"": "[true 0]", "rack 1\n": "[false 0]", "rack 3\nrack 0\n": "[true 0]", "in > 2\nmiss > f0 2\nout 2\nout 1\n": "[true 0]", "miss > f0 1\nmiss < f0 1\n": "[true 0]", "rack -3\nmiss > b0 1\nrack 0\n": "[true 0]", "miss < f0 1\n": "[false 9]", "rack -3\nmiss < b0 1\nrack 0\n": "[false 9]",
		"knit > f0 1\n": "[false 0]", "tuck > b3 1\nrack 0\n": "[false 0]", "in > 1\n": "[false 9]", "xfer f0 b0\n": "[false 7]", "drop f0\n": "[false 7]", "xfer f0 b1\n": "[false 8]", "split > f0 b0 1\n": "[false 7]", "knit > f0 1\ndrop f0\n": "[false 0]",
	} {
		ops := readOps(t, text)
		is(t, "no columns "+text, result(impl.CheckCrossing(nil, nil, ops, braid(0))), want)
		isChecked(t, nil, nil, ops, braid(0))
	}
}

// The carrier stands behind the last column.
func TestCarrierBehindTheColumns(t *testing.T) {
	places, list := sizes(4, 7, 12), sizes(4, 1, 3)
	for text, want := range map[string]string{
		"": "[true 0]", "miss > f13 1\n": "[true 0]", "miss > f12 1\n": "[false 9]", "miss < f12 1\n": "[true 0]", "miss < f13 1\n": "[false 9]", "miss < f12 1\nmiss > f12 1\nmiss < f4 1\n": "[true 0]", "in > 1\n": "[false 9]", "in < 2\nmiss < f0 2\nout 2\n": "[true 0]", "out 1\n": "[true 0]", "out 1\nin < 1\n": "[true 0]", "out 2\n": "[false 9]", "out 3\n": "[false 9]", "out 4\n": "[false 9]", "in > 4\n": "[true 0]", "miss > f0 2\n": "[false 9]",
	} {
		ops := readOps(t, text)
		is(t, "carrier "+text, result(impl.CheckCrossing(places, list, ops, braid(3))), want)
		isChecked(t, places, list, ops, braid(3))
	}
}

// allSizes are all sizes of so many columns that have at most MaxStrands strands together.
func allSizes(columns int) [][]int64 {
	lists := [][]int64{}
	for list := range listsOver(sizes(1, 2, 3, 4), columns) {
		if len(list) == columns && total(list) <= 12 {
			lists = append(lists, list)
		}
	}
	return lists
}

// P23: all sizes of up to three columns, and braids of few letters.
func TestCrossingsOfAllSizes(t *testing.T) {
	for columns := range 4 {
		for i, list := range allSizes(columns) {
			for _, b := range allWords(int64(columns), 2) {
				first := 1 + int64(i)%min(23, int64(24-2*columns))
				ops := crossOpsOf(t, first, b)
				makes(t, fmt.Sprint("CrossOps ", first, b, list), everySecond(first, columns), list, ops, b, true)
			}
		}
	}
}

// P23: braids of every number of columns, with as many letters as there may be, for any sizes.
func TestCrossOpsMakeTheBraid(t *testing.T) {
	for columns := range int64(9) {
		for i, b := range append(manyBraids(columns, 40, 12), manyBraids(columns, 7, 12)...) {
			d := dice(i)
			list, first := d.sizes(columns), 1+d.below(min(23, 24-2*columns))
			places := everySecond(first, int(columns))
			ops := crossOpsOf(t, first, b)
			name := fmt.Sprint("CrossOps ", first, b, list)
			makes(t, name, places, list, ops, b, true)
			makes(t, name+" by relations", places, list, ops, changedByRelations(b, 200), true)
			m, events := eventsWhile(t, checkedStart(t, places, list), ops)
			is(t, "crossings of "+name, events, crossings(doubledByHand(b.Word, list)...))
			is(t, "rest of "+name, result(m.Rack, len(slices.Concat(m.Back...)), len(m.Loops)), result(0, 0, total(list)))
			for column, size := range list {
				is(t, "column of "+name, len(m.Front[places[placeByHand(b, int64(column))]]), size)
			}
		}
	}
}

// P23: operations of one braid make another one exactly if both act in the same way on the free group.
func TestCrossOpsMakeNoOtherBraid(t *testing.T) {
	for _, c := range []struct {
		words []impl.Braid
		sizes [][]int64
	}{
		{allWords(3, 3), [][]int64{{1, 1, 1}}}, {allWords(3, 2), [][]int64{{2, 1, 3}, {4, 4, 4}, {1, 2, 1}}}, {allWords(2, 4), [][]int64{{1, 1}, {3, 2}}}, {allWords(4, 1), [][]int64{{1, 2, 2, 1}, {4, 1, 1, 4}}},
	} {
		actions := map[string]string{}
		for _, b := range c.words {
			actions[fmt.Sprint(b)] = fmt.Sprint(actionByHand(b))
		}
		for _, list := range c.sizes {
			for _, a := range c.words {
				ops := crossedMany(t, 3, a.Word)
				for _, b := range c.words {
					makes(t, fmt.Sprint("operations of ", a, " with ", list, " and ", b), everySecond(3, len(list)), list, ops, b, actions[fmt.Sprint(a)] == actions[fmt.Sprint(b)])
				}
			}
		}
	}
}

// Braids with the same permutation, and as many letters of each sign, need not be equal; words that differ may be.
func TestCheckCrossingAgainstOtherBraids(t *testing.T) {
	places, b := sizes(1, 3, 5), braid(3, 1, -2)
	ops := crossOpsOf(t, 1, b)
	for _, list := range [][]int64{{1, 1, 1}, {2, 1, 3}, {4, 4, 4}} {
		for _, c := range []struct {
			b    impl.Braid
			want bool
		}{
			{b, true}, {braid(3, 1, -2, 1, -1), true}, {braid(3, 2, -2, 1, 2, -2, -2), true}, {braid(3, 2, -1, 1, 1, -1, -2, 1, -2), true}, {braid(3, 1, 2), false}, {braid(3, -1, -2), false}, {braid(3, -1, 2), false}, {braid(3, 1, -2, -2, -2), false}, {braid(3, 1, 1, 1, -2, -2, -2), false}, {braid(3), false}, {braid(3, 1), false}, {braid(3, 2, -1), false}, {braid(3, -2, 1), false},
		} {
			makes(t, fmt.Sprint("1 -2 and ", c.b, list), places, list, ops, c.b, c.want)
		}
	}
	for i, trivial := range slices.Concat(trivialBraids(), nearlyTrivialBraids()) {
		if trivial.Strands > 8 {
			continue
		}
		columns := int(trivial.Strands)
		d := dice(i)
		list, places := d.sizes(trivial.Strands), everySecond(1, columns)
		want := i < len(trivialBraids())
		makes(t, fmt.Sprint("trivial ", trivial), places, list, crossOpsOf(t, 1, trivial), braid(trivial.Strands), want)
		makes(t, fmt.Sprint("from trivial ", trivial), places, list, nil, trivial, want)
		makes(t, fmt.Sprint("itself ", trivial), places, list, crossOpsOf(t, 1, trivial), trivial, true)
		twice := braid(trivial.Strands, slices.Concat(trivial.Word, trivial.Word)...)
		makes(t, fmt.Sprint("twice ", trivial), places, list, crossOpsOf(t, 1, twice), trivial, want)
	}
}

// The Rack, the back bed and the needles at the end.
func TestCheckCrossingAtTheEnd(t *testing.T) {
	places, list, b := sizes(1, 3, 5), sizes(2, 1, 3), braid(3, 1, -2)
	ops := crossOpsOf(t, 1, b)
	racked := func(moves ...impl.Move) []impl.Op { return moveOpsByHand(t, moves...) }
	for _, c := range []struct {
		name string
		more []impl.Op
		want bool
	}{
		{"nothing more", nil, true}, {"rack", readOps(t, "rack 1\n"), false}, {"rack to the left", readOps(t, "rack -3\n"), false}, {"rack 0", readOps(t, "rack 0\n"), true}, {"rack and back", readOps(t, "rack 2\nrack -1\nrack 0\n"), true},
		{"first column on the back bed", readOps(t, "xfer f1 b1\n"), false}, {"last column on the back bed", readOps(t, "xfer f5 b5\n"), false}, {"all columns on the back bed", readOps(t, "xfer f1 b1\nxfer f3 b3\nxfer f5 b5\n"), false}, {"there and back", readOps(t, "xfer f1 b1\nxfer f5 b5\nxfer b5 f5\nxfer b1 f1\n"), true},
		{"first column elsewhere", racked(move(1, 0)), false}, {"last column elsewhere", racked(move(5, 8)), false}, {"middle column elsewhere", racked(move(3, 4)), false}, {"elsewhere and back", racked(move(1, 0), move(0, 1), move(5, 8), move(8, 5)), true}, {"all columns elsewhere", racked(move(5, 6), move(3, 4), move(1, 2)), false}, {"all columns on the needles of others", racked(move(5, 7), move(3, 5), move(1, 3)), false}, {"two columns together", racked(move(3, 1)), false},
		{"rack with loops on the back bed", readOps(t, "xfer f5 b5\nrack 1\nrack 0\nxfer b5 f5\n"), true}, {"past a column and back", readOps(t, "xfer f5 b5\nrack -3\nrack 0\nxfer b5 f5\n"), true}, {"past a column", readOps(t, "xfer f3 b3\nrack 3\nxfer b3 f6\nrack 0\n"), false},
	} {
		makes(t, c.name, places, list, slices.Concat(ops, c.more), b, c.want)
		want, code := isChecked(t, places, list, slices.Concat(ops, c.more), b)
		is(t, c.name+" by hand", result(want, code), result(c.want, impl.OK))
	}
	makes(t, "columns that are moved back", sizes(2, 4, 6), list, slices.Concat(racked(move(2, 1), move(4, 3), move(6, 5)), ops, racked(move(5, 6), move(3, 4), move(1, 2))), b, true)
	makes(t, "columns side by side", sizes(7, 8), sizes(4, 4), racked(move(7, 10), move(8, 7), move(10, 8)), braid(2, -1), true)
	makes(t, "first and last needle", sizes(0, 23), sizes(4, 4), nil, braid(2), true)
}

// Operations of one row of the table of operations, by which columns of unlike sizes come to the needles of one another.
func TestSizesOfColumnsAtTheEnd(t *testing.T) {
	exchange := crossedTwo(t, 5, true)
	for _, list := range allSizes(2) {
		makes(t, fmt.Sprint("exchanged ", list), sizes(5, 7), list, exchange, braid(2, 1), true)
		makes(t, fmt.Sprint("not exchanged ", list), sizes(5, 7), list, exchange, braid(2), false)
		makes(t, fmt.Sprint("exchanged the other way ", list), sizes(5, 7), list, exchange, braid(2, -1), false)
		makes(t, fmt.Sprint("exchanged twice ", list), sizes(5, 7), list, slices.Repeat(exchange, 2), braid(2, 1, 1), true)
		makes(t, fmt.Sprint("exchanged twice, not once ", list), sizes(5, 7), list, slices.Repeat(exchange, 2), braid(2), false)
	}
}

// stitches are operations with a stitch, which can be executed when CheckCrossing begins with columns on f1, f3 and f5.
func stitches(t *testing.T) []impl.Op {
	t.Helper()
	return readOps(t, "knit > f6 1\nknit > f9 1\nknit < f5 1\nknit < f2 1\nknit < b3 1\ntuck < f3 1\ntuck > b10 1\nsplit < f1 b1 1\nsplit < f5 b5 1\ndrop f1\ndrop f3\ndrop f5\n")
}

// failing are operations that cannot be executed then, and their errors.
func failing(t *testing.T) map[impl.Op]int64 {
	t.Helper()
	list := map[impl.Op]int64{}
	for text, code := range map[string]int64{
		"in > 1": impl.ErrCarrier, "in < 1": impl.ErrCarrier, "out 2": impl.ErrCarrier, "miss > f5 1": impl.ErrCarrier, "miss < f6 1": impl.ErrCarrier, "miss > f0 3": impl.ErrCarrier, "knit > f5 1": impl.ErrCarrier, "tuck < f7 1": impl.ErrCarrier, "split > f1 b1 1": impl.ErrCarrier, "knit > f9 4": impl.ErrCarrier,
		"tuck < f5 1": impl.ErrFull, "xfer f1 b2": impl.ErrRack, "xfer f1 b0": impl.ErrRack, "xfer f0 b1": impl.ErrRack, "split < f1 b2 1": impl.ErrRack, "xfer f0 b0": impl.ErrEmpty, "xfer b1 f1": impl.ErrEmpty, "split < f2 b2 1": impl.ErrEmpty, "drop f2": impl.ErrEmpty, "drop b1": impl.ErrEmpty,
	} {
		list[readOps(t, text+"\n")[0]] = code
	}
	return list
}

// A stitch ends the comparison: what comes behind it may fail. A stitch behind one that fails changes nothing.
func TestCheckCrossingOfStitches(t *testing.T) {
	places, list, b := sizes(1, 3, 5), sizes(2, 1, 4), braid(3)
	check := func(ops ...impl.Op) []any {
		isChecked(t, places, list, ops, b)
		return result(impl.CheckCrossing(places, list, ops, b))
	}
	is(t, "without a stitch", check(rackOp(1), rackOp(0)), "[true 0]")
	for _, stitch := range stitches(t) {
		is(t, fmt.Sprint("stitch ", stitch), result(check(stitch), check(rackOp(0), stitch), check(stitch, rackOp(0))), "[[false 0] [false 0] [false 0]]")
		for o, code := range failing(t) {
			is(t, fmt.Sprint("stitch and ", stitch, o), result(check(stitch, o), check(rackOp(2), rackOp(0), stitch, rackOp(0), o)), "[[false 0] [false 0]]")
			is(t, fmt.Sprint("stitch behind ", o, stitch), result(check(o, stitch), check(rackOp(0), o, stitch)), result(result(false, code), result(false, code)))
		}
	}
	for o, code := range failing(t) {
		is(t, fmt.Sprint("failing ", o), result(check(o), check(rackOp(0), o), check(o, rackOp(0)), check(o, outOp(4))), result(result(false, code), result(false, code), result(false, code), result(false, code)))
	}
	full := readOps(t, "xfer f3 b3\nrack 2\nxfer b3 f5\n")
	is(t, "too many loops", result(check(full...), check(full[:2]...)), "[[false 5] [false 0]]")
	is(t, "the first one that fails", result(check(outOp(2), dropOp(onFront(2))), check(dropOp(onFront(2)), outOp(2))), "[[false 9] [false 7]]")
	is(t, "behind the braid", result(impl.CheckCrossing(places, list, append(crossOpsOf(t, 1, braid(3, 1)), outOp(2)), braid(3, 1))), "[false 9]")
	is(t, "behind another braid", result(impl.CheckCrossing(places, list, append(crossOpsOf(t, 1, braid(3, 1)), outOp(2)), braid(3))), "[false 9]")
	is(t, "behind another rack", result(check(rackOp(1), outOp(2)), check(xferOp(onFront(1), onBack(1)), outOp(2))), "[[false 9] [false 9]]")
}

// checkCall is a call of CheckCrossing.
type checkCall struct {
	places, sizes []int64
	ops           []impl.Op
	b             impl.Braid
}

func (c checkCall) made() []any { return result(impl.CheckCrossing(c.places, c.sizes, c.ops, c.b)) }

// invalidCalls have one part that is not valid, and are fine otherwise.
func invalidCalls(t *testing.T) map[string]checkCall {
	t.Helper()
	b := braid(3, 1, -2)
	ops := crossOpsOf(t, 1, b)
	calls := map[string]checkCall{
		"fewer places": {sizes(1, 3), sizes(1, 1, 1), ops, b}, "more places": {sizes(1, 3, 5, 7), sizes(1, 1, 1), ops, b}, "no places": {nil, sizes(1, 1, 1), ops, b}, "fewer sizes": {sizes(1, 3, 5), sizes(1, 1), ops, b}, "more sizes": {sizes(1, 3, 5), sizes(1, 1, 1, 1), ops, b}, "no sizes": {sizes(1, 3, 5), nil, ops, b},
		"fewer strands": {sizes(1, 3, 5), sizes(1, 1, 1), ops, braid(2, 1)}, "more strands": {sizes(1, 3, 5), sizes(1, 1, 1), ops, braid(4, 1)}, "no strands": {sizes(1, 3, 5), sizes(1, 1, 1), ops, braid(0)}, "fewer sizes and strands": {sizes(1, 3, 5), sizes(1, 1), ops, braid(2, 1)}, "a size for no column": {nil, sizes(1), nil, braid(0)}, "a strand for no column": {nil, nil, nil, braid(1)},
		"nine columns": {rising(9), copiesOf(1, 9), nil, braid(9)}, "one operation more": {sizes(1, 3, 5), sizes(1, 1, 1), slices.Repeat([]impl.Op{rackOp(0)}, 1501), braid(3)},
	}
	for i, places := range [][]int64{{1, 5, 3}, {3, 1, 5}, {1, 1, 5}, {1, 5, 5}, {-1, 3, 5}, {1, 3, 24}, {math.MinInt64, 3, 5}, {1, 3, math.MaxInt64}, {1, 24, 5}, {1, 3, 1<<32 + 5}} {
		calls[fmt.Sprint("places ", i)] = checkCall{places, sizes(1, 1, 1), nil, braid(3)}
	}
	for i, b := range notBraids() {
		if b.Strands >= 0 && b.Strands <= 8 {
			calls[fmt.Sprint("braid ", i)] = checkCall{everySecond(1, int(b.Strands)), copiesOf(1, int(b.Strands)), nil, b}
		}
	}
	for i, b := range notBraids()[:8] {
		calls[fmt.Sprint("braid of no columns ", i)] = checkCall{nil, nil, nil, b}
	}
	for i, o := range append(notOps(), knitOp(1, onFront(24), 1), xferOp(onFront(24), onBack(24))) {
		calls[fmt.Sprint("first operation ", i)] = checkCall{sizes(1, 3, 5), sizes(1, 1, 1), append([]impl.Op{o}, ops...), b}
		calls[fmt.Sprint("last operation ", i)] = checkCall{sizes(1, 3, 5), sizes(1, 1, 1), append(slices.Clone(ops), o), b}
		calls[fmt.Sprint("operation behind a stitch ", i)] = checkCall{sizes(1, 3, 5), sizes(1, 1, 1), []impl.Op{dropOp(onFront(1)), o}, b}
	}
	return calls
}

// Each row of the table, before those below it.
func TestErrorsOfCheckCrossing(t *testing.T) {
	for name, c := range invalidCalls(t) {
		is(t, name, c.made(), "[false 1]")
		for _, size := range sizes(0, 5, -1, math.MinInt64, math.MaxInt64) {
			for _, o := range []impl.Op{outOp(2), dropOp(onFront(0)), rackOp(1)} {
				worse := c
				worse.ops = append([]impl.Op{o}, c.ops...)
				worse.sizes = copiesOf(size, len(c.sizes))
				is(t, name+" and wrong sizes", worse.made(), "[false 1]")
				worse.sizes = copiesOf(4, len(c.sizes))
				is(t, name+" and full", worse.made(), "[false 1]")
			}
		}
	}
	fails := []impl.Op{outOp(2)}
	for _, size := range append(extremes(), 0, 5, -1) {
		for _, list := range [][]int64{{size, 1, 1, 1}, {1, size, 1, 1}, {1, 1, 1, size}, {4, 4, 4, size}, {size, 4, 4, 4}, {size, size, size, size}} {
			for _, ops := range [][]impl.Op{nil, fails, {dropOp(onFront(1))}} {
				is(t, fmt.Sprint("sizes ", list), checkCall{sizes(1, 3, 5, 7), list, ops, braid(4)}.made(), "[false 2]")
			}
		}
	}
	for _, list := range [][]int64{{4, 4, 4, 1}, {1, 4, 4, 4}, {4, 3, 3, 3}, {4, 4, 4, 4}} {
		for _, ops := range [][]impl.Op{nil, fails, {dropOp(onFront(1))}} {
			is(t, fmt.Sprint("sizes ", list), checkCall{sizes(1, 3, 5, 7), list, ops, braid(4)}.made(), "[false 5]")
		}
	}
	for _, list := range [][]int64{{4, 4, 3, 1}, {3, 3, 3, 3}, {1, 1, 1, 1}} {
		is(t, fmt.Sprint("sizes ", list), result(checkCall{sizes(1, 3, 5, 7), list, nil, braid(4)}.made(), checkCall{sizes(1, 3, 5, 7), list, fails, braid(4)}.made()), "[[true 0] [false 9]]")
	}
	is(t, "eight columns", result(checkCall{rising(8), copiesOf(1, 8), nil, braid(8)}.made(), checkCall{rising(8), append(copiesOf(2, 4), 1, 1, 1, 1), nil, braid(8)}.made(), checkCall{rising(8), append(copiesOf(2, 5), 1, 1, 1), nil, braid(8)}.made()), "[[true 0] [true 0] [false 5]]")
}

// As many operations, crossings and letters as there may be, and more crossings than a trace or a word may have.
func TestCheckCrossingWithoutLimits(t *testing.T) {
	places, list := sizes(1, 3, 5), sizes(4, 4, 4)
	w := braid(3, 1, -2, 1, 1, -2, 2, 2, -1, -2, -2, 1, 2, 1)
	b := braid(3, slices.Repeat(w.Word, 3)...)
	ops := crossOpsOf(t, 1, w)
	makes(t, "640 crossings", places, list, crossOpsOf(t, 1, repeated(3, -2, 40)), repeated(3, -2, 40), true)
	makes(t, "a word three times", places, list, slices.Repeat(ops, 3), b, true)
	makes(t, "a word three times, by relations", places, list, slices.Repeat(ops, 3), changedByRelations(b, 1000), true)
	makes(t, "a word nine times", places, list, slices.Repeat(ops, 9), b, false)
	makes(t, "a word four times", places, list, slices.Repeat(ops, 4), b, false)
	back := crossOpsOf(t, 1, impl.InvertBraid(w))
	makes(t, "there and back", places, list, slices.Concat(slices.Repeat(ops, 4), slices.Repeat(back, 4)), braid(3), true)
	makes(t, "there and back, and there three times", places, list, slices.Concat(slices.Repeat(ops, 5), slices.Repeat(back, 2)), b, true)
	makes(t, "there and not quite back", places, list, slices.Concat(slices.Repeat(ops, 4), slices.Repeat(back, 3), back[12:]), braid(3), false)
	swing := slices.Concat(readOps(t, "xfer f5 b5\n"), slices.Repeat([]impl.Op{rackOp(-3), rackOp(3)}, 748), readOps(t, "rack 0\nxfer b5 f5\n"))
	is(t, "operations", len(swing), 1499)
	makes(t, "more than MaxEvents crossings", places, list, swing, braid(3), true)
	makes(t, "MaxOps operations", places, list, append(swing, rackOp(0)), braid(3), true)
	makes(t, "MaxOps operations and a rack", places, list, append(swing, rackOp(-1)), braid(3), false)
	makes(t, "more than MaxEvents crossings and another braid", places, list, swing, braid(3, 2, 2), false)
	is(t, "one operation more", result(impl.CheckCrossing(places, list, append(swing, rackOp(0), rackOp(0)), braid(3))), "[false 1]")
}

// One operation in which 36 strands cross, behind and before those that bring them to their needles.
func TestManyCrossingsOfOneOperation(t *testing.T) {
	places, list := sizes(8, 9, 10, 11), sizes(4, 2, 4, 2)
	there := readOps(t, "rack -2\nxfer f8 b10\nxfer f9 b11\nrack 3\nxfer b10 f13\nxfer b11 f14\nrack 0\n")
	ops := slices.Concat(there, moveOpsByHand(t, move(10, 8), move(11, 9), move(13, 10), move(14, 11)))
	_, events := eventsWhile(t, checkedStart(t, places, list), there)
	is(t, "crossings", len(events), 36)
	makes(t, "two columns behind two", places, list, ops, braid(4, -2, -1, -3, -2), true)
	makes(t, "two columns in front of two", places, list, ops, braid(4, 2, 1, 3, 2), false)
	makes(t, "the same permutation", places, list, ops, braid(4, -2, -1, -3, 2), false)
	makes(t, "twice", places, sizes(4, 2, 4, 2), slices.Repeat(ops, 2), braid(4, -2, -1, -3, -2, -2, -1, -3, -2), true)
	swung := slices.Concat(readOps(t, "rack -2\nxfer f8 b10\nxfer f9 b11\n"), slices.Repeat([]impl.Op{rackOp(3), rackOp(-2)}, 30), readOps(t, "xfer b10 f8\nxfer b11 f9\nrack 0\n"))
	makes(t, "there and back", places, list, swung, braid(4), true)
}

// noise throws operations without crossings, for a machine with the Rack 0 and an empty back bed.
func (d *dice) noise() []impl.Op {
	switch carrier := 2 + d.below(3); d.below(4) {
	case 0:
		return []impl.Op{rackOp(d.below(7) - 3), rackOp(0)}
	case 1:
		return []impl.Op{inOp(d.dir(), carrier), outOp(carrier)}
	case 2:
		return []impl.Op{inOp(impl.DrLeft, carrier), missOp(impl.DrLeft, onFront(d.below(24)), carrier), outOp(carrier)}
	}
	return nil
}

// damaged leaves out an operation, doubles one, or changes one into another one.
func (d *dice) damaged(ops []impl.Op) []impl.Op {
	i := int(d.below(int64(len(ops))))
	switch d.below(4) {
	case 0:
		return slices.Concat(ops[:i], ops[i+1:])
	case 1:
		return slices.Concat(ops[:i+1], ops[i:])
	case 2:
		return slices.Concat(ops[:i], []impl.Op{rackOp(d.below(7) - 3)}, ops[i+1:])
	}
	return slices.Concat(ops[:i], []impl.Op{tuckOp(d.dir(), onFront(d.below(24)), 1)}, ops[i:])
}

// Operations of a braid with others between them that make no difference, and the same with one operation that is wrong.
func TestManyCheckedCrossings(t *testing.T) {
	counts := map[string]int{}
	for seed := range 700 {
		d := dice(seed)
		columns := 2 + d.below(4)
		first, list := 1+d.below(24-2*columns), copiesOf(1, int(columns))
		if seed%3 == 0 {
			list[d.below(columns)]++
		}
		b := braid(columns, d.letters(columns, 4)...)
		ops := d.noise()
		for _, letter := range b.Word {
			ops = slices.Concat(ops, crossedTwo(t, first+2*(numberOf(letter)-1), letter > 0), d.noise())
		}
		places := everySecond(first, int(columns))
		other := changedByRelations(b, 30)
		if len(other.Word) > 8 {
			other = b
		}
		made, code := isChecked(t, places, list, ops, other)
		is(t, fmt.Sprint("operations of ", b, other), result(made, code), "[true 0]")
		if len(ops) > 0 {
			made, code = isChecked(t, places, list, d.damaged(ops), b)
			counts[fmt.Sprint(made, code)]++
		}
		made, code = isChecked(t, places, list, ops, braid(columns, d.letters(columns, 4)...))
		counts[fmt.Sprint("other ", made, code)]++
	}
	is(t, "results", result(counts["true 0"] > 20, counts["false 0"] > 20, counts["false 7"] > 20, counts["false 8"] > 20, counts["other true 0"] > 20, counts["other false 0"] > 100), "[true true true true true true]")
}

// One list may be the needles and the sizes, and the word may be a part of the same memory.
func TestCrossingsThatShareMemory(t *testing.T) {
	memory := sizes(1, 2, 3, -2, 1)
	list, b := memory[:3], braid(3, memory[3:]...)
	is(t, "one list", result(impl.CheckCrossing(list, list, nil, braid(3))), "[true 0]")
	is(t, "parts of one list", result(impl.CheckCrossing(sizes(1, 3, 5), list, crossedMany(t, 1, sizes(-2, 1)), b)), "[true 0]")
	is(t, "doubled", result(impl.ColumnBraid(b, list)), result(braid(6, cancelledByHand(doubledByHand(sizes(-2, 1), sizes(1, 2, 3)))...), impl.OK))
	first, second := crossOpsOf(t, 1, b), crossOpsOf(t, 1, b)
	scribble(result(first))
	is(t, "operations of two calls", second, crossedMany(t, 1, sizes(-2, 1)))
	is(t, "memory", memory, "[1 2 3 -2 1]")
}
