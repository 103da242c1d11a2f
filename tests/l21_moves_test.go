package tests

import (
	"fmt"
	"math"
	"slices"
	"strings"
	"testing"

	"loop.example/g00856/impl"
)

func move(from, to int64) impl.Move { return impl.Move{From: from, To: to} }

func isNoNeedle(at int64) bool { return at < 0 || at > 23 }

func arePlacesByHand(list []int64) bool {
	return len(list) <= 8 && slices.IsSorted(list) && len(slices.Compact(slices.Clone(list))) == len(list) && !slices.ContainsFunc(list, isNoNeedle)
}

func isMoveByHand(m impl.Move) bool {
	return !isNoNeedle(m.From) && !isNoNeedle(m.To) && slices.Contains(sizes(-3, -2, -1, 1, 2, 3), m.To-m.From)
}

// frontBed shows for each front needle the columns that hang on it, each one as a letter.
type frontBed [24]string

func frontBedOf(list []int64) frontBed {
	bed := frontBed{}
	for i, at := range list {
		bed[at] = string(rune('a' + i))
	}
	return bed
}

func (b frontBed) places() []int64 {
	list := []int64{}
	for at, columns := range b {
		if columns != "" {
			list = append(list, int64(at))
		}
	}
	return list
}

// columnsFrom are the letters on the needles from one to the one before another.
func (b frontBed) columnsFrom(first, behind int64) string {
	return strings.Join(b[first:max(first, behind)], "")
}

// moved takes the columns of one needle behind those on another one, if they pass none.
func (b frontBed) moved(m impl.Move) (frontBed, int64) {
	if b[m.From] == "" {
		return frontBed{}, impl.ErrEmpty
	}
	if b.columnsFrom(m.From+1, m.To+1)+b.columnsFrom(m.To+1, m.From) != "" {
		return frontBed{}, impl.ErrPlan
	}
	b[m.From], b[m.To] = "", b[m.To]+b[m.From]
	return b, impl.OK
}

// isApplied compares a move of columns with that by hand, and returns the code.
func isApplied(t *testing.T, list []int64, m impl.Move) int64 {
	t.Helper()
	bed, code := frontBed{}, int64(impl.ErrInvalid)
	if arePlacesByHand(list) && isMoveByHand(m) {
		bed, code = frontBedOf(list).moved(m)
	}
	places, got := impl.ApplyMove(list, m)
	if got != code || !slices.Equal(places, bed.places()) {
		t.Errorf("ApplyMove %v %v: got %v %d, want %v %d", list, m, places, got, bed.places(), code)
	}
	return code
}

// planCodeByHand compares all pairs of columns.
func planCodeByHand(from, to []int64) int64 {
	if !arePlacesByHand(from) || len(from) != len(to) || !slices.IsSorted(to) || slices.ContainsFunc(to, isNoNeedle) {
		return impl.ErrInvalid
	}
	for i := range to {
		for k := range i {
			if to[i] == to[k] && from[i] <= to[i] {
				return impl.ErrPlan
			}
		}
	}
	return impl.OK
}

// planByHand walks with all columns, and stops after each third needle.
func planByHand(from, to []int64) []impl.Move {
	moves := []impl.Move{}
	walk := func(column int, dir int64) {
		at := from[column]
		for step := at + dir; (to[column]-step)*dir >= 0; step += dir {
			if (step-at)*dir == 3 || step == to[column] {
				moves = append(moves, move(at, step))
				at = step
			}
		}
	}
	for column := len(from) - 1; column >= 0; column-- {
		walk(column, 1)
	}
	for column := range from {
		walk(column, -1)
	}
	return moves
}

// moveOpsByHand are the operations as texts.
func moveOpsByHand(t *testing.T, moves ...impl.Move) []impl.Op {
	t.Helper()
	text := ""
	for _, m := range moves {
		text += fmt.Sprintf("xfer f%d b%d\nrack %d\nxfer b%d f%d\nrack 0\n", m.From, m.From, m.To-m.From, m.From, m.To)
	}
	return readOps(t, text)
}

func readOps(t *testing.T, lines string) []impl.Op {
	t.Helper()
	width, ops, _, code := impl.ReadProgram("width 24\n" + lines)
	is(t, "code of operations", result(width, code), "[24 0]")
	return ops
}

// isPlanned compares a plan with that by hand, and returns the code.
func isPlanned(t *testing.T, from, to []int64) int64 {
	t.Helper()
	name, code := fmt.Sprint("PlanMoves ", from, to), planCodeByHand(from, to)
	moves, got := impl.PlanMoves(from, to)
	ops, opsCode := impl.MoveColumns(from, to)
	if code != impl.OK {
		if got != code || opsCode != code || moves != nil || ops != nil {
			t.Errorf("%s: got %v %d, and operations %v %d, want %d", name, moves, got, ops, opsCode, code)
		}
		return code
	}
	if want := planByHand(from, to); got != code || !slices.Equal(moves, want) {
		t.Errorf("%s: got %v %d, want %v", name, moves, got, want)
	}
	if want := moveOpsByHand(t, moves...); opsCode != code || !slices.Equal(ops, want) {
		t.Errorf("MoveColumns %v %v: got %v %d, want %v", from, to, ops, opsCode, want)
	}
	areAppliedInTurn(t, from, to, moves)
	return code
}

// areAppliedInTurn checks that the moves of a plan are valid one after the other, and end with the needles to.
func areAppliedInTurn(t *testing.T, from, to []int64, moves []impl.Move) {
	t.Helper()
	places, bed, length := from, frontBedOf(from), int64(0)
	for _, m := range moves {
		after, code := impl.ApplyMove(places, m)
		if code != impl.OK || isApplied(t, places, m) != impl.OK {
			t.Errorf("plan of %v to %v: %v on %v: code %d", from, to, m, places, code)
			return
		}
		bed, _ = bed.moved(m)
		places = after
	}
	for i := range from {
		length += max(to[i]-from[i], from[i]-to[i])
		if !strings.Contains(bed[to[i]], string(rune('a'+i))) {
			t.Errorf("plan of %v to %v: column %d is not on needle %d of %q", from, to, i, to[i], bed)
		}
	}
	if want := slices.Compact(slices.Clone(to)); !slices.Equal(places, want) || strings.Join(bed[:], "") != "abcdefgh"[:len(from)] || impl.MoveLength(moves) != length {
		t.Errorf("plan of %v to %v: ends with %v, %q, length %d, want %d", from, to, places, bed, impl.MoveLength(moves), length)
	}
}

func TestExamplesOfMoves(t *testing.T) {
	is(t, "two columns", result(impl.PlanMoves(sizes(3, 5), sizes(3, 3))), "[[{5 3}] 0]")
	ops, code := impl.MoveColumns(sizes(3, 5), sizes(3, 3))
	is(t, "operations", result(ops, code), result(readOps(t, "xfer f5 b5\nrack -2\nxfer b5 f3\nrack 0\n"), impl.OK))
	is(t, "kodk", result(result(impl.PlanMoves(sizes(1, 3, 5, 7), sizes(1, 3, 3, 7))), result(impl.PlanMoves(sizes(1, 3, 7), sizes(1, 5, 7)))), "[[[{5 3}] 0] [[{3 5}] 0]]")
}

func TestPlaces(t *testing.T) {
	for _, c := range []struct {
		list []int64
		want bool
	}{
		{nil, true}, {sizes(), true}, {sizes(0), true}, {sizes(23), true}, {sizes(11), true}, {sizes(0, 23), true}, {sizes(0, 1, 2, 3, 4, 5, 6, 7), true}, {sizes(16, 17, 18, 19, 20, 21, 22, 23), true}, {sizes(1, 3, 5, 7, 9, 11, 13, 15), true}, {sizes(22, 23), true},
		{sizes(-1), false}, {sizes(24), false}, {sizes(math.MinInt64), false}, {sizes(math.MaxInt64), false}, {sizes(1<<32 + 1), false}, {sizes(0, 24), false}, {sizes(-1, 0), false}, {sizes(-2, -1), false}, {sizes(24, 25), false}, {sizes(3, math.MaxInt64), false}, {sizes(math.MinInt64, 3), false}, {sizes(math.MaxInt64, math.MinInt64), false},
		{sizes(2, 2), false}, {sizes(0, 0), false}, {sizes(23, 23), false}, {sizes(1, 3, 3, 5), false}, {sizes(1, 3, 5, 5), false}, {sizes(1, 1, 3), false}, {sizes(2, 1), false}, {sizes(23, 0), false}, {sizes(1, 5, 4, 6), false}, {sizes(3, 5, 1), false}, {sizes(5, 1, 3), false},
		{rising(9), false}, {rising(24), false}, {sizes(1, 3, 5, 7, 9, 11, 13, 15, 17), false}, {make([]int64, 1000), false}, {rising(100000), false},
	} {
		is(t, fmt.Sprint("ValidPlaces ", c.want, len(c.list)), result(impl.ValidPlaces(c.list), arePlacesByHand(c.list)), result(c.want, c.want))
	}
	for list := range listsOver(sizes(-1, 0, 1, 2, 22, 23, 24), 4) {
		is(t, fmt.Sprint("ValidPlaces ", list), impl.ValidPlaces(list), arePlacesByHand(list))
	}
}

// Ways of no needle up to 23 needles, in both directions.
func TestPlansOfOneColumn(t *testing.T) {
	for _, c := range []struct {
		from, to int64
		want     string
	}{
		{3, 3, "[]"}, {0, 0, "[]"}, {23, 23, "[]"}, {3, 4, "[{3 4}]"}, {3, 5, "[{3 5}]"}, {3, 6, "[{3 6}]"}, {3, 7, "[{3 6} {6 7}]"}, {3, 8, "[{3 6} {6 8}]"}, {3, 9, "[{3 6} {6 9}]"}, {3, 10, "[{3 6} {6 9} {9 10}]"}, {0, 23, "[{0 3} {3 6} {6 9} {9 12} {12 15} {15 18} {18 21} {21 23}]"}, {0, 1, "[{0 1}]"}, {22, 23, "[{22 23}]"},
		{9, 8, "[{9 8}]"}, {9, 7, "[{9 7}]"}, {9, 6, "[{9 6}]"}, {9, 5, "[{9 6} {6 5}]"}, {9, 4, "[{9 6} {6 4}]"}, {9, 3, "[{9 6} {6 3}]"}, {9, 2, "[{9 6} {6 3} {3 2}]"}, {23, 0, "[{23 20} {20 17} {17 14} {14 11} {11 8} {8 5} {5 2} {2 0}]"}, {1, 0, "[{1 0}]"}, {3, 0, "[{3 0}]"}, {23, 20, "[{23 20}]"},
	} {
		is(t, fmt.Sprint("PlanMoves ", c.from, c.to), result(impl.PlanMoves(sizes(c.from), sizes(c.to))), "["+c.want+" 0]")
	}
	for from := range int64(24) {
		for to := range int64(24) {
			is(t, fmt.Sprint("code ", from, to), isPlanned(t, sizes(from), sizes(to)), impl.OK)
		}
	}
}

func TestPlansOfSeveralColumns(t *testing.T) {
	for _, c := range []struct {
		from, to []int64
		want     string
	}{
		{nil, nil, "[]"}, {nil, sizes(), "[]"}, {sizes(), nil, "[]"}, {sizes(1, 3, 5), sizes(1, 3, 5), "[]"}, {rising(8), rising(8), "[]"},
		{sizes(1, 3, 5), sizes(3, 5, 7), "[{5 7} {3 5} {1 3}]"}, {sizes(1, 3, 5), sizes(2, 9, 11), "[{5 8} {8 11} {3 6} {6 9} {1 2}]"}, {sizes(3, 5, 7), sizes(1, 3, 5), "[{3 1} {5 3} {7 5}]"}, {sizes(7, 9, 11), sizes(0, 1, 10), "[{7 4} {4 1} {1 0} {9 6} {6 3} {3 1} {11 10}]"},
		{sizes(1, 3, 9), sizes(3, 7, 8), "[{3 6} {6 7} {1 3} {9 8}]"}, {sizes(3, 5, 7), sizes(1, 5, 9), "[{7 9} {3 1}]"}, {sizes(3, 5, 7, 9), sizes(2, 6, 8, 10), "[{9 10} {7 8} {5 6} {3 2}]"}, {sizes(5, 7, 9, 11), sizes(4, 8, 9, 10), "[{7 8} {5 4} {11 10}]"}, {sizes(1, 10, 12, 20), sizes(5, 6, 16, 17), "[{12 15} {15 16} {1 4} {4 5} {10 7} {7 6} {20 17}]"}, {sizes(0, 23), sizes(11, 12), "[{0 3} {3 6} {6 9} {9 11} {23 20} {20 17} {17 14} {14 12}]"},
		{rising(8), sizes(16, 17, 18, 19, 20, 21, 22, 23), ""}, {sizes(16, 17, 18, 19, 20, 21, 22, 23), rising(8), ""}, {sizes(1, 3, 5, 7, 9, 11, 13, 15), sizes(0, 4, 5, 6, 10, 11, 12, 23), ""},
	} {
		is(t, fmt.Sprint("code ", c.from, c.to), isPlanned(t, c.from, c.to), impl.OK)
		if c.want != "" {
			is(t, fmt.Sprint("PlanMoves ", c.from, c.to), result(impl.PlanMoves(c.from, c.to)), "["+c.want+" 0]")
		}
	}
}

// The first one of the columns that are put together stays, goes to the right, and goes to the left; all others come from the right.
func TestPlansOfColumnsThatArePutTogether(t *testing.T) {
	for _, c := range []struct {
		from, to []int64
		want     string
	}{
		{sizes(3, 5), sizes(3, 3), "[{5 3}]"}, {sizes(3, 5), sizes(4, 4), "[{3 4} {5 4}]"}, {sizes(3, 5), sizes(2, 2), "[{3 2} {5 2}]"}, {sizes(3, 4), sizes(3, 3), "[{4 3}]"}, {sizes(3, 4), sizes(0, 0), "[{3 0} {4 1} {1 0}]"}, {sizes(0, 1), sizes(0, 0), "[{1 0}]"}, {sizes(22, 23), sizes(22, 22), "[{23 22}]"}, {sizes(0, 23), sizes(22, 22), ""},
		{sizes(1, 5, 9), sizes(3, 3, 3), "[{1 3} {5 3} {9 6} {6 3}]"}, {sizes(3, 5, 9), sizes(3, 3, 3), "[{5 3} {9 6} {6 3}]"}, {sizes(4, 5, 9), sizes(3, 3, 3), "[{4 3} {5 3} {9 6} {6 3}]"}, {rising(8), make([]int64, 8), ""}, {sizes(1, 9, 10, 11, 12, 13, 14, 15), copiesOf(8, 8), ""},
		{sizes(1, 3, 5, 7), sizes(1, 1, 5, 5), "[{3 1} {7 5}]"}, {sizes(1, 3, 5, 7), sizes(2, 2, 6, 6), "[{5 6} {1 2} {3 2} {7 6}]"}, {sizes(1, 3, 5, 7), sizes(0, 0, 4, 4), "[{1 0} {3 0} {5 4} {7 4}]"}, {sizes(1, 3, 7, 9), sizes(1, 1, 1, 9), "[{3 1} {7 4} {4 1}]"}, {sizes(1, 3, 5, 7), sizes(1, 3, 3, 13), "[{7 10} {10 13} {5 3}]"}, {sizes(1, 3, 5, 7), sizes(0, 3, 3, 3), "[{1 0} {5 3} {7 4} {4 3}]"}, {sizes(1, 3, 5, 7), sizes(1, 1, 2, 2), "[{3 1} {5 2} {7 4} {4 2}]"},
	} {
		is(t, fmt.Sprint("code ", c.from, c.to), isPlanned(t, c.from, c.to), impl.OK)
		if c.want != "" {
			is(t, fmt.Sprint("PlanMoves ", c.from, c.to), result(impl.PlanMoves(c.from, c.to)), "["+c.want+" 0]")
		}
	}
}

// P21, P22: all plans of at most three columns on few needles.
func TestAllPlansOfFewColumns(t *testing.T) {
	codes := map[int64]int{}
	for from := range listsOver(sizes(0, 1, 2, 5, 6, 11), 3) {
		for to := range listsOver(sizes(-1, 0, 1, 3, 5, 6, 10), 3) {
			codes[isPlanned(t, from, to)]++
		}
	}
	is(t, "codes", result(codes[impl.OK] > 1000, codes[impl.ErrPlan] > 200, codes[impl.ErrInvalid] > 1000, len(codes)), "[true true true 3]")
}

// places throws needles of columns.
func (d *dice) places(columns int) []int64 {
	list := []int64{}
	for len(list) < columns {
		if at := d.below(24); !slices.Contains(list, at) {
			list = append(list, at)
		}
	}
	slices.Sort(list)
	return list
}

// targets throws ascending needles; most of those that are equal are to the left of the columns.
func (d *dice) targets(from []int64) []int64 {
	to := []int64{}
	for i := range from {
		at := d.below(24)
		if i > 0 && from[i] > to[i-1] && d.below(2) == 0 {
			at = to[i-1]
		}
		to = append(to, at)
		slices.Sort(to)
	}
	return to
}

func TestManyPlans(t *testing.T) {
	codes, together := map[int64]int{}, 0
	for seed := range 4000 {
		d := dice(seed)
		from := d.places(1 + seed%8)
		to := d.targets(from)
		code := isPlanned(t, from, to)
		codes[code]++
		if code == impl.OK && len(slices.Compact(to)) < len(from) {
			together++
		}
	}
	is(t, "codes", result(codes[impl.OK] > 1000, codes[impl.ErrPlan] > 100, together > 200, len(codes)), "[true true true 2]")
}

// Each part of the table apart, and those behind it together with it.
func TestErrorsOfPlanMoves(t *testing.T) {
	for _, c := range []struct {
		from, to []int64
		code     int64
	}{
		{sizes(1, 3, 3), sizes(1, 2, 3), impl.ErrInvalid}, {sizes(3, 1), sizes(1, 3), impl.ErrInvalid}, {sizes(-1, 3), sizes(1, 3), impl.ErrInvalid}, {sizes(3, 24), sizes(1, 3), impl.ErrInvalid}, {rising(9), rising(9), impl.ErrInvalid}, {sizes(math.MinInt64), sizes(0), impl.ErrInvalid}, {sizes(math.MaxInt64), sizes(0), impl.ErrInvalid},
		{sizes(1), sizes(1, 2), impl.ErrInvalid}, {sizes(1, 2), sizes(1), impl.ErrInvalid}, {nil, sizes(1), impl.ErrInvalid}, {sizes(1), nil, impl.ErrInvalid}, {rising(8), rising(7), impl.ErrInvalid}, {rising(8), rising(9), impl.ErrInvalid}, {nil, make([]int64, 100000), impl.ErrInvalid}, {make([]int64, 100000), make([]int64, 100000), impl.ErrInvalid},
		{sizes(1, 3), sizes(4, 3), impl.ErrInvalid}, {sizes(1, 3, 5), sizes(3, 5, 4), impl.ErrInvalid}, {sizes(1, 3, 5), sizes(3, 2, 4), impl.ErrInvalid}, {sizes(1, 3), sizes(-1, 3), impl.ErrInvalid}, {sizes(1, 3), sizes(3, 24), impl.ErrInvalid}, {sizes(1), sizes(-1), impl.ErrInvalid}, {sizes(1), sizes(24), impl.ErrInvalid}, {sizes(1, 3), sizes(-1, -1), impl.ErrInvalid}, {sizes(1, 3), sizes(24, 24), impl.ErrInvalid},
		{sizes(1), sizes(math.MinInt64), impl.ErrInvalid}, {sizes(1), sizes(math.MaxInt64), impl.ErrInvalid}, {sizes(1, 3), sizes(1, math.MaxInt64), impl.ErrInvalid}, {sizes(1, 3), sizes(math.MinInt64, 3), impl.ErrInvalid}, {sizes(1, 3), sizes(math.MaxInt64, math.MinInt64), impl.ErrInvalid}, {sizes(1), sizes(1<<32 + 1), impl.ErrInvalid},
		{sizes(3, 5), sizes(5, 5), impl.ErrPlan}, {sizes(3, 5), sizes(6, 6), impl.ErrPlan}, {sizes(3, 5), sizes(23, 23), impl.ErrPlan}, {sizes(0, 1), sizes(1, 1), impl.ErrPlan}, {sizes(1, 3, 5, 7), sizes(1, 5, 5, 13), impl.ErrPlan}, {sizes(1, 5, 9), sizes(5, 5, 5), impl.ErrPlan}, {sizes(1, 5, 9), sizes(9, 9, 9), impl.ErrPlan}, {sizes(1, 5, 9), sizes(1, 9, 9), impl.ErrPlan}, {sizes(1, 5, 9), sizes(5, 5, 9), impl.ErrPlan}, {sizes(1, 3, 5, 7), sizes(0, 0, 8, 8), impl.ErrPlan}, {sizes(1, 3, 5, 7), sizes(4, 4, 5, 5), impl.ErrPlan}, {sizes(1, 3, 5, 23), sizes(4, 4, 4, 4), impl.ErrPlan}, {sizes(1, 5, 6, 7), sizes(6, 6, 6, 6), impl.ErrPlan},
		{sizes(3, 5, 5), sizes(5, 5, 5), impl.ErrInvalid}, {sizes(3, 5), sizes(5, 5, 5), impl.ErrInvalid}, {sizes(3, 5, 7), sizes(5, 5), impl.ErrInvalid}, {sizes(3, 5, 7), sizes(5, 5, 4), impl.ErrInvalid}, {sizes(3, 5, 7), sizes(5, 5, 24), impl.ErrInvalid}, {sizes(3, 5, 7), sizes(-1, 5, 5), impl.ErrInvalid}, {sizes(3, 5, 24), sizes(5, 5, 5), impl.ErrInvalid}, {rising(9), copiesOf(8, 9), impl.ErrInvalid},
		{sizes(3, 5), sizes(4, 4), impl.OK}, {sizes(4, 5), sizes(4, 4), impl.OK}, {sizes(0, 1), sizes(0, 0), impl.OK}, {sizes(0, 23), sizes(0, 23), impl.OK},
	} {
		name := fmt.Sprint(c.from[:min(len(c.from), 9)], c.to[:min(len(c.to), 9)])
		is(t, "by hand "+name, isPlanned(t, c.from, c.to), c.code)
		moves, code := impl.PlanMoves(c.from, c.to)
		ops, opsCode := impl.MoveColumns(c.from, c.to)
		is(t, "codes "+name, result(code, opsCode), result(c.code, c.code))
		is(t, "nothing "+name, result(len(moves) > 0, len(ops) > 0), result(c.code == impl.OK && !slices.Equal(c.from, c.to), c.code == impl.OK && !slices.Equal(c.from, c.to)))
	}
}

func TestApplyMove(t *testing.T) {
	for _, c := range []struct {
		list []int64
		m    impl.Move
		want []int64
		code int64
	}{
		{sizes(1, 5, 9), move(5, 7), sizes(1, 7, 9), impl.OK}, {sizes(1, 5, 9), move(5, 8), sizes(1, 8, 9), impl.OK}, {sizes(1, 5, 9), move(5, 2), sizes(1, 2, 9), impl.OK}, {sizes(1, 5, 9), move(1, 0), sizes(0, 5, 9), impl.OK}, {sizes(1, 5, 9), move(9, 12), sizes(1, 5, 12), impl.OK}, {sizes(4), move(4, 5), sizes(5), impl.OK}, {sizes(4), move(4, 1), sizes(1), impl.OK}, {sizes(20), move(20, 23), sizes(23), impl.OK}, {sizes(3), move(3, 0), sizes(0), impl.OK},
		{sizes(1, 5, 7), move(7, 5), sizes(1, 5), impl.OK}, {sizes(1, 5, 7), move(5, 2), sizes(1, 2, 7), impl.OK}, {sizes(1, 4, 7), move(4, 1), sizes(1, 7), impl.OK}, {sizes(0, 1), move(1, 0), sizes(0), impl.OK}, {rising(8), move(7, 6), rising(7), impl.OK}, {rising(8), move(1, 0), sizes(0, 2, 3, 4, 5, 6, 7), impl.OK},
		{sizes(1, 5, 7), move(5, 7), nil, impl.ErrPlan}, {sizes(1, 5, 7), move(5, 8), nil, impl.ErrPlan}, {sizes(1, 5, 7), move(5, 6), sizes(1, 6, 7), impl.OK}, {sizes(1, 5, 6), move(5, 6), nil, impl.ErrPlan}, {sizes(1, 5, 6), move(5, 8), nil, impl.ErrPlan}, {sizes(2, 5), move(2, 5), nil, impl.ErrPlan},
		{sizes(1, 5, 7), move(7, 4), nil, impl.ErrPlan}, {sizes(1, 5, 6), move(6, 4), nil, impl.ErrPlan}, {sizes(1, 5, 6), move(6, 3), nil, impl.ErrPlan}, {sizes(1, 4, 6), move(6, 3), nil, impl.ErrPlan}, {sizes(1, 3, 6), move(6, 3), sizes(1, 3), impl.OK}, {sizes(3, 5, 6), move(6, 3), nil, impl.ErrPlan}, {sizes(0, 1, 2), move(2, 0), nil, impl.ErrPlan},
		{sizes(1, 5), move(2, 4), nil, impl.ErrEmpty}, {nil, move(2, 4), nil, impl.ErrEmpty}, {sizes(1, 5), move(0, 1), nil, impl.ErrEmpty}, {sizes(1, 5), move(6, 5), nil, impl.ErrEmpty}, {sizes(1, 5), move(4, 5), nil, impl.ErrEmpty}, {sizes(1, 5), move(4, 7), nil, impl.ErrEmpty}, {sizes(1, 5), move(6, 4), nil, impl.ErrEmpty}, {sizes(1, 5, 7), move(8, 6), nil, impl.ErrEmpty},
		{sizes(1, 5), move(1, 5), nil, impl.ErrInvalid}, {sizes(1, 5), move(5, 1), nil, impl.ErrInvalid}, {sizes(1, 5), move(1, 1), nil, impl.ErrInvalid}, {sizes(1, 5), move(2, 2), nil, impl.ErrInvalid}, {sizes(1, 5), move(2, 6), nil, impl.ErrInvalid}, {sizes(1, 5), move(1, -1), nil, impl.ErrInvalid}, {sizes(1, 23), move(23, 24), nil, impl.ErrInvalid}, {sizes(1, 5), move(-1, 0), nil, impl.ErrInvalid}, {sizes(1, 5), move(24, 23), nil, impl.ErrInvalid},
		{sizes(5, 1), move(1, 2), nil, impl.ErrInvalid}, {sizes(1, 1), move(1, 2), nil, impl.ErrInvalid}, {sizes(1, 24), move(1, 2), nil, impl.ErrInvalid}, {sizes(-1, 1), move(1, 2), nil, impl.ErrInvalid}, {rising(9), move(8, 9), nil, impl.ErrInvalid}, {sizes(1, 1), move(2, 4), nil, impl.ErrInvalid}, {sizes(1, 2, 2), move(1, 3), nil, impl.ErrInvalid}, {sizes(1, 3, 24), move(1, 3), nil, impl.ErrInvalid},
	} {
		is(t, fmt.Sprint("ApplyMove ", c.list, c.m), result(impl.ApplyMove(c.list, c.m)), result(c.want, c.code))
		is(t, "by hand", isApplied(t, c.list, c.m), c.code)
	}
}

func TestManyMoves(t *testing.T) {
	codes := map[int64]int{}
	for list := range listsOver(sizes(-1, 0, 1, 3, 4, 7, 22, 23, 24), 3) {
		for from := int64(-1); from <= 8; from++ {
			for to := from - 4; to <= from+4; to++ {
				codes[isApplied(t, list, move(from, to))]++
			}
		}
		for _, m := range []impl.Move{move(22, 23), move(23, 22), move(23, 24), move(24, 23), move(21, 23), move(23, 20)} {
			codes[isApplied(t, list, m)]++
		}
	}
	is(t, "codes", result(codes[impl.OK] > 500, codes[impl.ErrPlan] > 50, codes[impl.ErrEmpty] > 500, codes[impl.ErrInvalid] > 1000, len(codes)), "[true true true true 4]")
}

// notMoves are moves that are not valid, each for one reason, and some with numbers whose difference is no int64.
func notMoves() []impl.Move {
	list := []impl.Move{{}, move(5, 5), move(23, 23), move(0, 4), move(4, 0), move(19, 23), move(23, 19), move(0, 23), move(-1, 0), move(0, -1), move(-1, 1), move(24, 23), move(23, 24), move(22, 25), move(-2, -1), move(24, 25)}
	extremes := sizes(math.MinInt64, math.MinInt64+1, math.MinInt64+2, -1<<62, 1<<62, 1<<32, 1<<32+1, math.MaxInt64-2, math.MaxInt64-1, math.MaxInt64)
	for _, a := range extremes {
		list = append(list, move(a, 0), move(a, 1), move(0, a), move(23, a))
		for _, b := range extremes {
			list = append(list, move(a, b))
		}
	}
	return list
}

// isMoved checks the operations and the length of a single move.
func isMoved(t *testing.T, m impl.Move) bool {
	t.Helper()
	ops, code := impl.MoveOps(m)
	if !isMoveByHand(m) {
		is(t, fmt.Sprint("MoveOps ", m), result(ops, code), "[[] 1]")
		is(t, fmt.Sprint("MoveLength ", m), result(impl.MoveLength([]impl.Move{m}), impl.MoveLength([]impl.Move{move(1, 2), m}), impl.MoveLength([]impl.Move{m, move(1, 2)})), "[-1 -1 -1]")
		is(t, fmt.Sprint("ApplyMove ", m), result(impl.ApplyMove(sizes(0, 4, 5, 23), m)), "[[] 1]")
		return false
	}
	is(t, fmt.Sprint("MoveOps ", m), result(ops, code), result(moveOpsByHand(t, m), impl.OK))
	is(t, fmt.Sprint("MoveLength ", m), impl.MoveLength([]impl.Move{m}), max(m.To-m.From, m.From-m.To))
	return true
}

func TestOperationsOfMoves(t *testing.T) {
	ops, code := impl.MoveOps(move(5, 3))
	is(t, "to the left", result(ops, code), result([]impl.Op{xferOp(onFront(5), onBack(5)), rackOp(-2), xferOp(onBack(5), onFront(3)), rackOp(0)}, impl.OK))
	ops, code = impl.MoveOps(move(0, 3))
	is(t, "to the right", result(ops, code), result([]impl.Op{xferOp(onFront(0), onBack(0)), rackOp(3), xferOp(onBack(0), onFront(3)), rackOp(0)}, impl.OK))
	valid := 0
	for from := int64(-5); from <= 28; from++ {
		for to := int64(-5); to <= 28; to++ {
			if isMoved(t, move(from, to)) {
				valid++
			}
		}
	}
	is(t, "valid moves", valid, 2*(23+22+21))
	for _, m := range notMoves() {
		is(t, fmt.Sprint("no move ", m), isMoved(t, m), false)
	}
}

func TestMoveLengths(t *testing.T) {
	for _, c := range []struct {
		list []impl.Move
		want int64
	}{
		{nil, 0}, {[]impl.Move{}, 0}, {[]impl.Move{move(1, 2)}, 1}, {[]impl.Move{move(2, 1)}, 1}, {[]impl.Move{move(1, 3)}, 2}, {[]impl.Move{move(3, 1)}, 2}, {[]impl.Move{move(1, 4)}, 3}, {[]impl.Move{move(4, 1)}, 3}, {[]impl.Move{move(0, 3), move(23, 20)}, 6}, {[]impl.Move{move(1, 2), move(2, 1), move(1, 2)}, 3}, {[]impl.Move{move(5, 7), move(9, 6), move(3, 2)}, 6}, {slices.Repeat([]impl.Move{move(20, 23)}, 100000), 300000},
		{[]impl.Move{{}}, -1}, {[]impl.Move{move(1, 5)}, -1}, {[]impl.Move{move(1, 5), move(1, 2)}, -1}, {[]impl.Move{move(1, 2), move(1, 5)}, -1}, {[]impl.Move{move(1, 2), move(3, 3), move(2, 1)}, -1}, {append(slices.Repeat([]impl.Move{move(20, 23)}, 1000), move(23, 24)), -1}, {[]impl.Move{move(1, 5), move(5, 1)}, -1}, {[]impl.Move{move(-1, 1)}, -1},
	} {
		is(t, fmt.Sprint("MoveLength ", len(c.list), c.want), impl.MoveLength(c.list), c.want)
	}
}

func TestPlacedColumns(t *testing.T) {
	ops, code := impl.PlaceColumns(sizes(3, 5), 2)
	is(t, "two columns", result(ops, code), result([]impl.Op{inOp(impl.DrRight, 2), knitOp(impl.DrRight, onFront(3), 2), knitOp(impl.DrRight, onFront(5), 2)}, impl.OK))
	for carrier := int64(1); carrier <= 4; carrier++ {
		for _, list := range [][]int64{nil, sizes(0), sizes(23), sizes(0, 23), sizes(1, 2, 3), rising(8), sizes(16, 17, 18, 19, 20, 21, 22, 23), sizes(1, 3, 5, 7, 9, 11, 13, 15)} {
			text := fmt.Sprintf("in > %d\n", carrier)
			for _, at := range list {
				text += fmt.Sprintf("knit > f%d %d\n", at, carrier)
			}
			ops, code := impl.PlaceColumns(list, carrier)
			is(t, fmt.Sprint("PlaceColumns ", list, carrier), result(ops, code), result(readOps(t, text), impl.OK))
			m := machineAfter(t, 24, ops)
			is(t, fmt.Sprint("loops on ", list), result(m.Rack, len(m.Loops), slices.Concat(m.Front...), len(slices.Concat(m.Back...))), result(0, len(list), rising(len(list)), 0))
			for column, at := range list {
				is(t, fmt.Sprint("loop of ", list), result(m.Front[at], m.Loops[column].Carrier, m.Loops[column].Dir, len(m.Loops[column].Parents)), result(sizes(int64(column)), carrier, 1, 0))
			}
		}
	}
	none, code := impl.PlaceColumns(nil, 1)
	is(t, "no columns", result(none, code), result([]impl.Op{inOp(impl.DrRight, 1)}, impl.OK))
}

func TestErrorsOfPlaceColumns(t *testing.T) {
	for _, list := range [][]int64{sizes(-1), sizes(24), sizes(1, 1), sizes(2, 1), rising(9), make([]int64, 1000), sizes(math.MinInt64), sizes(math.MaxInt64), sizes(1, 3, 2), sizes(1, 24)} {
		for _, carrier := range sizes(1, 4, 0, 5, math.MinInt64, math.MaxInt64) {
			is(t, fmt.Sprint("PlaceColumns ", len(list), carrier), result(impl.PlaceColumns(list, carrier)), "[[] 1]")
		}
	}
	for _, list := range [][]int64{nil, sizes(0), sizes(3, 5), rising(8)} {
		for _, carrier := range sizes(math.MinInt64, -1, 0, 5, 6, 1<<32, 1<<32+1, math.MaxInt64) {
			is(t, fmt.Sprint("PlaceColumns ", list, carrier), result(impl.PlaceColumns(list, carrier)), "[[] 1]")
		}
	}
}

// machineWithColumns hangs columns of so many loops on front needles, with the Rack 0 and an empty back bed.
func machineWithColumns(t *testing.T, places, loops []int64) impl.Machine {
	t.Helper()
	ops := []impl.Op{}
	for i, at := range places {
		ops = append(ops, stackOps(onFront(at), int(loops[i]))...)
	}
	return machineAfter(t, 24, ops)
}

// eventsOfOps executes operations one by one, and counts the events of each. It stops where one fails.
func eventsOfOps(t *testing.T, m impl.Machine, ops []impl.Op) (impl.Machine, int, int64) {
	t.Helper()
	count := 0
	for _, o := range ops {
		list, code := impl.OpEvents(m, o)
		if code != impl.OK {
			return m, count, code
		}
		count += len(list)
		m = stepOf(t, m, o)
	}
	return m, count, impl.OK
}

// isMovedWithoutCrossings executes MoveColumns, and checks that there are no events, that the order of all loops stays, and that the columns are where they are to be.
func isMovedWithoutCrossings(t *testing.T, from, to, loops []int64) {
	t.Helper()
	name := fmt.Sprint("columns ", loops, " from ", from, " to ", to)
	m := machineWithColumns(t, from, loops)
	ops, code := impl.MoveColumns(from, to)
	is(t, "operations of "+name, code, impl.OK)
	after, events, code := eventsOfOps(t, m, ops)
	is(t, "events of "+name, result(events, code), "[0 0]")
	want := make([][]int64, 24)
	next := int64(0)
	for i, at := range to {
		for range loops[i] {
			want[at] = append(want[at], next)
			next++
		}
	}
	is(t, "places of "+name, result(after.Front, after.Rack, len(slices.Concat(after.Back...)), after.Carriers), result(want, 0, 0, m.Carriers))
	is(t, "order of "+name, liveByHand(after), rising(int(next)))
	is(t, "loops of "+name, len(after.Loops), next)
}

// P22: columns of several loops, at most MaxStack of them together.
func TestColumnsAreMovedWithoutCrossings(t *testing.T) {
	for _, c := range []struct{ from, to, loops []int64 }{
		{sizes(3, 5), sizes(3, 3), sizes(1, 1)}, {sizes(3, 5), sizes(3, 3), sizes(3, 1)}, {sizes(3, 5), sizes(2, 2), sizes(1, 3)}, {sizes(3, 5), sizes(4, 4), sizes(2, 2)}, {sizes(1, 5, 9), sizes(3, 3, 3), sizes(1, 2, 1)}, {sizes(1, 5, 9, 20), copiesOf(3, 4), copiesOf(1, 4)}, {sizes(0), sizes(23), sizes(4)}, {sizes(23), sizes(0), sizes(4)},
		{rising(8), sizes(16, 17, 18, 19, 20, 21, 22, 23), copiesOf(4, 8)}, {sizes(16, 17, 18, 19, 20, 21, 22, 23), rising(8), copiesOf(4, 8)}, {rising(8), sizes(0, 0, 2, 2, 4, 4, 6, 6), copiesOf(2, 8)}, {rising(8), sizes(0, 0, 0, 0, 1, 1, 1, 1), copiesOf(1, 8)}, {sizes(0, 23), sizes(11, 12), sizes(4, 4)}, {sizes(1, 3, 9), sizes(3, 7, 8), sizes(2, 4, 3)}, {sizes(1, 3, 5, 7), sizes(0, 4, 4, 23), sizes(4, 3, 1, 4)},
	} {
		isMovedWithoutCrossings(t, c.from, c.to, c.loops)
	}
	moved := 0
	for seed := range 600 {
		d := dice(seed)
		from := d.places(1 + seed%8)
		to, loops, sum := d.targets(from), []int64{}, map[int64]int64{}
		for _, at := range to {
			n := min(1+d.below(4), 4-sum[at])
			loops = append(loops, n)
			sum[at] += n
		}
		if planCodeByHand(from, to) == impl.OK && !slices.Contains(loops, 0) {
			isMovedWithoutCrossings(t, from, to, loops)
			moved++
		}
	}
	is(t, "enough plans", moved > 100, true)
}

// P22: PlaceColumns and MoveColumns together are a program whose trace has only the stitches of PlaceColumns.
func TestTracesOfMovedColumns(t *testing.T) {
	traces := 0
	for seed := range 1200 {
		d := dice(seed)
		from := d.places(1 + seed%8)
		to := d.targets(from)
		if planCodeByHand(from, to) != impl.OK {
			continue
		}
		start, _ := impl.PlaceColumns(from, 1+int64(seed%4))
		ops, _ := impl.MoveColumns(from, to)
		want, _ := impl.TraceOf(24, start)
		trace, code := impl.TraceOf(24, slices.Concat(start, ops))
		if slices.Max(frequencies(to)) > 4 {
			is(t, fmt.Sprint("too many loops of ", from, to), result(trace, code), "[[] 5]")
			continue
		}
		is(t, fmt.Sprint("trace of ", from, to), result(trace, code), result(want, impl.OK))
		is(t, "stitches", len(trace), len(from))
		traces++
	}
	is(t, "enough traces", traces > 300, true)
}

func frequencies(list []int64) []int {
	counts := make([]int, 24)
	for _, x := range list {
		counts[x]++
	}
	return counts
}

// A column is passed exactly if the operations of the move have events.
func TestPassedColumnsAreCrossed(t *testing.T) {
	passed, fine := 0, 0
	for seed := range 160 {
		d := dice(seed)
		list := d.places(2 + seed%7)
		m := machineWithColumns(t, list, copiesOf(1, len(list)))
		for _, from := range list {
			for to := max(from-3, 0); to <= min(from+3, 23); to++ {
				if from == to {
					continue
				}
				ops, _ := impl.MoveOps(move(from, to))
				after, events, code := eventsOfOps(t, m, ops)
				places, got := impl.ApplyMove(list, move(from, to))
				name := fmt.Sprint("move of ", list, from, to)
				is(t, name, result(code, got == impl.OK), result(impl.OK, events == 0))
				if got != impl.OK {
					is(t, name, got, impl.ErrPlan)
					passed++
					continue
				}
				fine++
				for at, loops := range after.Front {
					is(t, fmt.Sprint(name, " needle ", at), len(loops) > 0, slices.Contains(places, int64(at)))
				}
			}
		}
	}
	is(t, "enough moves", result(passed > 200, fine > 200), "[true true]")
}

// One list may be the needles before and after, and the results are no part of it.
func TestMovesThatShareMemory(t *testing.T) {
	memory := sizes(1, 3, 5, 7, 9)
	list := memory[:3]
	is(t, "one list", result(impl.PlanMoves(list, list)), "[[] 0]")
	is(t, "parts of one list", result(impl.PlanMoves(memory[1:4], list)), "[[{3 1} {5 3} {7 5}] 0]")
	for _, m := range []impl.Move{move(5, 6), move(3, 1), move(1, 0)} {
		places, code := impl.ApplyMove(list, m)
		is(t, "code", code, impl.OK)
		scribble(result(places))
	}
	moves := []impl.Move{move(1, 2), move(5, 3), move(9, 9)}
	is(t, "lengths", result(impl.MoveLength(moves[:2]), impl.MoveLength(moves)), "[3 -1]")
	is(t, "memory", result(memory, moves), "[[1 3 5 7 9] [{1 2} {5 3} {9 9}]]")
}
