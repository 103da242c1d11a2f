package tests

import (
	"fmt"
	"math"
	"slices"
	"strings"
	"testing"

	"loop.example/g00856/impl"
)

// opsOf reads operations that are separated by commas.
func opsOf(t *testing.T, text string) []impl.Op {
	t.Helper()
	var ops []impl.Op
	for _, part := range strings.Split(text, ", ") {
		if part == "" {
			continue
		}
		o, ok := opsByText()[part]
		is(t, part, ok, true)
		ops = append(ops, o)
	}
	return ops
}

func opPlaceByHand(rack int64, o impl.Op) int64 { return o.From.At + rack*(o.From.Bed-1) }

// isOnePassByHand reports whether operations can be a pass: any two of them fit together.
func isOnePassByHand(rack int64, ops []impl.Op) bool {
	kinds := map[int64]int64{1: 1, 2: 1, 3: 1, 5: 1, 4: 2, 6: 3}
	for i, b := range ops {
		if kinds[b.Kind] == 0 {
			return false
		}
		for _, a := range ops[:i] {
			if kinds[a.Kind] != kinds[b.Kind] || a.Dir != b.Dir || a.Carrier != b.Carrier || opPlaceByHand(rack, b)*b.Dir <= opPlaceByHand(rack, a)*b.Dir && b.Dir != 0 {
				return false
			}
		}
	}
	return true
}

// passesByHand looks for the longest pass from each operation on that is in no pass before.
func passesByHand(ops []impl.Op) []impl.Pass {
	list := []impl.Pass{}
	rack, first := int64(0), 0
	for first < len(ops) {
		end := first
		for end < len(ops) && isOnePassByHand(rack, ops[first:end+1]) {
			end++
		}
		o := ops[first]
		if o.Kind == impl.OpRack {
			rack = o.Rack
		}
		if end == first {
			first++
			continue
		}
		kind := map[int64]int64{4: 2, 6: 3}[o.Kind]
		list = append(list, impl.Pass{Kind: max(kind, 1), Dir: o.Dir, Carrier: o.Carrier, Rack: rack, First: int64(first), Count: int64(end - first)})
		first = end
	}
	return list
}

func passTextByHand(p impl.Pass) string {
	head := map[int64]string{1: fmt.Sprintf("yarn %s %d", dirTextByHand(p.Dir), p.Carrier), 2: "xfer", 3: "drop"}[p.Kind]
	return fmt.Sprintf("%s rack %d ops %d to %d", head, p.Rack, p.First, p.First+p.Count-1)
}

// isPassByHand reads the table of passes.
func isPassByHand(p impl.Pass) bool {
	yarn := p.Kind == 1 && (p.Dir == 1 || p.Dir == -1) && p.Carrier >= 1 && p.Carrier <= 4
	other := (p.Kind == 2 || p.Kind == 3) && p.Dir == 0 && p.Carrier == 0
	return (yarn || other) && p.Rack >= -3 && p.Rack <= 3 && p.First >= 0 && p.First <= 1499 && p.Count >= 1 && p.Count <= 1500-p.First
}

func TestPassConstants(t *testing.T) {
	is(t, "kinds", result(impl.PsYarn, impl.PsXfer, impl.PsDrop), "[1 2 3]")
}

// havePasses compares the passes of operations with their texts, separated by commas.
func havePasses(t *testing.T, text, want string) {
	t.Helper()
	ops := opsOf(t, text)
	list, code := impl.PassesOf(ops)
	texts := []string{}
	for _, p := range list {
		texts = append(texts, impl.PassText(p))
		is(t, "ValidPass of a pass", impl.ValidPass(p), true)
	}
	is(t, "passes of "+text, result(strings.Join(texts, ", "), code), result(want, impl.OK))
	is(t, "by hand", list, passesByHand(ops))
	is(t, "CountPasses", impl.CountPasses(ops), len(list))
}

func TestPasses(t *testing.T) {
	havePasses(t, "", "")
	havePasses(t, "knit > f0 1, knit > f2 1, knit > f1 1", "yarn > 1 rack 0 ops 0 to 1, yarn > 1 rack 0 ops 2 to 2")
	havePasses(t, "knit > f0 1", "yarn > 1 rack 0 ops 0 to 0")
	havePasses(t, "in > 1, knit > f0 1", "yarn > 1 rack 0 ops 1 to 1")
	havePasses(t, "rack 1, in > 1, out 1", "")
	havePasses(t, "knit > f0 2, tuck > b1 2, miss > f2 2, split > b3 f23 2", "yarn > 2 rack 0 ops 0 to 3")
	havePasses(t, "split < f3 b0 2, miss < b2 2, tuck < f1 2, knit < b0 2", "yarn < 2 rack 0 ops 0 to 3")
	havePasses(t, "xfer f5 b5, xfer f1 b1, xfer b3 f3, xfer b3 f0", "xfer rack 0 ops 0 to 3")
	havePasses(t, "drop f5, drop b1, drop f5, drop f0", "drop rack 0 ops 0 to 3")
	havePasses(t, "rack -3, drop f5, in < 1, drop b1", "drop rack -3 ops 1 to 1, drop rack -3 ops 3 to 3")
}

func TestPassesEndAtOtherOperations(t *testing.T) {
	havePasses(t, "knit > f0 1, knit < f1 1", "yarn > 1 rack 0 ops 0 to 0, yarn < 1 rack 0 ops 1 to 1")
	havePasses(t, "knit > f1 1, knit < f0 1", "yarn > 1 rack 0 ops 0 to 0, yarn < 1 rack 0 ops 1 to 1")
	havePasses(t, "knit > f0 1, knit > f1 2", "yarn > 1 rack 0 ops 0 to 0, yarn > 2 rack 0 ops 1 to 1")
	havePasses(t, "knit > f0 1, xfer f1 b1, drop b2, knit > f3 1", "yarn > 1 rack 0 ops 0 to 0, xfer rack 0 ops 1 to 1, drop rack 0 ops 2 to 2, yarn > 1 rack 0 ops 3 to 3")
	havePasses(t, "drop f0, xfer f1 b1, drop f2", "drop rack 0 ops 0 to 0, xfer rack 0 ops 1 to 1, drop rack 0 ops 2 to 2")
	for _, between := range []string{"rack 0", "in > 3", "in < 1", "out 1", "out 4", "rack 0, rack 0"} {
		n := strings.Count(between, ",") + 2
		havePasses(t, "knit > f0 1, "+between+", knit > f1 1", fmt.Sprintf("yarn > 1 rack 0 ops 0 to 0, yarn > 1 rack 0 ops %d to %d", n, n))
		havePasses(t, "xfer f0 b0, "+between+", xfer f1 b1", fmt.Sprintf("xfer rack 0 ops 0 to 0, xfer rack 0 ops %d to %d", n, n))
		havePasses(t, "drop f0, "+between+", drop f1", fmt.Sprintf("drop rack 0 ops 0 to 0, drop rack 0 ops %d to %d", n, n))
		havePasses(t, "drop f0, "+between, "drop rack 0 ops 0 to 0")
	}
	havePasses(t, "xfer f0 b0, rack 2, xfer f2 b0, rack -1, rack 1, xfer f1 b0", "xfer rack 0 ops 0 to 0, xfer rack 2 ops 2 to 2, xfer rack 1 ops 5 to 5")
}

// Places that are equal, one further and one back, on all beds and with all racks.
func TestPlacesOfPasses(t *testing.T) {
	one, two := "yarn %s 1 rack %d ops 1 to 2", "yarn %s 1 rack %d ops 1 to 1, yarn %s 1 rack %d ops 2 to 2"
	for rack := int64(-3); rack <= 3; rack++ {
		for _, beds := range []string{"ff", "fb", "bf", "bb"} {
			for step := int64(-2); step <= 2; step++ {
				needleAt := func(bed byte, place int64) string {
					if bed == 'b' {
						place -= rack
					}
					return fmt.Sprintf("%c%d", bed, place)
				}
				first, second := needleAt(beds[0], 10), needleAt(beds[1], 10+step)
				for dir, sign := range map[string]int64{">": 1, "<": -1} {
					want := fmt.Sprintf(two, dir, rack, dir, rack)
					if step*sign > 0 {
						want = fmt.Sprintf(one, dir, rack)
					}
					havePasses(t, fmt.Sprintf("rack %d, knit %s %s 1, tuck %s %s 1", rack, dir, first, dir, second), want)
				}
			}
		}
	}
	havePasses(t, "rack 3, knit > b0 1, knit > f3 1", "yarn > 1 rack 3 ops 1 to 1, yarn > 1 rack 3 ops 2 to 2")
	havePasses(t, "rack -3, knit > b0 1, knit > b2 1, knit > f0 1, knit > b4 1", "yarn > 1 rack -3 ops 1 to 4")
	havePasses(t, "split > f1 b1 1, split > f2 b0 1, knit > b3 1", "yarn > 1 rack 0 ops 0 to 2")
	havePasses(t, "knit > f1 1, knit > f2 1, knit > f2 1, knit > f3 1", "yarn > 1 rack 0 ops 0 to 1, yarn > 1 rack 0 ops 2 to 3")
	havePasses(t, "knit < f3 1, knit < f1 1, knit < f2 1, knit < f0 1", "yarn < 1 rack 0 ops 0 to 1, yarn < 1 rack 0 ops 2 to 3")
}

// carriageOps throws operations of all kinds that often go on in one direction, with a rack now and then.
func (d *dice) carriageOps(count int) []impl.Op {
	var list []impl.Op
	o, rack := knitOp(1, onFront(0), 1), int64(0)
	for len(list) < count {
		n := d.needle(24)
		switch roll := d.below(40); {
		case roll < 16:
			o = yarnOp(1+d.below(3), o.Dir, onFront((o.From.At+24+o.Dir)%24), o.Carrier)
		case roll < 20:
			o = yarnOp(1+d.below(3), o.Dir, onBack((o.From.At+24+o.Dir-d.below(3)*rack)%24), o.Carrier)
		case roll < 22:
			o = yarnOp(impl.OpMiss, -o.Dir, n, o.Carrier)
		case roll < 23:
			o = yarnOp(impl.OpTuck, o.Dir, n, 1+d.below(2))
		}
		next := o
		switch roll := d.below(40); {
		case roll < 2:
			next = xferOp(n, impl.Needle{Bed: 3 - n.Bed, At: d.below(24)})
		case roll < 4:
			next = dropOp(n)
		case roll < 5:
			next = splitOp(o.Dir, o.From, impl.Needle{Bed: 3 - o.From.Bed, At: d.below(24)}, o.Carrier)
		case roll < 6:
			rack = d.below(7) - 3
			next = rackOp(rack)
		case roll < 7:
			next = outOp(2)
		}
		if isOpByHand(next) {
			list = append(list, next)
			if d.below(8) == 0 {
				list = append(list, next)
			}
		} else {
			o = knitOp(1, onFront(0), 1)
		}
	}
	return list[:count]
}

// manyOps are lists of valid operations, short and long.
func manyOps() [][]impl.Op {
	list := [][]impl.Op{nil, someOps()}
	for seed := range 80 {
		d := dice(seed)
		list = append(list, d.carriageOps(seed*2), d.ops(1+d.below(24), seed))
	}
	d := dice(1)
	return append(list, d.carriageOps(1500))
}

func TestPassesOfManyOperations(t *testing.T) {
	counts := map[int64]int{}
	for _, ops := range manyOps() {
		want := passesByHand(ops)
		is(t, "PassesOf", result(impl.PassesOf(ops)), result(want, impl.OK))
		is(t, "CountPasses", impl.CountPasses(ops), len(want))
		for _, p := range want {
			is(t, "PassText", impl.PassText(p), passTextByHand(p))
			counts[p.Kind*100+min(p.Count, 4)]++
		}
	}
	for _, kind := range []int64{impl.PsYarn, impl.PsXfer, impl.PsDrop} {
		is(t, fmt.Sprint("long and short passes of the kind ", kind), counts[kind*100+1] > 20 && counts[kind*100+2] > 20, true)
	}
	is(t, "passes of many operations", counts[104] > 100, true)
}

// P10: every operation of the carriage belongs to exactly one pass.
func TestEveryOperationIsInOnePass(t *testing.T) {
	for _, ops := range manyOps() {
		list, _ := impl.PassesOf(ops)
		for k, o := range ops {
			found := []impl.Pass{}
			for _, p := range list {
				if int64(k) >= p.First && int64(k) < p.First+p.Count {
					found = append(found, p)
				}
			}
			inNone := o.Kind == impl.OpRack || o.Kind == impl.OpIn || o.Kind == impl.OpOut
			is(t, "number of passes", len(found) == 1, !inNone)
			want := result(impl.Pass{}, impl.ErrNotFound)
			if len(found) == 1 {
				want = result(found[0], impl.OK)
			}
			is(t, fmt.Sprint("PassOf ", k), result(impl.PassOf(ops, int64(k))), want)
		}
		for _, k := range []int64{math.MinInt64, -1, int64(len(ops)), int64(len(ops)) + 1, math.MaxInt64} {
			is(t, fmt.Sprint("PassOf ", k), result(impl.PassOf(ops, k)), result(impl.Pass{}, impl.ErrRange))
		}
	}
}

func TestPassOf(t *testing.T) {
	ops := opsOf(t, "in > 1, knit > f0 1, knit > f1 1, rack 1, xfer b0 f1, out 1, drop f1")
	for k, want := range []string{"", "yarn > 1 rack 0 ops 1 to 2", "yarn > 1 rack 0 ops 1 to 2", "", "xfer rack 1 ops 4 to 4", "", "drop rack 1 ops 6 to 6"} {
		p, code := impl.PassOf(ops, int64(k))
		wantCode := int64(impl.OK)
		if want == "" {
			wantCode = impl.ErrNotFound
		}
		is(t, fmt.Sprint("PassOf ", k), result(impl.PassText(p), code, p == impl.Pass{}), result(want, wantCode, want == ""))
	}
	is(t, "the last operation and one more", result(impl.PassOf(ops[:3], 2)), "[{1 1 1 0 1 2} 0]")
	is(t, "one more", result(impl.PassOf(ops[:3], 3)), result(impl.Pass{}, impl.ErrRange))
	is(t, "negative", result(impl.PassOf(ops, -1)), result(impl.Pass{}, impl.ErrRange))
	is(t, "no operations", result(impl.PassOf(nil, 0)), result(impl.Pass{}, impl.ErrRange))
}

func TestPassesOfMaxOpsOperations(t *testing.T) {
	drops := slices.Repeat([]impl.Op{dropOp(onFront(3))}, 1500)
	whole := impl.Pass{Kind: impl.PsDrop, Count: 1500}
	is(t, "one pass", result(impl.PassesOf(drops)), result([]impl.Pass{whole}, impl.OK))
	is(t, "its text", result(impl.ValidPass(whole), impl.PassText(whole)), "[true drop rack 0 ops 0 to 1499]")
	is(t, "its last operation", result(impl.PassOf(drops, 1499)), result(whole, impl.OK))
	is(t, "its span", result(impl.SpanOf(drops, whole)), "[3 3 0]")
	knits := slices.Repeat([]impl.Op{knitOp(1, onFront(3), 1)}, 1500)
	last := impl.Pass{Kind: impl.PsYarn, Dir: 1, Carrier: 1, First: 1499, Count: 1}
	is(t, "many passes", result(impl.CountPasses(knits), result(impl.ReturnsOf(knits))), "[1500 [1499 0]]")
	is(t, "the last pass", result(impl.PassOf(knits, 1499)), result(last, impl.OK))
	is(t, "no pass at all", result(impl.CountPasses(slices.Repeat([]impl.Op{outOp(1)}, 1500)), impl.CountPasses(nil)), "[0 0]")
}

// somePasses are valid passes at all limits.
func somePasses() []impl.Pass {
	return []impl.Pass{
		{Kind: 1, Dir: 1, Carrier: 1, Count: 1}, {Kind: 1, Dir: -1, Carrier: 4, Rack: -3, First: 1499, Count: 1}, {Kind: 1, Dir: 1, Carrier: 2, Rack: 3, First: 7, Count: 1493},
		{Kind: 2, Rack: 1, First: 3, Count: 4}, {Kind: 2, Count: 1500}, {Kind: 3, Rack: -1, First: 1498, Count: 2}, {Kind: 3, First: 10, Count: 11},
	}
}

func TestValidPassOfAllFields(t *testing.T) {
	firsts, counts := []int64{math.MinInt64, -1, 0, 1, 5, 1498, 1499, 1500, math.MaxInt64}, []int64{math.MinInt64, -1, 0, 1, 2, 3, 1494, 1495, 1496, 1499, 1500, 1501, math.MaxInt64}
	for kind := int64(-1); kind <= 5; kind++ {
		for dir := int64(-2); dir <= 2; dir++ {
			for carrier := int64(-1); carrier <= 5; carrier++ {
				for _, rack := range []int64{math.MinInt64, -4, -3, 0, 3, 4, math.MaxInt64} {
					for _, first := range firsts {
						for _, count := range counts {
							p := impl.Pass{Kind: kind, Dir: dir, Carrier: carrier, Rack: rack, First: first, Count: count}
							if impl.ValidPass(p) != isPassByHand(p) {
								t.Errorf("ValidPass of %v: got %v", p, impl.ValidPass(p))
							}
						}
					}
				}
			}
		}
	}
	for _, p := range somePasses() {
		is(t, fmt.Sprint("ValidPass of ", p), impl.ValidPass(p), true)
	}
}

func TestPassText(t *testing.T) {
	for i, want := range strings.Split("yarn > 1 rack 0 ops 0 to 0, yarn < 4 rack -3 ops 1499 to 1499, yarn > 2 rack 3 ops 7 to 1499, xfer rack 1 ops 3 to 6, xfer rack 0 ops 0 to 1499, drop rack -1 ops 1498 to 1499, drop rack 0 ops 10 to 20", ", ") {
		is(t, "PassText", impl.PassText(somePasses()[i]), want)
	}
	for _, p := range somePasses() {
		for _, other := range changedPasses(p) {
			want := ""
			if isPassByHand(other) {
				want = passTextByHand(other)
			}
			is(t, fmt.Sprint("PassText of ", other), impl.PassText(other), want)
		}
	}
	is(t, "the zero pass", impl.PassText(impl.Pass{}), "")
}

// changedPasses returns passes that differ from p in one field.
func changedPasses(p impl.Pass) []impl.Pass {
	var list []impl.Pass
	for _, step := range []int64{-1500, -4, -3, -2, -1, 1, 2, 3, 4, 1500, math.MinInt64} {
		for field := range 6 {
			other := p
			fields := []*int64{&other.Kind, &other.Dir, &other.Carrier, &other.Rack, &other.First, &other.Count}
			*fields[field] += step
			list = append(list, other)
		}
	}
	return list
}

func TestSpanOf(t *testing.T) {
	ops := opsOf(t, "knit > f2 1, knit > b3 1, knit > f7 1, rack -3, knit < f1 1, tuck < b0 1, rack 3, xfer f9 b0, xfer b0 f5, xfer b23 f20, xfer f4 b4, drop f8")
	for first, want := range map[int64]string{0: "[2 7 0]", 4: "[-3 1 0]", 7: "[3 26 0]", 11: "[8 8 0]"} {
		p, _ := impl.PassOf(ops, first)
		is(t, fmt.Sprint("the pass from ", first), result(p.First, result(impl.SpanOf(ops, p))), result(first, want))
	}
}

// spanByHand visits all places from the left to the right.
func spanByHand(ops []impl.Op, p impl.Pass) []any {
	places := []int64{}
	for place := int64(-10); place <= 40; place++ {
		for _, o := range ops[p.First : p.First+p.Count] {
			if opPlaceByHand(p.Rack, o) == place {
				places = append(places, place)
			}
		}
	}
	return result(places[0], places[len(places)-1], impl.OK)
}

func TestSpansOfManyPasses(t *testing.T) {
	for _, ops := range manyOps() {
		list := passesByHand(ops)
		for i, p := range list {
			is(t, fmt.Sprint("SpanOf ", p), result(impl.SpanOf(ops, p)), spanByHand(ops, p))
			if i%40 == 0 {
				isNoOtherPass(t, ops, list, p)
			}
		}
		for _, p := range append(somePasses(), impl.Pass{}) {
			isNoOtherPass(t, ops, list, p)
		}
	}
}

// isNoOtherPass checks that a pass that differs in one field is not found, be it valid or not.
func isNoOtherPass(t *testing.T, ops []impl.Op, list []impl.Pass, p impl.Pass) {
	t.Helper()
	for _, other := range changedPasses(p) {
		if !slices.Contains(list, other) {
			is(t, fmt.Sprint("SpanOf ", other), result(impl.SpanOf(ops, other)), result(0, 0, impl.ErrNotFound))
		}
	}
}

func TestPassesThatAreNotTheirs(t *testing.T) {
	ops := opsOf(t, "knit > f2 1, knit > f3 1, rack 1, xfer f2 b1, xfer f3 b2")
	for _, p := range []impl.Pass{
		{Kind: 1, Dir: 1, Carrier: 1, Count: 1}, {Kind: 1, Dir: 1, Carrier: 1, First: 1, Count: 1}, {Kind: 1, Dir: 1, Carrier: 1, Count: 3}, {Kind: 1, Dir: 1, Carrier: 2, Count: 2}, {Kind: 1, Dir: -1, Carrier: 1, Count: 2}, {Kind: 1, Dir: 1, Carrier: 1, Rack: 1, Count: 2},
		{Kind: 2, First: 3, Count: 2}, {Kind: 3, Rack: 1, First: 3, Count: 2}, {Kind: 2, Rack: 1, First: 4, Count: 1}, {Kind: 2, Rack: 1, First: 3, Count: 1}, {Kind: 2, Rack: 1, First: 3, Count: 1497}, {Kind: 2, Rack: 1, First: 1499, Count: 1},
	} {
		is(t, fmt.Sprint("valid, and not one of theirs: ", p), result(impl.ValidPass(p), result(impl.SpanOf(ops, p))), result(true, result(0, 0, impl.ErrNotFound)))
	}
	is(t, "one of theirs", result(impl.SpanOf(ops, impl.Pass{Kind: 2, Rack: 1, First: 3, Count: 2})), "[2 3 0]")
	is(t, "no operations", result(impl.SpanOf(nil, somePasses()[0])), result(0, 0, impl.ErrNotFound))
}

func TestReturnsOf(t *testing.T) {
	for text, want := range map[string]int{
		"":                                      0,
		"rack 1, drop f1":                       0,
		"knit > f0 1":                           0,
		"knit < f0 1":                           0,
		"knit > f0 1, knit > f1 1":              0,
		"knit > f0 1, knit > f0 1":              1,
		"knit > f0 1, knit < f0 1":              0,
		"knit < f0 1, knit < f0 1, knit < f0 1": 2,
		"knit > f0 1, knit < f0 1, knit > f0 1": 0,
		"knit > f0 1, tuck > f1 2":              1,
		"knit > f0 1, rack 0, miss > f1 1":      1,
		"knit > f0 1, drop f1, xfer f0 b0, drop f1, tuck > f1 1":                                    1,
		"knit > f0 1, drop f1, xfer f0 b0, drop f1, tuck < f1 1":                                    0,
		"xfer f0 b0, drop f1, knit < f0 1, in > 2, xfer f0 b0, out 1, drop f1, split < f1 b1 2":     1,
		"xfer f0 b0, xfer f1 b1, rack 1, xfer f0 b0, drop f1, drop f0, rack 1, drop f1":             0,
		"knit > f0 1, knit > f0 1, knit < f0 1, drop f0, knit < f0 1, knit > f0 1, miss > f0 1":     3,
		"knit > f0 1, drop f0, knit < f0 1, drop f0, knit > f0 1, xfer f0 b0, knit < f0 1, out 1":   0,
		"xfer f0 b0, knit > f0 1, xfer f0 b0, knit > f0 1, rack 1, xfer f0 b0, rack 1, knit > f0 1": 2,
	} {
		is(t, "ReturnsOf "+text, result(impl.ReturnsOf(opsOf(t, text))), result(want, impl.OK))
	}
	for _, ops := range manyOps() {
		dirs, returns := []int64{}, 0
		for _, p := range passesByHand(ops) {
			if p.Kind == impl.PsYarn {
				dirs = append(dirs, p.Dir)
			}
		}
		for i := 1; i < len(dirs); i++ {
			if dirs[i] == dirs[i-1] {
				returns++
			}
		}
		is(t, "ReturnsOf", result(impl.ReturnsOf(ops)), result(returns, impl.OK))
	}
}

// sortsTo compares ordered operations with their texts, separated by commas.
func sortsTo(t *testing.T, text, want string) {
	t.Helper()
	ops := opsOf(t, text)
	sorted, code := impl.SortTransfers(ops)
	texts := []string{}
	for _, o := range sorted {
		texts = append(texts, impl.OpText(o))
	}
	is(t, "SortTransfers of "+text, result(strings.Join(texts, ", "), code), result(want, impl.OK))
	is(t, "by hand", sorted, sortedByHand(ops))
}

// sortedByHand exchanges neighbours until they are in order.
func sortedByHand(ops []impl.Op) []impl.Op {
	sorted := append([]impl.Op{}, ops...)
	for _, p := range passesByHand(ops) {
		part, named, most := sorted[p.First:p.First+p.Count], map[impl.Needle]int{}, 0
		for _, o := range part {
			named[o.From]++
			named[o.To]++
			most = max(most, named[o.From], named[o.To])
		}
		if p.Kind != impl.PsXfer || most > 1 {
			continue
		}
		for range part {
			for i := 1; i < len(part); i++ {
				if opPlaceByHand(p.Rack, part[i]) < opPlaceByHand(p.Rack, part[i-1]) {
					part[i], part[i-1] = part[i-1], part[i]
				}
			}
		}
	}
	return sorted
}

func TestSortTransfers(t *testing.T) {
	sortsTo(t, "", "")
	sortsTo(t, "xfer f2 b2, xfer f0 b0, xfer f1 b1", "xfer f0 b0, xfer f1 b1, xfer f2 b2")
	sortsTo(t, "xfer f10 b10, xfer f9 b9, xfer b2 f2", "xfer b2 f2, xfer f9 b9, xfer f10 b10")
	sortsTo(t, "xfer f2 b2, rack 0, xfer f0 b0", "xfer f2 b2, rack 0, xfer f0 b0")
	sortsTo(t, "xfer f2 b2, xfer f1 b1, drop f0, xfer f0 b0, xfer f3 b3", "xfer f1 b1, xfer f2 b2, drop f0, xfer f0 b0, xfer f3 b3")
	sortsTo(t, "drop f2, drop f1, knit > f5 1, knit < f1 1, knit < f0 1", "drop f2, drop f1, knit > f5 1, knit < f1 1, knit < f0 1")
	sortsTo(t, "drop f2, drop f1, xfer f5 b5, xfer f4 b4", "drop f2, drop f1, xfer f4 b4, xfer f5 b5")
	sortsTo(t, "rack 3, xfer f4 b1, xfer b0 f3", "rack 3, xfer b0 f3, xfer f4 b1")
	sortsTo(t, "rack 3, xfer b2 f5, xfer f4 b1", "rack 3, xfer f4 b1, xfer b2 f5")
	sortsTo(t, "rack -3, xfer f1 b4, xfer b3 f0", "rack -3, xfer b3 f0, xfer f1 b4")
	sortsTo(t, "rack -3, rack 2, xfer f1 b4, xfer b0 f8", "rack -3, rack 2, xfer f1 b4, xfer b0 f8")
	sortsTo(t, "rack 2, out 1, xfer f3 b4, xfer b0 f8", "rack 2, out 1, xfer b0 f8, xfer f3 b4")
}

// The first of a pair of transfers that name one needle is on the right.
func TestSortTransfersThatShareNeedles(t *testing.T) {
	for _, text := range []string{
		"xfer f2 b2, xfer b2 f0, xfer f1 b1", "xfer b2 f2, xfer f2 b0, xfer b1 f1", "xfer f2 b3, xfer f1 b3", "xfer f2 b3, xfer f1 b4, xfer f0 b3", "xfer f5 b5, xfer f4 b4, xfer f5 b3", "xfer f5 b5, xfer f4 b4, xfer b3 f5", "xfer f5 b5, xfer f4 b4, xfer f3 b5", "xfer f5 b5, xfer f4 b4, xfer b5 f3",
		"xfer f5 b5, xfer f5 b5", "xfer f9 b9, xfer f5 b5, xfer b5 f5", "rack 1, xfer f9 b8, xfer b8 f0",
	} {
		sortsTo(t, text, text)
		sortsTo(t, text+", rack 0, xfer f2 b2, xfer f1 b1", text+", rack 0, xfer f1 b1, xfer f2 b2")
		sortsTo(t, "xfer f2 b2, xfer f1 b1, out 1, "+text, "xfer f1 b1, xfer f2 b2, out 1, "+text)
	}
	sortsTo(t, "xfer f2 b1, xfer f1 b2", "xfer f1 b2, xfer f2 b1")
	sortsTo(t, "xfer f2 b2, out 1, xfer b2 f1, xfer f0 b0", "xfer f2 b2, out 1, xfer f0 b0, xfer b2 f1")
}

func TestSortTransfersOfEqualPlaces(t *testing.T) {
	sortsTo(t, "xfer f5 b0, xfer b5 f0, xfer f1 b1", "xfer f1 b1, xfer f5 b0, xfer b5 f0")
	sortsTo(t, "xfer b5 f0, xfer f5 b0, xfer f1 b1", "xfer f1 b1, xfer b5 f0, xfer f5 b0")
	sortsTo(t, "rack 2, xfer b5 f0, xfer f7 b0, xfer f5 b1", "rack 2, xfer f5 b1, xfer b5 f0, xfer f7 b0")
	sortsTo(t, "rack 2, xfer f7 b0, xfer b5 f0, xfer f5 b1", "rack 2, xfer f5 b1, xfer f7 b0, xfer b5 f0")
	// So many that an order which only keeps equal places of short lists shows.
	var ops []impl.Op
	for i := range int64(12) {
		at := i * 7 % 12
		first, second := xferOp(onFront(at), onBack(at+12)), xferOp(onBack(at), onFront(at+12))
		if at%3 == 0 {
			first, second = second, first
		}
		ops = append(slices.Insert(ops, len(ops)/2, first), second)
	}
	sorted, code := impl.SortTransfers(ops)
	is(t, "two transfers at each place", result(sorted, code), result(sortedByHand(ops), impl.OK))
	is(t, "their order was changed", slices.Equal(sorted, ops), false)
}

func TestSortManyTransfers(t *testing.T) {
	for _, ops := range manyOps() {
		is(t, "SortTransfers", result(impl.SortTransfers(ops)), result(sortedByHand(ops), impl.OK))
	}
	for seed := range 300 {
		d := dice(seed)
		ops := []impl.Op{rackOp(d.below(7) - 3)}
		for range 2 + seed/20 {
			n := d.needle(24)
			ops = append(ops, xferOp(n, impl.Needle{Bed: 3 - n.Bed, At: d.below(24)}))
		}
		is(t, "SortTransfers", result(impl.SortTransfers(ops)), result(sortedByHand(ops), impl.OK))
	}
}

// transferOps throws operations that can be executed: rows of transfers after some loops are made.
func (d *dice) transferOps(t *testing.T, width int64) []impl.Op {
	t.Helper()
	var ops []impl.Op
	for range width {
		ops = append(ops, stackOps(d.needle(width), 1)...)
	}
	m, done, code := impl.RunMachine(width, ops)
	if code != impl.OK {
		return ops[:done]
	}
	for range 60 {
		n := d.needle(width)
		other, ok := impl.FacingOf(m, n)
		o := xferOp(n, other)
		if roll := d.below(20); roll == 0 {
			o, ok = rackOp(d.below(7)-3), true
		} else if roll == 1 {
			o, ok = outOp(1+d.below(4)), true
		}
		if next, code := impl.StepMachine(m, o); ok && code == impl.OK {
			m, ops = next, append(ops, o)
		}
	}
	return ops
}

// P10: ordered transfers lead to the same machine.
func TestOrderedTransfersLeadToTheSameMachine(t *testing.T) {
	changed := 0
	for _, width := range []int64{2, 6, 12, 24} {
		for seed := range 100 {
			d := dice(seed)
			ops := d.transferOps(t, width)
			if seed%4 == 0 {
				ops = d.executableOps(t, width, 120)
			}
			sorted, code := impl.SortTransfers(ops)
			is(t, "code", code, impl.OK)
			is(t, "the same machine", impl.SameMachine(machineAfter(t, width, sorted), machineAfter(t, width, ops)), true)
			is(t, "ordered twice", result(impl.SortTransfers(sorted)), result(sorted, impl.OK))
			if !slices.Equal(sorted, ops) {
				changed++
			}
		}
	}
	is(t, "many orders were changed", changed > 50, true)
}

// ErrInvalid is found before all other errors.
func TestPassesOfInvalidOperations(t *testing.T) {
	for _, p := range append(programsOfNotOps(24), notPrograms()[0]) {
		is(t, "PassesOf "+p.name, result(impl.PassesOf(p.ops)), result([]impl.Pass{}, impl.ErrInvalid))
		is(t, "CountPasses of "+p.name, impl.CountPasses(p.ops), -1)
		is(t, "ReturnsOf "+p.name, result(impl.ReturnsOf(p.ops)), result(0, impl.ErrInvalid))
		is(t, "SortTransfers of "+p.name, result(impl.SortTransfers(p.ops)), result([]impl.Op{}, impl.ErrInvalid))
		for _, k := range []int64{-1, 0, 1, 5, 1500} {
			is(t, "PassOf "+p.name, result(impl.PassOf(p.ops, k)), result(impl.Pass{}, impl.ErrInvalid))
		}
		for _, pass := range append(somePasses(), impl.Pass{}) {
			is(t, "SpanOf "+p.name, result(impl.SpanOf(p.ops, pass)), result(0, 0, impl.ErrInvalid))
		}
	}
}
