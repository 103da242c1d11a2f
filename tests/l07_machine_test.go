package tests

import (
	"fmt"
	"math"
	"slices"
	"testing"

	"loop.example/g00856/impl"
)

func onFront(at int64) impl.Needle { return impl.Needle{Bed: impl.BdFront, At: at} }

func onBack(at int64) impl.Needle { return impl.Needle{Bed: impl.BdBack, At: at} }

func yarnOp(kind, dir int64, n impl.Needle, carrier int64) impl.Op {
	return impl.Op{Kind: kind, Dir: dir, From: n, Carrier: carrier}
}

func knitOp(dir int64, n impl.Needle, carrier int64) impl.Op {
	return yarnOp(impl.OpKnit, dir, n, carrier)
}

func tuckOp(dir int64, n impl.Needle, carrier int64) impl.Op {
	return yarnOp(impl.OpTuck, dir, n, carrier)
}

func missOp(dir int64, n impl.Needle, carrier int64) impl.Op {
	return yarnOp(impl.OpMiss, dir, n, carrier)
}

func splitOp(dir int64, from, to impl.Needle, carrier int64) impl.Op {
	return impl.Op{Kind: impl.OpSplit, Dir: dir, From: from, To: to, Carrier: carrier}
}

func xferOp(from, to impl.Needle) impl.Op { return impl.Op{Kind: impl.OpXfer, From: from, To: to} }

func dropOp(n impl.Needle) impl.Op { return impl.Op{Kind: impl.OpDrop, From: n} }

func rackOp(rack int64) impl.Op { return impl.Op{Kind: impl.OpRack, Rack: rack} }

func inOp(dir, carrier int64) impl.Op {
	return impl.Op{Kind: impl.OpIn, Dir: dir, Carrier: carrier}
}

func outOp(carrier int64) impl.Op { return impl.Op{Kind: impl.OpOut, Carrier: carrier} }

// stackOps tucks so many loops on a needle, from both sides in turn, after which the carrier is out.
func stackOps(n impl.Needle, loops int) []impl.Op {
	ops := []impl.Op{inOp(impl.DrRight, 4)}
	for i := range loops {
		dir := int64(impl.DrRight)
		if i%2 == 1 {
			dir = impl.DrLeft
		}
		ops = append(ops, tuckOp(dir, n, 4))
	}
	return append(ops, outOp(4))
}

func newMachine(t *testing.T, width int64) impl.Machine {
	t.Helper()
	m, code := impl.NewMachine(width)
	is(t, "code of a new machine", code, impl.OK)
	return m
}

// machineAfter executes operations that must not fail.
func machineAfter(t *testing.T, width int64, lists ...[]impl.Op) impl.Machine {
	t.Helper()
	ops := slices.Concat(lists...)
	m, n, code := impl.RunMachine(width, ops)
	is(t, "RunMachine", result(n, code), result(len(ops), impl.OK))
	isValidState(t, "RunMachine", m)
	return m
}

// stepOf executes an operation that must not fail.
func stepOf(t *testing.T, m impl.Machine, o impl.Op) impl.Machine {
	t.Helper()
	next, code := impl.StepMachine(m, o)
	is(t, fmt.Sprint("StepMachine of ", o), code, impl.OK)
	isValidState(t, fmt.Sprint("StepMachine of ", o), next)
	return next
}

// failsWith checks an operation that fails, and that there is no state.
func failsWith(t *testing.T, m impl.Machine, o impl.Op, want int64) {
	t.Helper()
	next, code := impl.StepMachine(m, o)
	is(t, fmt.Sprint("StepMachine of ", o), result(code, impl.SameMachine(next, impl.Machine{})), result(want, true))
}

func isValidState(t *testing.T, name string, m impl.Machine) {
	t.Helper()
	is(t, name+": valid by the program and by hand", result(impl.ValidMachine(m), isMachineByHand(m)), "[true true]")
}

// isOpByHand reads the fields that operations of each kind use from a table.
func isOpByHand(o impl.Op) bool {
	type uses struct{ dir, from, to, carrier, rack bool }
	u, known := map[int64]uses{
		1: {dir: true, from: true, carrier: true},
		2: {dir: true, from: true, carrier: true},
		3: {dir: true, from: true, carrier: true},
		4: {from: true, to: true},
		5: {dir: true, from: true, to: true, carrier: true},
		6: {from: true},
		7: {rack: true},
		8: {dir: true, carrier: true},
		9: {carrier: true},
	}[o.Kind]
	isNeedle := func(n impl.Needle) bool { return (n.Bed == 1 || n.Bed == 2) && n.At >= 0 && n.At <= 23 }
	allowed := func(used, valid, zero bool) bool { return used && valid || !used && zero }
	return known &&
		allowed(u.dir, o.Dir == 1 || o.Dir == -1, o.Dir == 0) &&
		allowed(u.from, isNeedle(o.From), o.From == impl.Needle{}) &&
		allowed(u.to, isNeedle(o.To) && o.From.Bed+o.To.Bed == 3, o.To == impl.Needle{}) &&
		allowed(u.carrier, o.Carrier >= 1 && o.Carrier <= 4, o.Carrier == 0) &&
		allowed(u.rack, o.Rack >= -3 && o.Rack <= 3, o.Rack == 0)
}

// isMachineByHand reads the definition of a valid state.
func isMachineByHand(m impl.Machine) bool {
	if m.Width < 1 || m.Width > 24 || m.Rack < -3 || m.Rack > 3 || int64(len(m.Front)) != m.Width || int64(len(m.Back)) != m.Width || len(m.Carriers) != 4 || len(m.Loops) > 300 {
		return false
	}
	for _, c := range m.Carriers {
		if c.At < -3 || c.At > m.Width+3 || !c.In && c.At != 0 {
			return false
		}
	}
	for i, loop := range m.Loops {
		if !isLoopByHand(m.Width, int64(i), loop) {
			return false
		}
	}
	count := map[int64]int{}
	for _, loops := range append(slices.Concat(m.Front, m.Back), m.Dropped) {
		for _, loop := range loops {
			count[loop]++
			if loop < 0 || loop >= int64(len(m.Loops)) || count[loop] > 1 {
				return false
			}
		}
	}
	for _, loops := range slices.Concat(m.Front, m.Back) {
		if len(loops) > 4 {
			return false
		}
	}
	return slices.IsSorted(m.Dropped)
}

func isLoopByHand(width, number int64, loop impl.Info) bool {
	n := len(loop.Parents)
	kinds := map[int64]bool{1: n <= 4, 2: n == 0, 5: n >= 1 && n <= 4}
	if !kinds[loop.Kind] || loop.Carrier < 1 || loop.Carrier > 4 || loop.Bed != 1 && loop.Bed != 2 || loop.At < 0 || loop.At >= width || loop.Dir != 1 && loop.Dir != -1 {
		return false
	}
	different := map[int64]bool{}
	for _, parent := range loop.Parents {
		different[parent] = true
		if parent < 0 || parent >= number {
			return false
		}
	}
	return len(different) == n
}

func copyOfMachine(m impl.Machine) impl.Machine {
	c := m
	c.Front, c.Back, c.Loops = nil, nil, nil
	for i := range m.Front {
		c.Front = append(c.Front, slices.Clone(m.Front[i]))
	}
	for i := range m.Back {
		c.Back = append(c.Back, slices.Clone(m.Back[i]))
	}
	c.Carriers, c.Dropped = slices.Clone(m.Carriers), slices.Clone(m.Dropped)
	for _, loop := range m.Loops {
		loop.Parents = slices.Clone(loop.Parents)
		c.Loops = append(c.Loops, loop)
	}
	return c
}

// isSameByHand compares all fields of two states.
func isSameByHand(a, b impl.Machine) bool {
	fields := func(loop impl.Info) [5]int64 {
		return [5]int64{loop.Kind, loop.Carrier, loop.Bed, loop.At, loop.Dir}
	}
	return a.Width == b.Width && a.Rack == b.Rack && len(a.Front) == len(b.Front) && len(a.Back) == len(b.Back) &&
		slices.Equal(a.Carriers, b.Carriers) &&
		slices.EqualFunc(a.Loops, b.Loops, func(x, y impl.Info) bool { return fields(x) == fields(y) }) &&
		slices.EqualFunc(listsOfMachine(a), listsOfMachine(b), slices.Equal[[]int64])
}

func rowOf(m impl.Machine, bed int64) [][]int64 {
	if bed == impl.BdFront {
		return m.Front
	}
	return m.Back
}

// placeOfNeedle adds the rack for needles of the back bed.
func placeOfNeedle(m impl.Machine, n impl.Needle) int64 {
	return n.At + m.Rack*(n.Bed-1)
}

// codeByHand looks for the first line of the table of errors that applies.
func codeByHand(m impl.Machine, o impl.Op) int64 {
	if !isMachineByHand(m) || !isOpByHand(o) || o.From.At >= m.Width || o.To.At >= m.Width {
		return impl.ErrInvalid
	}
	kind := func(kinds ...int64) bool { return slices.Contains(kinds, o.Kind) }
	if kind(1, 2, 3, 5, 8, 9) {
		c, x := m.Carriers[o.Carrier-1], placeOfNeedle(m, o.From)
		if c.In == kind(8) || kind(1, 2, 3, 5) && (o.Dir == 1 && c.At > x || o.Dir == -1 && c.At < x+1) {
			return impl.ErrCarrier
		}
	}
	from, to := 0, 0
	if kind(1, 2, 3, 4, 5, 6) {
		from = len(rowOf(m, o.From.Bed)[o.From.At])
	}
	if kind(4, 5) {
		to = len(rowOf(m, o.To.Bed)[o.To.At])
	}
	for _, line := range []struct {
		is   bool
		code int64
	}{
		{kind(1, 2, 5) && len(m.Loops) == 300, impl.ErrFull},
		{kind(2) && from == 4, impl.ErrFull},
		{kind(4, 5) && placeOfNeedle(m, o.From) != placeOfNeedle(m, o.To), impl.ErrRack},
		{kind(4, 5, 6) && from == 0, impl.ErrEmpty},
		{kind(4, 5) && from+to > 4, impl.ErrFull},
	} {
		if line.is {
			return line.code
		}
	}
	return impl.OK
}

// stepByHand executes an operation as the table of operations says.
func stepByHand(m impl.Machine, o impl.Op) (impl.Machine, int64) {
	if code := codeByHand(m, o); code != impl.OK {
		return impl.Machine{}, code
	}
	m = copyOfMachine(m)
	loop := int64(len(m.Loops))
	info := impl.Info{Kind: o.Kind, Carrier: o.Carrier, Bed: o.From.Bed, At: o.From.At, Dir: o.Dir}
	switch o.Kind {
	case 1, 2, 3, 5:
		x := placeOfNeedle(m, o.From)
		m.Carriers[o.Carrier-1].At = map[int64]int64{1: x + 1, -1: x}[o.Dir]
	case 7:
		m.Rack = o.Rack
	case 8:
		m.Carriers[o.Carrier-1] = impl.Carrier{In: true, At: map[int64]int64{1: -3, -1: m.Width + 3}[o.Dir]}
	case 9:
		m.Carriers[o.Carrier-1] = impl.Carrier{}
	}
	var from *[]int64
	if o.From.Bed != 0 {
		from = &rowOf(m, o.From.Bed)[o.From.At]
	}
	switch o.Kind {
	case 1:
		info.Parents = *from
		*from = []int64{loop}
	case 2:
		*from = append(*from, loop)
	case 4, 5:
		moveByHand(m, o)
		if o.Kind == 5 {
			info.Parents = slices.Clone(*from)
		}
		*from = nil
		if o.Kind == 5 {
			*from = []int64{loop}
		}
	case 6:
		m.Dropped = append(m.Dropped, *from...)
		slices.Sort(m.Dropped)
		*from = nil
	}
	if o.Kind == 1 || o.Kind == 2 || o.Kind == 5 {
		m.Loops = append(m.Loops, info)
	}
	return m, impl.OK
}

// moveByHand puts the loops of From to those of To, and leaves them on From, too.
func moveByHand(m impl.Machine, o impl.Op) {
	moved := rowOf(m, o.From.Bed)[o.From.At]
	to := &rowOf(m, o.To.Bed)[o.To.At]
	if o.To.Bed == impl.BdBack {
		*to = append(slices.Clone(moved), *to...)
	} else {
		*to = append(*to, moved...)
	}
}

// liveByHand visits the needles in the order of their places, and not of their numbers.
func liveByHand(m impl.Machine) []int64 {
	list := []int64{}
	for place := int64(-30); place <= 60; place++ {
		for at := range m.Width {
			if at == place {
				list = append(list, m.Front[at]...)
			}
		}
		for at := range m.Width {
			if at+m.Rack == place {
				list = append(list, m.Back[at]...)
			}
		}
	}
	return list
}

func TestMachineConstants(t *testing.T) {
	is(t, "kinds", result(impl.OpKnit, impl.OpTuck, impl.OpMiss, impl.OpXfer, impl.OpSplit, impl.OpDrop, impl.OpRack, impl.OpIn, impl.OpOut), "[1 2 3 4 5 6 7 8 9]")
	is(t, "limits", result(impl.MaxRack, impl.MaxCarriers, impl.MaxLoops, impl.MaxOps), "[3 4 300 1500]")
}

func TestExampleOfPlaces(t *testing.T) {
	for _, width := range []int64{4, 5, 24} {
		m := newMachine(t, width)
		m.Rack = -1
		is(t, "PlaceOf", impl.PlaceOf(m, onBack(3)), 2)
		is(t, "FacingOf the back needle", result(impl.FacingOf(m, onBack(3))), "[{1 2} true]")
		is(t, "FacingOf the front needle", result(impl.FacingOf(m, onFront(2))), "[{2 3} true]")
	}
}

func TestNewMachine(t *testing.T) {
	for width := int64(1); width <= 24; width++ {
		m := newMachine(t, width)
		isValidState(t, fmt.Sprint("width ", width), m)
		is(t, "empty", result(m.Width, m.Rack, len(m.Front), len(m.Back), m.Carriers, len(m.Loops), len(m.Dropped)), result(width, 0, width, width, "[{false 0} {false 0} {false 0} {false 0}]", 0, 0))
		for _, loops := range slices.Concat(m.Front, m.Back) {
			is(t, "loops", len(loops), 0)
		}
	}
	for _, width := range []int64{math.MinInt64, -1, 0, 25, math.MaxInt64} {
		m, code := impl.NewMachine(width)
		is(t, fmt.Sprint("width ", width), result(impl.SameMachine(m, impl.Machine{}), code), result(true, impl.ErrRange))
	}
}

// needlesOutside are needles that are not valid.
func needlesOutside() []impl.Needle {
	return []impl.Needle{{}, {Bed: 0, At: 1}, {Bed: 3, At: 1}, {Bed: -1, At: 1}, {Bed: 1, At: -1}, {Bed: 2, At: -1}, {Bed: 1, At: 24}, {Bed: 2, At: 24}, {Bed: 1, At: math.MaxInt64}, {Bed: 2, At: math.MinInt64}, {Bed: math.MinInt64, At: 0}}
}

func allNeedles() []impl.Needle {
	var list []impl.Needle
	for at := range int64(24) {
		list = append(list, onFront(at), onBack(at))
	}
	return list
}

func TestPlacesAndFacingNeedles(t *testing.T) {
	for _, width := range []int64{1, 2, 4, 5, 23, 24} {
		for rack := int64(-3); rack <= 3; rack++ {
			m := newMachine(t, width)
			m.Rack = rack
			for _, n := range allNeedles() {
				name := fmt.Sprint("width, rack and needle ", width, rack, n)
				is(t, name, impl.PlaceOf(m, n), placeOfNeedle(m, n))
				want := result(impl.Needle{}, false)
				for at := range width {
					other := impl.Needle{Bed: 3 - n.Bed, At: at}
					if n.At < width && placeOfNeedle(m, n) == placeOfNeedle(m, other) {
						want = result(other, true)
					}
				}
				is(t, name, result(impl.FacingOf(m, n)), want)
			}
			for _, n := range needlesOutside() {
				is(t, fmt.Sprint("no needle ", n), result(impl.PlaceOf(m, n), result(impl.FacingOf(m, n)), len(impl.LoopsOn(m, n))), "[0 [{0 0} false] 0]")
			}
		}
	}
	far := newMachine(t, 24)
	far.Rack = 3
	is(t, "places of one bed only", result(impl.PlaceOf(far, onBack(23)), result(impl.FacingOf(far, onBack(23))), result(impl.FacingOf(far, onBack(20))), result(impl.FacingOf(far, onFront(2))), result(impl.FacingOf(far, onFront(3)))), "[26 [{0 0} false] [{1 23} true] [{0 0} false] [{2 0} true]]")
	far.Rack = -3
	is(t, "places before the first one", result(impl.PlaceOf(far, onBack(0)), result(impl.FacingOf(far, onBack(2))), result(impl.FacingOf(far, onBack(3))), result(impl.FacingOf(far, onFront(21))), result(impl.FacingOf(far, onFront(20)))), "[-3 [{0 0} false] [{1 0} true] [{0 0} false] [{2 23} true]]")
}

func TestPlacesWithOneRackMore(t *testing.T) {
	for _, rack := range []int64{-4, 4, math.MinInt64, math.MaxInt64} {
		m := newMachine(t, 5)
		m.Rack = rack
		is(t, "PlaceOf", result(impl.PlaceOf(m, onFront(2)), impl.PlaceOf(m, onBack(2))), "[0 0]")
		is(t, "FacingOf", result(impl.FacingOf(m, onFront(2))), "[{0 0} false]")
		is(t, "LiveLoops", result(impl.LiveLoops(m)), "[[] 1]")
	}
}

// richMachine has loops of all kinds, on both beds, dropped and knitted, and carriers on both sides; its width is 5.
func richMachine(t *testing.T) impl.Machine {
	t.Helper()
	return machineAfter(t, 5, []impl.Op{
		inOp(impl.DrRight, 1), knitOp(impl.DrRight, onFront(0), 1), tuckOp(impl.DrRight, onFront(1), 1), knitOp(impl.DrRight, onFront(2), 1), knitOp(impl.DrRight, onFront(4), 1),
		inOp(impl.DrLeft, 2), tuckOp(impl.DrLeft, onBack(4), 2), tuckOp(impl.DrLeft, onFront(1), 2),
		xferOp(onFront(1), onBack(1)), splitOp(impl.DrLeft, onFront(2), onBack(2), 1), xferOp(onBack(2), onFront(2)),
		dropOp(onFront(0)), rackOp(-1), knitOp(impl.DrLeft, onBack(1), 1), tuckOp(impl.DrRight, onBack(1), 1),
		tuckOp(impl.DrRight, onFront(3), 2), rackOp(0), splitOp(impl.DrRight, onBack(4), onFront(4), 2), rackOp(2), dropOp(onFront(3)),
		inOp(impl.DrLeft, 3),
	})
}

// opsOfRichMachine are operations of all kinds, each of which the rich machine can execute.
func opsOfRichMachine() []impl.Op {
	return []impl.Op{rackOp(1), inOp(1, 4), outOp(1), missOp(1, onFront(1), 1), knitOp(1, onFront(2), 1), tuckOp(1, onFront(4), 1), dropOp(onBack(4)), xferOp(onFront(2), onBack(0)), xferOp(onBack(1), onFront(3)), splitOp(1, onFront(2), onBack(0), 1), splitOp(-1, onBack(1), onFront(3), 2)}
}

func TestRichMachine(t *testing.T) {
	m := richMachine(t)
	is(t, "state", result(m.Width, m.Rack, m.Front, m.Back, m.Carriers, m.Dropped), "[5 2 [[] [] [6 2] [] [3 4]] [[] [7 8] [] [] [10]] [{true 1} {true 5} {true 8} {false 0}] [0 9]]")
	is(t, "loops", m.Loops, "[{1 1 1 0 1 []} {2 1 1 1 1 []} {1 1 1 2 1 []} {1 1 1 4 1 []} {2 2 2 4 -1 []} {2 2 1 1 -1 []} {5 1 1 2 -1 [2]} {1 1 2 1 -1 [1 5]} {2 1 2 1 1 []} {2 2 1 3 1 []} {5 2 2 4 1 [4]}]")
	is(t, "LiveLoops", result(impl.LiveLoops(m)), "[[6 2 7 8 3 4 10] 0]")
}

func TestLoopsOn(t *testing.T) {
	m := richMachine(t)
	for _, n := range allNeedles() {
		want := []int64{}
		if n.At < 5 {
			want = rowOf(m, n.Bed)[n.At]
		}
		is(t, fmt.Sprint("LoopsOn ", n), impl.LoopsOn(m, n), want)
	}
	is(t, "not below the width", result(impl.LoopsOn(m, onFront(5)) == nil, impl.LoopsOn(m, onBack(23)) == nil, impl.LoopsOn(m, impl.Needle{}) == nil), "[true true true]")
}

// P8: loops are in the order of the places, those on the front bed first.
func TestLiveLoops(t *testing.T) {
	m := machineAfter(t, 4, stackOps(onFront(0), 2), stackOps(onBack(0), 1), stackOps(onFront(3), 1), stackOps(onBack(2), 4), stackOps(onBack(3), 1))
	for rack, want := range map[int64]string{
		-3: "[2 4 5 6 7 0 1 8 3]",
		-2: "[2 0 1 4 5 6 7 8 3]",
		-1: "[2 0 1 4 5 6 7 8 3]",
		0:  "[0 1 2 4 5 6 7 3 8]",
		1:  "[0 1 2 3 4 5 6 7 8]",
		2:  "[0 1 2 3 4 5 6 7 8]",
		3:  "[0 1 3 2 4 5 6 7 8]",
	} {
		m := stepOf(t, m, rackOp(rack))
		is(t, fmt.Sprint("rack ", rack), result(impl.LiveLoops(m)), result(want, impl.OK))
		is(t, fmt.Sprint("rack by hand ", rack), liveByHand(m), want)
	}
	for _, width := range []int64{1, 24} {
		for _, rack := range []int64{-3, 3} {
			m := machineAfter(t, width, stackOps(onFront(0), 1), stackOps(onFront(width-1), 1), stackOps(onBack(width-1), 1), stackOps(onBack(0), 1), []impl.Op{rackOp(rack)})
			is(t, fmt.Sprint("ends of the beds ", width, rack), result(impl.LiveLoops(m)), result(liveByHand(m), impl.OK))
		}
	}
	is(t, "no loops", result(impl.LiveLoops(newMachine(t, 3))), "[[] 0]")
}

func TestValidOpOfAllFields(t *testing.T) {
	needles := []impl.Needle{{}, onFront(0), onBack(0), onFront(23), onBack(23), onFront(24), onBack(24), onFront(-1), onBack(-1), {Bed: 0, At: 1}, {Bed: 3, At: 0}}
	for kind := int64(-1); kind <= 11; kind++ {
		for _, dir := range []int64{-2, -1, 0, 1, 2} {
			for _, from := range needles {
				for _, to := range needles {
					for _, carrier := range []int64{-1, 0, 1, 4, 5} {
						for _, rack := range []int64{-4, -3, 0, 1, 3, 4} {
							o := impl.Op{Kind: kind, Dir: dir, From: from, To: to, Carrier: carrier, Rack: rack}
							if impl.ValidOp(o) != isOpByHand(o) {
								t.Errorf("ValidOp of %v: got %v", o, impl.ValidOp(o))
							}
						}
					}
				}
			}
		}
	}
}

func TestValidOps(t *testing.T) {
	for _, o := range someOps() {
		is(t, fmt.Sprint("ValidOp of ", o), impl.ValidOp(o), true)
	}
	for _, o := range notOps() {
		is(t, fmt.Sprint("ValidOp of ", o), impl.ValidOp(o), false)
	}
}

// someOps are valid operations of all kinds.
func someOps() []impl.Op {
	return []impl.Op{
		knitOp(1, onFront(0), 1), knitOp(-1, onBack(23), 4), tuckOp(1, onFront(0), 4), tuckOp(-1, onBack(3), 1), missOp(1, onFront(23), 2), missOp(-1, onBack(0), 3),
		xferOp(onFront(0), onBack(0)), xferOp(onBack(23), onFront(0)), splitOp(1, onFront(0), onBack(23), 1), splitOp(-1, onBack(5), onFront(5), 4),
		dropOp(onFront(0)), dropOp(onBack(23)), rackOp(0), rackOp(-3), rackOp(3), inOp(1, 1), inOp(-1, 4), outOp(1), outOp(4),
	}
}

// notOps are operations that are invalid in one field only: one that is not used, or one that is out of range.
func notOps() []impl.Op {
	return []impl.Op{
		{}, {Kind: 10}, {Kind: -1}, {Kind: math.MinInt64}, {Kind: math.MaxInt64}, {Kind: 10, Dir: 1, From: onFront(1), Carrier: 1},
		knitOp(0, onFront(1), 1), knitOp(2, onFront(1), 1), tuckOp(-2, onFront(1), 1), missOp(0, onFront(1), 1), knitOp(1, impl.Needle{}, 1), tuckOp(1, onFront(24), 1), missOp(1, onBack(-1), 1), knitOp(1, onFront(1), 0), tuckOp(1, onFront(1), 5), missOp(1, onFront(1), -1),
		{Kind: impl.OpKnit, Dir: 1, From: onFront(1), To: onBack(1), Carrier: 1}, {Kind: impl.OpTuck, Dir: 1, From: onFront(1), To: impl.Needle{At: 1}, Carrier: 1}, {Kind: impl.OpMiss, Dir: 1, From: onFront(1), Carrier: 1, Rack: 1},
		xferOp(onFront(1), onFront(2)), xferOp(onBack(1), onBack(1)), xferOp(onFront(1), impl.Needle{}), xferOp(impl.Needle{}, onBack(1)), xferOp(onFront(24), onBack(1)), xferOp(onFront(1), onBack(24)),
		{Kind: impl.OpXfer, From: onFront(1), To: onBack(1), Dir: 1}, {Kind: impl.OpXfer, From: onFront(1), To: onBack(1), Carrier: 1}, {Kind: impl.OpXfer, From: onFront(1), To: onBack(1), Rack: -1},
		splitOp(0, onFront(1), onBack(1), 1), splitOp(1, onFront(1), onFront(2), 1), splitOp(1, onFront(1), impl.Needle{}, 1), splitOp(1, onFront(1), onBack(1), 0), splitOp(1, onFront(1), onBack(24), 1), splitOp(1, onFront(-1), onBack(1), 1),
		{Kind: impl.OpSplit, Dir: 1, From: onFront(1), To: onBack(1), Carrier: 1, Rack: 1},
		dropOp(impl.Needle{}), dropOp(onFront(24)), {Kind: impl.OpDrop, From: onFront(1), Rack: 1}, {Kind: impl.OpDrop, From: onFront(1), Dir: 1}, {Kind: impl.OpDrop, From: onFront(1), To: onBack(1)}, {Kind: impl.OpDrop, From: onFront(1), Carrier: 1},
		rackOp(4), rackOp(-4), {Kind: impl.OpRack, Rack: 1, Dir: 1}, {Kind: impl.OpRack, Rack: 1, From: onFront(1)}, {Kind: impl.OpRack, From: impl.Needle{At: 1}}, {Kind: impl.OpRack, Rack: 1, To: onFront(1)}, {Kind: impl.OpRack, Rack: 1, Carrier: 1},
		inOp(0, 1), inOp(1, 0), inOp(1, 5), {Kind: impl.OpIn, Dir: 1, Carrier: 1, From: onFront(1)}, {Kind: impl.OpIn, Dir: 1, Carrier: 1, To: onFront(1)}, {Kind: impl.OpIn, Dir: 1, Carrier: 1, Rack: 1},
		outOp(0), outOp(5), {Kind: impl.OpOut, Carrier: 1, Dir: 1}, {Kind: impl.OpOut, Carrier: 1, From: onFront(1)}, {Kind: impl.OpOut, Carrier: 1, To: onBack(1)}, {Kind: impl.OpOut, Carrier: 1, Rack: -1},
	}
}

// change is a change of the rich machine.
type change struct {
	name string
	do   func(m *impl.Machine)
}

// harmlessChanges reach limits, and leave the rich machine valid.
func harmlessChanges() []change {
	return []change{
		{"least rack", func(m *impl.Machine) { m.Rack = -3 }},
		{"greatest rack", func(m *impl.Machine) { m.Rack = 3 }},
		{"carrier at -MaxRack", func(m *impl.Machine) { m.Carriers[0].At = -3 }},
		{"carrier at Width + MaxRack", func(m *impl.Machine) { m.Carriers[0].At = 8 }},
		{"carrier in at 0", func(m *impl.Machine) { m.Carriers[3].In = true }},
		{"carrier out", func(m *impl.Machine) { m.Carriers[0] = impl.Carrier{} }},
		{"needle of MaxStack loops", func(m *impl.Machine) { m.Front[2], m.Back[1] = []int64{7, 8, 2, 6}, nil }},
		{"loops in another order", func(m *impl.Machine) { m.Front[2] = []int64{2, 6} }},
		{"loop on a needle that is a parent of a knitted loop", func(m *impl.Machine) { m.Front[0] = []int64{5} }},
		{"loop in no place", func(m *impl.Machine) { m.Back[4] = nil }},
		{"nothing dropped", func(m *impl.Machine) { m.Dropped = nil }},
		{"parent dropped", func(m *impl.Machine) { m.Dropped = []int64{0, 1, 5, 9} }},
		{"knitted loop without parents", func(m *impl.Machine) { m.Loops[7].Parents = nil }},
		{"knitted loop with MaxStack parents", func(m *impl.Machine) { m.Loops[7].Parents = []int64{6, 0, 3, 1} }},
		{"split loop with MaxStack parents", func(m *impl.Machine) { m.Loops[10].Parents = []int64{9, 0, 3, 1} }},
		{"parent just before", func(m *impl.Machine) { m.Loops[10].Parents = []int64{9} }},
		{"last carrier", func(m *impl.Machine) { m.Loops[0].Carrier = 4 }},
		{"other bed", func(m *impl.Machine) { m.Loops[0].Bed = 2 }},
		{"last needle", func(m *impl.Machine) { m.Loops[0].At = 4 }},
		{"other direction", func(m *impl.Machine) { m.Loops[0].Dir = -1 }},
		{"another kind", func(m *impl.Machine) { m.Loops[0].Kind = 2 }},
		{"one needle more", func(m *impl.Machine) { m.Width, m.Front, m.Back = 6, append(m.Front, nil), append(m.Back, []int64{}) }},
		{"MaxLoops loops", func(m *impl.Machine) { addLoops(m, 300-11) }},
	}
}

func addLoops(m *impl.Machine, count int) {
	for range count {
		m.Loops = append(m.Loops, impl.Info{Kind: 1, Carrier: 1, Bed: 1, At: 0, Dir: 1})
	}
}

// harmfulChanges make the rich machine invalid, each in one field.
func harmfulChanges() []change {
	return slices.Concat(harmfulShapes(), harmfulCarriers(), harmfulInfos(), harmfulParents(), harmfulPlaces())
}

func harmfulShapes() []change {
	return []change{
		{"width 0", func(m *impl.Machine) { m.Width = 0 }},
		{"width too small", func(m *impl.Machine) { m.Width = 4 }},
		{"width too great", func(m *impl.Machine) { m.Width = 6 }},
		{"negative width", func(m *impl.Machine) { m.Width = -5 }},
		{"width of 25", func(m *impl.Machine) {
			m.Width, m.Front, m.Back = 25, append(m.Front, make([][]int64, 20)...), append(m.Back, make([][]int64, 20)...)
		}},
		{"rack one too small", func(m *impl.Machine) { m.Rack = -4 }},
		{"rack one too great", func(m *impl.Machine) { m.Rack = 4 }},
		{"front needle missing", func(m *impl.Machine) { m.Front = m.Front[:4] }},
		{"front needle too many", func(m *impl.Machine) { m.Front = append(m.Front, nil) }},
		{"no front needles", func(m *impl.Machine) { m.Front = nil }},
		{"back needle missing", func(m *impl.Machine) { m.Back = m.Back[1:] }},
		{"back needle too many", func(m *impl.Machine) { m.Back = append(m.Back, nil) }},
		{"front needle of MaxStack + 1 loops", func(m *impl.Machine) { m.Front[2], m.Back[1], m.Back[4] = []int64{7, 8, 2, 6, 10}, nil, nil }},
		{"back needle of MaxStack + 1 loops", func(m *impl.Machine) { m.Back[4], m.Front[2], m.Back[1] = []int64{7, 8, 2, 6, 10}, nil, nil }},
	}
}

func harmfulCarriers() []change {
	return []change{
		{"carrier missing", func(m *impl.Machine) { m.Carriers = m.Carriers[:3] }},
		{"carrier too many", func(m *impl.Machine) { m.Carriers = append(m.Carriers, impl.Carrier{}) }},
		{"no carriers", func(m *impl.Machine) { m.Carriers = nil }},
		{"carrier before -MaxRack", func(m *impl.Machine) { m.Carriers[0].At = -4 }},
		{"carrier behind Width + MaxRack", func(m *impl.Machine) { m.Carriers[2].At = 9 }},
		{"carrier far away", func(m *impl.Machine) { m.Carriers[2].At = math.MaxInt64 }},
		{"carrier out with a place", func(m *impl.Machine) { m.Carriers[3].At = 1 }},
		{"carrier out with a negative place", func(m *impl.Machine) { m.Carriers[3].At = -1 }},
		{"carrier no longer in", func(m *impl.Machine) { m.Carriers[1].In = false }},
	}
}

func harmfulInfos() []change {
	return []change{
		{"MaxLoops + 1 loops", func(m *impl.Machine) { addLoops(m, 301-11) }},
		{"kind 0", func(m *impl.Machine) { m.Loops[0].Kind = 0 }},
		{"kind of OpMiss", func(m *impl.Machine) { m.Loops[0].Kind = 3 }},
		{"kind of OpXfer", func(m *impl.Machine) { m.Loops[7].Kind = 4 }},
		{"kind 6", func(m *impl.Machine) { m.Loops[7].Kind = 6 }},
		{"carrier 0 of a loop", func(m *impl.Machine) { m.Loops[3].Carrier = 0 }},
		{"carrier 5 of a loop", func(m *impl.Machine) { m.Loops[3].Carrier = 5 }},
		{"bed 0 of a loop", func(m *impl.Machine) { m.Loops[3].Bed = 0 }},
		{"bed 3 of a loop", func(m *impl.Machine) { m.Loops[3].Bed = 3 }},
		{"needle -1 of a loop", func(m *impl.Machine) { m.Loops[3].At = -1 }},
		{"needle of a loop not below Width", func(m *impl.Machine) { m.Loops[3].At = 5 }},
		{"direction 0 of a loop", func(m *impl.Machine) { m.Loops[3].Dir = 0 }},
		{"direction 2 of a loop", func(m *impl.Machine) { m.Loops[3].Dir = 2 }},
		{"zero loop", func(m *impl.Machine) { m.Loops[10] = impl.Info{} }},
	}
}

func harmfulParents() []change {
	return []change{
		{"tuck with a parent", func(m *impl.Machine) { m.Loops[8].Parents = []int64{0} }},
		{"split without parents", func(m *impl.Machine) { m.Loops[6].Parents = nil }},
		{"knit that became a split without parents", func(m *impl.Machine) { m.Loops[0].Kind = 5 }},
		{"knit that became a tuck with parents", func(m *impl.Machine) { m.Loops[7].Kind = 2 }},
		{"MaxStack + 1 parents of a knit", func(m *impl.Machine) { m.Loops[7].Parents = []int64{6, 0, 3, 1, 2} }},
		{"MaxStack + 1 parents of a split", func(m *impl.Machine) { m.Loops[10].Parents = []int64{6, 0, 3, 1, 2} }},
		{"equal parents", func(m *impl.Machine) { m.Loops[7].Parents = []int64{1, 1} }},
		{"equal parents, not neighbours", func(m *impl.Machine) { m.Loops[7].Parents = []int64{1, 5, 1} }},
		{"parent is the loop itself", func(m *impl.Machine) { m.Loops[7].Parents = []int64{7} }},
		{"parent is a later loop", func(m *impl.Machine) { m.Loops[7].Parents = []int64{1, 8} }},
		{"negative parent", func(m *impl.Machine) { m.Loops[7].Parents = []int64{-1} }},
		{"parent of the first loop", func(m *impl.Machine) { m.Loops[0].Parents = []int64{0} }},
		{"parent far away", func(m *impl.Machine) { m.Loops[7].Parents = []int64{math.MaxInt64} }},
	}
}

func harmfulPlaces() []change {
	return []change{
		{"dropped loops in the wrong order", func(m *impl.Machine) { m.Dropped = []int64{9, 0} }},
		{"dropped loop twice", func(m *impl.Machine) { m.Dropped = []int64{0, 0, 9} }},
		{"no such loop dropped", func(m *impl.Machine) { m.Dropped = []int64{0, 11} }},
		{"negative loop dropped", func(m *impl.Machine) { m.Dropped = []int64{-1, 0} }},
		{"loop dropped and on a needle", func(m *impl.Machine) { m.Dropped = []int64{0, 2, 9} }},
		{"dropped loop on a needle", func(m *impl.Machine) { m.Back[0] = []int64{0} }},
		{"loop twice on a needle", func(m *impl.Machine) { m.Front[2] = []int64{6, 6} }},
		{"loop on two needles of the front bed", func(m *impl.Machine) { m.Front[0] = []int64{6} }},
		{"loop on needles of both beds", func(m *impl.Machine) { m.Front[0] = []int64{10} }},
		{"no such loop on a needle", func(m *impl.Machine) { m.Front[0] = []int64{11} }},
		{"negative loop on a needle", func(m *impl.Machine) { m.Back[0] = []int64{-1} }},
		{"loop far away on a needle", func(m *impl.Machine) { m.Back[0] = []int64{math.MaxInt64} }},
		{"last loop missing", func(m *impl.Machine) { m.Loops = m.Loops[:10] }},
		{"no loops", func(m *impl.Machine) { m.Loops = nil }},
		{"many loops dropped", func(m *impl.Machine) { m.Dropped = rising(5000) }},
	}
}

func changed(m impl.Machine, c change) impl.Machine {
	m = copyOfMachine(m)
	c.do(&m)
	return m
}

// notMachines are states that are invalid in one field only, and the zero state.
func notMachines(t *testing.T) []impl.Machine {
	list := []impl.Machine{{}}
	for _, c := range harmfulChanges() {
		list = append(list, changed(richMachine(t), c))
	}
	return list
}

func TestValidMachine(t *testing.T) {
	for _, c := range harmlessChanges() {
		isValidState(t, c.name, changed(richMachine(t), c))
	}
	for _, c := range harmfulChanges() {
		m := changed(richMachine(t), c)
		is(t, c.name, result(impl.ValidMachine(m), isMachineByHand(m)), "[false false]")
	}
	is(t, "zero state", impl.ValidMachine(impl.Machine{}), false)
}

func TestInvalidMachines(t *testing.T) {
	for i, m := range notMachines(t) {
		name := fmt.Sprint("state ", i)
		for _, n := range []impl.Needle{onFront(2), onBack(1), onFront(0)} {
			is(t, name, result(impl.PlaceOf(m, n), result(impl.FacingOf(m, n)), impl.LoopsOn(m, n) == nil), "[0 [{0 0} false] true]")
		}
		live, code := impl.LiveLoops(m)
		is(t, name, result(len(live), code), result(0, impl.ErrInvalid))
		for _, o := range append(someOps(), notOps()...) {
			failsWith(t, m, o, impl.ErrInvalid)
		}
	}
}

func TestSameMachine(t *testing.T) {
	m := richMachine(t)
	is(t, "the same", result(impl.SameMachine(m, m), impl.SameMachine(m, copyOfMachine(m)), impl.SameMachine(impl.Machine{}, impl.Machine{})), "[true true true]")
	for _, c := range append(harmlessChanges(), harmfulChanges()...) {
		other := changed(m, c)
		is(t, c.name, result(impl.SameMachine(m, other), impl.SameMachine(other, m), impl.SameMachine(other, copyOfMachine(other))), "[false false true]")
	}
	for _, c := range []change{
		{"carrier of a loop", func(m *impl.Machine) { m.Loops[10].Carrier = 1 }},
		{"order of parents", func(m *impl.Machine) { m.Loops[7].Parents = []int64{5, 1} }},
		{"loop on the back bed", func(m *impl.Machine) { m.Back[1] = []int64{8, 7} }},
		{"last carrier", func(m *impl.Machine) { m.Carriers[3] = impl.Carrier{In: true} }},
		{"last dropped loop", func(m *impl.Machine) { m.Dropped = []int64{0, 10} }},
		{"loops moved from needle to needle", func(m *impl.Machine) { m.Front[2], m.Front[3] = nil, m.Front[2] }},
	} {
		is(t, c.name, impl.SameMachine(m, changed(m, c)), false)
	}
	empty := newMachine(t, 2)
	nothing := empty
	nothing.Front, nothing.Back, nothing.Loops, nothing.Dropped = [][]int64{{}, nil}, [][]int64{nil, {}}, []impl.Info{}, []int64{}
	is(t, "nil and empty", result(impl.SameMachine(empty, nothing), impl.SameMachine(impl.Machine{Carriers: []impl.Carrier{}}, impl.Machine{Front: [][]int64{}}), impl.SameMachine(impl.Machine{Loops: []impl.Info{{}}}, impl.Machine{Loops: []impl.Info{{Parents: []int64{}}}})), "[true true true]")
}

// The place that a carrier passes is that of the needle, and not its number.
func TestSidesOfCarriers(t *testing.T) {
	for _, width := range []int64{1, 5, 24} {
		for rack := int64(-3); rack <= 3; rack++ {
			for at := int64(-3); at <= width+3; at++ {
				m := newMachine(t, width)
				m.Rack, m.Carriers[2] = rack, impl.Carrier{In: true, At: at}
				for _, n := range []impl.Needle{onFront(0), onBack(0), onFront(width / 2), onBack(width / 2), onFront(width - 1), onBack(width - 1)} {
					areSidesChecked(t, m, n)
				}
			}
		}
	}
}

func areSidesChecked(t *testing.T, m impl.Machine, n impl.Needle) {
	t.Helper()
	at, x := m.Carriers[2].At, placeOfNeedle(m, n)
	for _, kind := range []int64{impl.OpKnit, impl.OpTuck, impl.OpMiss} {
		name := fmt.Sprint("kind, carrier, place ", kind, at, x)
		right, code := impl.StepMachine(m, yarnOp(kind, impl.DrRight, n, 3))
		if at <= x {
			is(t, name, result(code, right.Carriers), result(impl.OK, result("{false 0}", "{false 0}", impl.Carrier{In: true, At: x + 1}, "{false 0}")))
		} else {
			is(t, name, result(code, len(right.Carriers)), result(impl.ErrCarrier, 0))
		}
		left, code := impl.StepMachine(m, yarnOp(kind, impl.DrLeft, n, 3))
		if at >= x+1 {
			is(t, name, result(code, left.Carriers), result(impl.OK, result("{false 0}", "{false 0}", impl.Carrier{In: true, At: x}, "{false 0}")))
		} else {
			is(t, name, result(code, len(left.Carriers)), result(impl.ErrCarrier, 0))
		}
		failsWith(t, m, yarnOp(kind, impl.DrRight, n, 2), impl.ErrCarrier)
		failsWith(t, m, yarnOp(kind, impl.DrLeft, n, 4), impl.ErrCarrier)
	}
}

// At the ends a carrier comes to the least and to the greatest place.
func TestCarriersAtTheEnds(t *testing.T) {
	left := machineAfter(t, 1, []impl.Op{rackOp(-3), inOp(impl.DrRight, 1), knitOp(impl.DrRight, onBack(0), 1), knitOp(impl.DrLeft, onBack(0), 1)})
	is(t, "back to -MaxRack", left.Carriers[0], "{true -3}")
	right := machineAfter(t, 24, []impl.Op{rackOp(3), inOp(impl.DrLeft, 4), knitOp(impl.DrLeft, onBack(23), 4), knitOp(impl.DrRight, onBack(23), 4)})
	is(t, "back to Width + MaxRack", right.Carriers[3], "{true 27}")
	over := machineAfter(t, 24, []impl.Op{inOp(impl.DrRight, 1), missOp(impl.DrRight, onFront(23), 1), missOp(impl.DrLeft, onFront(0), 1)})
	is(t, "over all needles", over.Carriers[0], "{true 0}")
}

func TestInAndOut(t *testing.T) {
	m := newMachine(t, 5)
	for carrier := int64(1); carrier <= 4; carrier++ {
		for dir, at := range map[int64]int64{impl.DrRight: -3, impl.DrLeft: 8} {
			in := stepOf(t, m, inOp(dir, carrier))
			want := []impl.Carrier{{}, {}, {}, {}}
			want[carrier-1] = impl.Carrier{In: true, At: at}
			is(t, "in", in.Carriers, want)
			failsWith(t, in, inOp(dir, carrier), impl.ErrCarrier)
			failsWith(t, in, inOp(-dir, carrier), impl.ErrCarrier)
			is(t, "out", impl.SameMachine(stepOf(t, in, outOp(carrier)), m), true)
		}
		failsWith(t, m, outOp(carrier), impl.ErrCarrier)
	}
	again := machineAfter(t, 5, []impl.Op{inOp(1, 2), knitOp(1, onFront(2), 2), outOp(2), inOp(-1, 2)})
	is(t, "in again", result(again.Carriers, len(again.Loops)), "[[{false 0} {true 8} {false 0} {false 0}] 1]")
}

func TestRack(t *testing.T) {
	m := richMachine(t)
	for rack := int64(-3); rack <= 3; rack++ {
		want := copyOfMachine(m)
		want.Rack = rack
		is(t, "only the rack changes", impl.SameMachine(stepOf(t, m, rackOp(rack)), want), true)
	}
	failsWith(t, m, rackOp(4), impl.ErrInvalid)
	failsWith(t, m, rackOp(-4), impl.ErrInvalid)
}

func TestKnit(t *testing.T) {
	m := machineAfter(t, 3, stackOps(onBack(1), 4), []impl.Op{inOp(-1, 2)})
	knitted := stepOf(t, m, knitOp(-1, onBack(1), 2))
	is(t, "through MaxStack loops", result(knitted.Back, knitted.Loops[4], knitted.Carriers[1], len(knitted.Dropped)), "[[[] [4] []] {1 2 2 1 -1 [0 1 2 3]} {true 1} 0]")
	none := stepOf(t, m, knitOp(-1, onFront(2), 2))
	is(t, "without loops", result(none.Front, none.Loops[4]), "[[[] [] [4]] {1 2 1 2 -1 []}]")
	again := stepOf(t, none, knitOp(1, onFront(2), 2))
	is(t, "through that", result(again.Front, again.Loops[5]), "[[[] [] [5]] {1 2 1 2 1 [4]}]")
}

func TestTuck(t *testing.T) {
	m := machineAfter(t, 3, stackOps(onFront(1), 3), []impl.Op{inOp(1, 1), inOp(-1, 2)})
	full := stepOf(t, m, tuckOp(-1, onFront(1), 2))
	is(t, "behind the last one", result(full.Front, full.Loops[3], full.Carriers[1]), "[[[] [0 1 2 3] []] {2 2 1 1 -1 []} {true 1}]")
	failsWith(t, full, tuckOp(1, onFront(1), 1), impl.ErrFull)
	failsWith(t, full, tuckOp(1, onFront(1), 2), impl.ErrFull)
	is(t, "the other bed", stepOf(t, full, tuckOp(1, onBack(1), 1)).Back, "[[] [4] []]")
}

func TestMiss(t *testing.T) {
	m := richMachine(t)
	want := copyOfMachine(m)
	want.Carriers[0].At = 4
	is(t, "only the carrier moves", impl.SameMachine(stepOf(t, m, missOp(1, onBack(1), 1)), want), true)
}

// The loops that are moved come before those on the back bed, and behind those on the front bed.
func TestOrderOfMovedLoops(t *testing.T) {
	both := machineAfter(t, 3, stackOps(onFront(1), 2), stackOps(onBack(1), 2), []impl.Op{inOp(1, 1)})
	back := stepOf(t, both, xferOp(onFront(1), onBack(1)))
	is(t, "to the back bed", result(back.Front, back.Back), "[[[] [] []] [[] [0 1 2 3] []]]")
	front := stepOf(t, both, xferOp(onBack(1), onFront(1)))
	is(t, "to the front bed", result(front.Front, front.Back), "[[[] [0 1 2 3] []] [[] [] []]]")
	splitBack := stepOf(t, both, splitOp(1, onFront(1), onBack(1), 1))
	is(t, "split to the back bed", result(splitBack.Front, splitBack.Back, splitBack.Loops[4], splitBack.Carriers[0]), "[[[] [4] []] [[] [0 1 2 3] []] {5 1 1 1 1 [0 1]} {true 2}]")
	splitFront := stepOf(t, both, splitOp(1, onBack(1), onFront(1), 1))
	is(t, "split to the front bed", result(splitFront.Front, splitFront.Back, splitFront.Loops[4]), "[[[] [0 1 2 3] []] [[] [4] []] {5 1 2 1 1 [2 3]}]")
	racked := stepOf(t, stepOf(t, back, rackOp(-1)), xferOp(onBack(1), onFront(0)))
	is(t, "with a rack", result(racked.Front, racked.Back), "[[[0 1 2 3] [] []] [[] [] []]]")
}

func TestNeedlesOfMaxStackLoops(t *testing.T) {
	for from := range 5 {
		for to := range 5 {
			for _, n := range []impl.Needle{onFront(1), onBack(1)} {
				other := impl.Needle{Bed: 3 - n.Bed, At: 1}
				m := machineAfter(t, 3, stackOps(n, from), stackOps(other, to), []impl.Op{inOp(1, 1)})
				want := int64(impl.OK)
				if from == 0 {
					want = impl.ErrEmpty
				} else if from+to > 4 {
					want = impl.ErrFull
				}
				for _, o := range []impl.Op{xferOp(n, other), splitOp(1, n, other, 1)} {
					if want != impl.OK {
						failsWith(t, m, o, want)
						continue
					}
					is(t, "loops", len(impl.LoopsOn(stepOf(t, m, o), other)), from+to)
				}
			}
		}
	}
}

func TestDrop(t *testing.T) {
	m := machineAfter(t, 3, stackOps(onFront(0), 1), stackOps(onBack(2), 2), stackOps(onFront(2), 1))
	for _, c := range []struct {
		needles []impl.Needle
		want    string
	}{
		{[]impl.Needle{onFront(2), onBack(2), onFront(0)}, "[0 1 2 3]"},
		{[]impl.Needle{onBack(2), onFront(0)}, "[0 1 2]"},
		{[]impl.Needle{onFront(2), onFront(0)}, "[0 3]"},
	} {
		dropped := m
		for _, n := range c.needles {
			dropped = stepOf(t, dropped, dropOp(n))
			is(t, "loops", len(impl.LoopsOn(dropped, n)), 0)
			failsWith(t, dropped, dropOp(n), impl.ErrEmpty)
		}
		is(t, "in ascending order", result(dropped.Dropped, len(dropped.Loops)), result(c.want, 4))
	}
	reversed := machineAfter(t, 2, stackOps(onFront(0), 2), stackOps(onFront(1), 1), []impl.Op{xferOp(onFront(0), onBack(0)), rackOp(1), xferOp(onBack(0), onFront(1)), dropOp(onFront(1))})
	is(t, "a needle with loops in another order", reversed.Dropped, "[0 1 2]")
}

// Of two errors, the one that is listed before the other one is found.
func TestOrderOfErrors(t *testing.T) {
	fullStack := machineAfter(t, 3, stackOps(onFront(1), 4), stackOps(onBack(1), 2), []impl.Op{inOp(1, 1)})
	failsWith(t, fullStack, tuckOp(-1, onFront(1), 1), impl.ErrCarrier)
	failsWith(t, fullStack, tuckOp(1, onFront(1), 2), impl.ErrCarrier)
	failsWith(t, fullStack, splitOp(-1, onFront(1), onBack(2), 1), impl.ErrCarrier)
	failsWith(t, fullStack, splitOp(-1, onFront(0), onBack(0), 1), impl.ErrCarrier)
	failsWith(t, fullStack, splitOp(-1, onFront(1), onBack(1), 1), impl.ErrCarrier)
	failsWith(t, fullStack, knitOp(-1, onFront(3), 1), impl.ErrInvalid)
	failsWith(t, fullStack, splitOp(-1, onFront(1), onBack(3), 2), impl.ErrInvalid)
	failsWith(t, fullStack, xferOp(onFront(3), onBack(1)), impl.ErrInvalid)
	failsWith(t, fullStack, xferOp(onFront(0), onBack(3)), impl.ErrInvalid)
	failsWith(t, fullStack, dropOp(onBack(3)), impl.ErrInvalid)
	failsWith(t, fullStack, xferOp(onFront(0), onBack(1)), impl.ErrRack)
	failsWith(t, fullStack, splitOp(1, onFront(0), onBack(1), 1), impl.ErrRack)
	failsWith(t, fullStack, splitOp(1, onBack(0), onFront(1), 1), impl.ErrRack)
	failsWith(t, stepOf(t, fullStack, rackOp(1)), xferOp(onBack(1), onFront(1)), impl.ErrRack)
	failsWith(t, fullStack, xferOp(onBack(1), onFront(1)), impl.ErrFull)
	failsWith(t, fullStack, splitOp(1, onBack(1), onFront(1), 1), impl.ErrFull)

	fullLoops := copyOfMachine(fullStack)
	addLoops(&fullLoops, 300-6)
	isValidState(t, "MaxLoops loops", fullLoops)
	failsWith(t, fullLoops, knitOp(-1, onFront(1), 1), impl.ErrCarrier)
	failsWith(t, fullLoops, knitOp(1, onFront(1), 3), impl.ErrCarrier)
	failsWith(t, fullLoops, knitOp(1, onFront(1), 1), impl.ErrFull)
	failsWith(t, fullLoops, tuckOp(1, onFront(0), 1), impl.ErrFull)
	failsWith(t, fullLoops, splitOp(1, onFront(0), onBack(1), 1), impl.ErrFull)
	failsWith(t, fullLoops, splitOp(1, onFront(0), onBack(0), 1), impl.ErrFull)
	failsWith(t, fullLoops, splitOp(-1, onFront(0), onBack(1), 1), impl.ErrCarrier)
	failsWith(t, fullLoops, knitOp(1, onFront(24), 1), impl.ErrInvalid)
	stepOf(t, fullLoops, missOp(1, onFront(1), 1))
	stepOf(t, fullLoops, dropOp(onFront(1)))
}

// loopOps makes so many loops on one needle, one through the other.
func loopOps(loops int) []impl.Op {
	ops := []impl.Op{inOp(1, 1)}
	for i := range loops {
		ops = append(ops, knitOp(int64(1-i%2*2), onFront(0), 1))
	}
	return ops
}

func TestMaxLoopsLoops(t *testing.T) {
	m := machineAfter(t, 1, loopOps(300))
	is(t, "loops", result(len(m.Loops), m.Front, m.Loops[299].Parents), "[300 [[299]] [298]]")
	before, n, code := impl.RunMachine(1, append(loopOps(300), knitOp(1, onFront(0), 1)))
	is(t, "one more", result(n, code, impl.SameMachine(before, m)), result(301, impl.ErrFull, true))
	for _, o := range []impl.Op{knitOp(1, onBack(0), 1), tuckOp(1, onBack(0), 1), splitOp(1, onFront(0), onBack(0), 1)} {
		failsWith(t, m, o, impl.ErrFull)
		fewer, code := impl.StepMachine(machineAfter(t, 1, loopOps(299)), o)
		if o.Dir == 1 {
			is(t, "the carrier comes from the wrong side", result(code, len(fewer.Loops)), result(impl.ErrCarrier, 0))
		}
		o.Dir = -1
		last := stepOf(t, machineAfter(t, 1, loopOps(299)), o)
		is(t, "the last loop", len(last.Loops), 300)
	}
}

func TestMaxOpsOperations(t *testing.T) {
	ops := slices.Repeat([]impl.Op{rackOp(1), rackOp(-2)}, 750)
	m := machineAfter(t, 2, ops)
	is(t, "MaxOps", m.Rack, -2)
	none, n, code := impl.RunMachine(2, append(ops, rackOp(0)))
	is(t, "one more", result(impl.SameMachine(none, impl.Machine{}), n, code), result(true, 0, impl.ErrInvalid))
	none, n, code = impl.RunMachine(2, slices.Concat([]impl.Op{outOp(1)}, ops))
	is(t, "one more, the first of which fails", result(impl.SameMachine(none, impl.Machine{}), n, code), result(true, 0, impl.ErrInvalid))
}

func TestRunMachine(t *testing.T) {
	m := machineAfter(t, 3, nil)
	is(t, "no operations", impl.SameMachine(m, newMachine(t, 3)), true)
	one := machineAfter(t, 1, []impl.Op{inOp(1, 1), knitOp(1, onFront(0), 1), rackOp(0), xferOp(onFront(0), onBack(0)), outOp(1)})
	is(t, "width 1", result(one.Front, one.Back, one.Carriers[0]), "[[[]] [[0]] {false 0}]")
	wide := machineAfter(t, 24, []impl.Op{inOp(-1, 4), knitOp(-1, onBack(23), 4), xferOp(onBack(23), onFront(23))})
	is(t, "width MaxNeedles", result(wide.Front[23], len(wide.Back[23])), "[[0] 0]")
	for _, width := range []int64{math.MinInt64, -1, 0, 25, math.MaxInt64} {
		none, n, code := impl.RunMachine(width, []impl.Op{rackOp(1)})
		is(t, fmt.Sprint("width ", width), result(impl.SameMachine(none, impl.Machine{}), n, code), result(true, 0, impl.ErrInvalid))
		none, n, code = impl.RunMachine(width, nil)
		is(t, fmt.Sprint("width ", width), result(impl.SameMachine(none, impl.Machine{}), n, code), result(true, 0, impl.ErrInvalid))
	}
}

// The state before the operation that fails is returned, also if a part of it could be executed.
func TestRunMachineThatFails(t *testing.T) {
	start := []impl.Op{inOp(1, 1), knitOp(1, onFront(1), 1), tuckOp(-1, onFront(1), 1)}
	for _, c := range []struct {
		before []impl.Op
		fails  impl.Op
		code   int64
	}{
		{nil, outOp(1), impl.ErrCarrier},
		{start, inOp(1, 1), impl.ErrCarrier},
		{start, knitOp(-1, onFront(1), 1), impl.ErrCarrier},
		{start, splitOp(1, onFront(2), onBack(2), 1), impl.ErrEmpty},
		{start, splitOp(1, onFront(1), onBack(2), 1), impl.ErrRack},
		{start, xferOp(onFront(1), onBack(0)), impl.ErrRack},
		{start, xferOp(onBack(1), onFront(1)), impl.ErrEmpty},
		{start, dropOp(onFront(0)), impl.ErrEmpty},
		{slices.Concat(start, stackOps(onBack(1), 3)), xferOp(onFront(1), onBack(1)), impl.ErrFull},
		{slices.Concat(start, stackOps(onBack(1), 3)), splitOp(1, onFront(1), onBack(1), 1), impl.ErrFull},
		{slices.Concat(start, stackOps(onBack(1), 3)), splitOp(1, onBack(1), onFront(1), 1), impl.ErrFull},
		{slices.Concat(start, stackOps(onBack(2), 4)), tuckOp(1, onBack(2), 1), impl.ErrFull},
	} {
		want := machineAfter(t, 3, c.before)
		got, n, code := impl.RunMachine(3, slices.Concat(c.before, []impl.Op{c.fails, rackOp(1), outOp(3)}))
		is(t, fmt.Sprint("fails ", c.fails), result(n, code, impl.SameMachine(got, want)), result(len(c.before), c.code, true))
		isValidState(t, "state before", got)
		failsWith(t, want, c.fails, c.code)
	}
}

// Operations that are not valid are found before all that fail.
func TestRunMachineOfInvalidOperations(t *testing.T) {
	tooFar := []impl.Op{knitOp(1, onFront(5), 1), tuckOp(1, onBack(5), 1), missOp(1, onFront(23), 1), xferOp(onFront(5), onBack(4)), xferOp(onFront(4), onBack(5)), splitOp(1, onFront(4), onBack(5), 1), splitOp(1, onBack(5), onFront(4), 1), dropOp(onFront(5)), dropOp(onBack(23))}
	for _, o := range append(notOps(), tooFar...) {
		for _, ops := range [][]impl.Op{{o}, {rackOp(1), o}, {o, rackOp(1)}, {outOp(1), o}, {inOp(1, 1), dropOp(onFront(0)), rackOp(2), o}} {
			none, n, code := impl.RunMachine(5, ops)
			is(t, fmt.Sprint("RunMachine of ", ops), result(impl.SameMachine(none, impl.Machine{}), n, code), result(true, 0, impl.ErrInvalid))
		}
		failsWith(t, newMachine(t, 5), o, impl.ErrInvalid)
		failsWith(t, richMachine(t), o, impl.ErrInvalid)
	}
	for _, o := range tooFar {
		_, _, code := impl.RunMachine(24, []impl.Op{o})
		is(t, fmt.Sprint("a width that is great enough ", o), code == impl.ErrInvalid, false)
	}
}

// dice throws numbers by a fixed rule.
type dice uint64

func (d *dice) below(n int64) int64 {
	*d = *d*6364136223846793005 + 1442695040888963407
	return int64(*d>>33) % n
}

func (d *dice) needle(width int64) impl.Needle {
	return impl.Needle{Bed: 1 + d.below(2), At: d.below(width)}
}

func (d *dice) dir() int64 { return 1 - 2*d.below(2) }

// op throws an operation; most are valid, and needles that face one another are frequent.
func (d *dice) op(m impl.Machine) impl.Op {
	n, carrier := d.needle(m.Width), 1+d.below(2)
	other := impl.Needle{Bed: 3 - n.Bed, At: placeOfNeedle(m, n) - m.Rack*(2-n.Bed)}
	if d.below(9) == 0 {
		other = d.needle(m.Width + 1)
	}
	switch roll := d.below(60); {
	case roll < 10:
		return knitOp(d.dir(), n, carrier)
	case roll < 24:
		return tuckOp(d.dir(), n, carrier)
	case roll < 28:
		return missOp(d.dir(), n, carrier)
	case roll < 40:
		return xferOp(n, other)
	case roll < 46:
		return splitOp(d.dir(), n, other, carrier)
	case roll < 48:
		return dropOp(n)
	case roll < 54:
		return rackOp(d.below(9) - 4)
	case roll < 58:
		return inOp(d.dir(), carrier)
	case roll < 59:
		return outOp(carrier)
	}
	return impl.Op{Kind: d.below(11), Dir: d.dir(), From: n, To: other, Carrier: carrier - 1}
}

// P8: many operations, each compared with what is done by hand.
func TestManyOperations(t *testing.T) {
	for _, width := range []int64{1, 2, 3, 5, 24} {
		for seed := range 6 {
			d := dice(seed)
			m := newMachine(t, width)
			var done []impl.Op
			for range 1200 {
				o := d.op(m)
				next := isStepByHand(t, m, o)
				if next.Width > 0 {
					m, done = next, append(done, o)
				}
			}
			is(t, "many operations were executed", len(done) > 100, true)
			isNoLoopLost(t, m)
			isRunLikeSteps(t, width, done, m)
		}
	}
}

// isStepByHand compares a step with what is done by hand, and returns the state.
func isStepByHand(t *testing.T, m impl.Machine, o impl.Op) impl.Machine {
	t.Helper()
	before := copyOfMachine(m)
	want, wantCode := stepByHand(m, o)
	next, code := impl.StepMachine(m, o)
	if code != wantCode || !isSameByHand(next, want) || !impl.SameMachine(next, want) {
		t.Errorf("%v of %v: got %v %d, want %v %d", o, m, next, code, want, wantCode)
	}
	if code == impl.OK && (!isMachineByHand(next) || !impl.ValidMachine(next)) {
		t.Errorf("%v of %v: %v is not valid", o, m, next)
	}
	if !isSameByHand(m, before) {
		t.Errorf("%v of %v changed its argument", o, before)
	}
	if code == impl.OK {
		isOrderKept(t, m, next, o)
	}
	return next
}

// P8: transfers keep the order of all loops; a loop that a split makes is the only new one.
func isOrderKept(t *testing.T, m, next impl.Machine, o impl.Op) {
	t.Helper()
	before, codeBefore := impl.LiveLoops(m)
	after, codeAfter := impl.LiveLoops(next)
	is(t, "LiveLoops", result(after, codeBefore, codeAfter), result(liveByHand(next), impl.OK, impl.OK))
	switch o.Kind {
	case impl.OpMiss, impl.OpXfer, impl.OpIn, impl.OpOut:
		is(t, fmt.Sprint("order after ", o), after, before)
	case impl.OpSplit, impl.OpTuck:
		old := slices.DeleteFunc(after, func(loop int64) bool { return loop == int64(len(m.Loops)) })
		is(t, fmt.Sprint("order after ", o), old, before)
	}
}

// P8: a loop is on exactly one needle, or in Dropped, or a parent of a loop that was knitted.
func isNoLoopLost(t *testing.T, m impl.Machine) {
	t.Helper()
	found := make([]int, len(m.Loops))
	lists := append(slices.Concat(m.Front, m.Back), m.Dropped)
	for _, loop := range m.Loops {
		if loop.Kind == impl.OpKnit {
			lists = append(lists, loop.Parents)
		}
	}
	for _, loop := range slices.Concat(lists...) {
		found[loop]++
	}
	for loop, times := range found {
		is(t, fmt.Sprint("loop ", loop), times, 1)
	}
}

// isRunLikeSteps compares RunMachine of all operations, and of some at the beginning, with the steps.
func isRunLikeSteps(t *testing.T, width int64, ops []impl.Op, want impl.Machine) {
	t.Helper()
	is(t, "RunMachine", impl.SameMachine(machineAfter(t, width, ops), want), true)
	m := newMachine(t, width)
	for i, o := range ops[:100] {
		failing := impl.Op{Kind: impl.OpOut, Carrier: 4}
		got, n, code := impl.RunMachine(width, slices.Concat(ops[:i], []impl.Op{failing}, ops[i:]))
		is(t, "RunMachine that fails", result(n, code, impl.SameMachine(got, m)), result(i, impl.ErrCarrier, true))
		isNoLoopLost(t, got)
		m = stepOf(t, m, o)
	}
}

// P8: states that operations cannot reach are treated in the same way.
func TestOperationsOfOtherStates(t *testing.T) {
	changes := append(harmlessChanges(), harmfulChanges()...)
	for i, c := range changes {
		m := changed(richMachine(t), c)
		d := dice(i)
		for range 300 {
			near := m
			near.Width = min(max(m.Width, 1), 24)
			isStepByHand(t, m, d.op(near))
		}
	}
}

// A state that is changed afterwards leaves the one before it as it was, and the other way round.
func TestStatesShareNoMemory(t *testing.T) {
	m := richMachine(t)
	for _, o := range opsOfRichMachine() {
		before := copyOfMachine(m)
		next := stepOf(t, m, o)
		after := copyOfMachine(next)
		scribbleMachine(m)
		is(t, fmt.Sprint("the state after ", o), fmt.Sprint(next), fmt.Sprint(after))
		m = copyOfMachine(before)
		second := stepOf(t, m, o)
		scribbleMachine(second)
		is(t, fmt.Sprint("the state before ", o), fmt.Sprint(m), fmt.Sprint(before))
		is(t, fmt.Sprint("lists that share memory after ", o), shareMemory(listsOfMachine(next)), false)
	}
}

// listsOfMachine returns all lists of loops of a state.
func listsOfMachine(m impl.Machine) [][]int64 {
	lists := append(slices.Concat(m.Front, m.Back), m.Dropped)
	for _, loop := range m.Loops {
		lists = append(lists, loop.Parents)
	}
	return lists
}

// scribbleMachine overwrites all that a state holds, and its unused capacity.
func scribbleMachine(m impl.Machine) {
	for _, list := range listsOfMachine(m) {
		scribble(result(list))
	}
	scribble(result(m.Front, m.Back))
	for i := range m.Carriers[:cap(m.Carriers)] {
		m.Carriers[:cap(m.Carriers)][i] = impl.Carrier{At: -9}
	}
	for i := range m.Loops[:cap(m.Loops)] {
		m.Loops[:cap(m.Loops)][i] = impl.Info{Kind: -9}
	}
}
