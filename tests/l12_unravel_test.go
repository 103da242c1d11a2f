package tests

import (
	"fmt"
	"math"
	"slices"
	"testing"

	"loop.example/g00856/impl"
)

// undoneByHand begins with all loops that are not on needles, and takes away those of which a child is not among them, until there are none.
func undoneByHand(m impl.Machine) []int64 {
	gone := map[int64]bool{}
	for loop := range m.Loops {
		gone[int64(loop)] = !liveByTable(m)[int64(loop)]
	}
	for changed := true; changed; {
		changed = false
		for child, info := range m.Loops {
			for _, parent := range info.Parents {
				if gone[parent] && !gone[int64(child)] {
					gone[parent], changed = false, true
				}
			}
		}
	}
	list := []int64{}
	for loop := range int64(len(m.Loops)) {
		if gone[loop] {
			list = append(list, loop)
		}
	}
	return list
}

// slipped returns the state in which a loop is not on its needle.
func slipped(m impl.Machine, loop int64) impl.Machine {
	m = copyOfMachine(m)
	for _, needles := range [][][]int64{m.Front, m.Back} {
		for at := range needles {
			needles[at] = slices.DeleteFunc(needles[at], func(other int64) bool { return other == loop })
		}
	}
	return m
}

func runByHand(m impl.Machine, loop int64) []int64 {
	before := undoneByHand(m)
	return slices.DeleteFunc(undoneByHand(slipped(m, loop)), func(other int64) bool { return slices.Contains(before, other) })
}

func ladderByHand(m impl.Machine, loop int64) int {
	run, wale := runByHand(m, loop), waleByHand(m, loop)
	steps := 0
	for steps < len(wale) && slices.Contains(run, wale[steps]) {
		steps++
	}
	return steps
}

func weakByHand(m impl.Machine) []int64 {
	sizes := map[int64]int{}
	most := 0
	for loop := range liveByTable(m) {
		sizes[loop] = len(runByHand(m, loop))
		most = max(most, sizes[loop])
	}
	list := []int64{}
	for loop := range int64(len(m.Loops)) {
		if size, live := sizes[loop]; live && size == most {
			list = append(list, loop)
		}
	}
	return list
}

// unknitCodeByHand looks for the first line of the table of errors that applies.
func unknitCodeByHand(m impl.Machine) int64 {
	if !isMachineByHand(m) {
		return impl.ErrInvalid
	}
	if len(m.Loops) == 0 {
		return impl.ErrEmpty
	}
	number := int64(len(m.Loops)) - 1
	last := m.Loops[number]
	n := impl.Needle{Bed: last.Bed, At: last.At}
	own := rowOf(m, n.Bed)[n.At]
	at := slices.Index(own, number)
	if at < 0 || last.Kind == 2 && at != len(own)-1 || last.Kind != 2 && len(own) != 1 {
		return impl.ErrState
	}
	for _, parent := range last.Parents {
		if last.Kind == 1 && (liveByTable(m)[parent] || slices.Contains(m.Dropped, parent)) {
			return impl.ErrState
		}
	}
	if last.Kind == 5 {
		loops, faces := facingByHand(m, n)
		parents := fmt.Sprint(last.Parents)
		k := len(last.Parents)
		if !faces || len(loops) < k || n.Bed == 1 && fmt.Sprint(loops[:k]) != parents || n.Bed == 2 && fmt.Sprint(loops[len(loops)-k:]) != parents {
			return impl.ErrState
		}
	}
	x := placeOfNeedle(m, n)
	if c := m.Carriers[last.Carrier-1]; !c.In || last.Dir == 1 && c.At != x+1 || last.Dir == -1 && c.At != x {
		return impl.ErrCarrier
	}
	return impl.OK
}

// facingByHand returns the loops on the needle that faces another one.
func facingByHand(m impl.Machine, n impl.Needle) ([]int64, bool) {
	for at, loops := range rowOf(m, 3-n.Bed) {
		if placeOfNeedle(m, impl.Needle{Bed: 3 - n.Bed, At: int64(at)}) == placeOfNeedle(m, n) {
			return loops, true
		}
	}
	return nil, false
}

// unknitByHand takes back the last loop as the document says.
func unknitByHand(m impl.Machine) (impl.Machine, int64) {
	if code := unknitCodeByHand(m); code != impl.OK {
		return impl.Machine{}, code
	}
	m = copyOfMachine(m)
	number := int64(len(m.Loops)) - 1
	last := m.Loops[number]
	if last.Kind == 5 {
		for _, parent := range last.Parents {
			m = slipped(m, parent)
		}
	}
	n := impl.Needle{Bed: last.Bed, At: last.At}
	if last.Kind == 2 {
		m = slipped(m, number)
	} else {
		rowOf(m, n.Bed)[n.At] = slices.Clone(last.Parents)
	}
	m.Loops = m.Loops[:number]
	m.Carriers[last.Carrier-1].At = placeOfNeedle(m, n) + map[int64]int64{1: 0, -1: 1}[last.Dir]
	return m, impl.OK
}

// isUnknitByHand compares Unknit with what is done by hand, and returns the state.
func isUnknitByHand(t *testing.T, name string, m impl.Machine) (impl.Machine, int64) {
	t.Helper()
	before := copyOfMachine(m)
	want, wantCode := unknitByHand(m)
	got, code := impl.Unknit(m)
	if code != wantCode || !isSameByHand(got, want) {
		t.Errorf("%s: Unknit of %v: got %v %d, want %v %d", name, m, got, code, want, wantCode)
	}
	if code == impl.OK && !isMachineByHand(got) {
		t.Errorf("%s: Unknit of %v: %v is not valid", name, m, got)
	}
	is(t, name+": the argument of Unknit", isSameByHand(m, before), true)
	return got, code
}

// isNotUnknit checks the error of Unknit, and that there is no state.
func isNotUnknit(t *testing.T, name string, m impl.Machine, want int64) {
	t.Helper()
	got, code := isUnknitByHand(t, name, m)
	is(t, name, result(code, impl.SameMachine(got, impl.Machine{})), result(want, true))
}

func TestExampleOfRuns(t *testing.T) {
	for _, m := range []impl.Machine{machineAfter(t, 1, loopOps(3)), chain(t, 3)} {
		is(t, "RunOf", result(impl.RunOf(m, 2)), "[[0 1 2] 0]")
		is(t, "LadderOf", result(impl.LadderOf(m, 2)), "[3 0]")
	}
}

func TestUndone(t *testing.T) {
	for _, c := range []struct {
		name          string
		live, dropped []int64
		parents       [][]int64
		want          string
	}{
		{"on a needle", []int64{0}, nil, [][]int64{nil}, "[]"},
		{"loose", nil, nil, [][]int64{nil}, "[0]"},
		{"dropped", nil, []int64{0}, [][]int64{nil}, "[0]"},
		{"held", []int64{1}, nil, [][]int64{nil, {0}}, "[]"},
		{"dropped, and held by a child on a needle", []int64{1}, []int64{0}, [][]int64{nil, {0}}, "[]"},
		{"dropped, and held by a dropped child that is held", []int64{2}, []int64{0, 1}, [][]int64{nil, {0}, {1}}, "[]"},
		{"with a child that is dropped", nil, []int64{1}, [][]int64{nil, {0}}, "[0 1]"},
		{"with a child that comes undone", nil, nil, [][]int64{nil, {0}, {1}, {2}}, "[0 1 2 3]"},
		{"on a needle, with a child that comes undone", []int64{1}, nil, [][]int64{nil, {0}, {1}}, "[2]"},
		{"one of two children is on a needle", []int64{2}, nil, [][]int64{nil, {0}, {0}}, "[1]"},
		{"the first of four children is on a needle", []int64{1}, nil, [][]int64{nil, {0}, {0}, {0}, {0}}, "[2 3 4]"},
		{"the last of four children is on a needle", []int64{4}, nil, [][]int64{nil, {0}, {0}, {0}, {0}}, "[1 2 3]"},
		{"no child is on a needle", nil, []int64{2}, [][]int64{nil, {0}, {0}, {0}}, "[0 1 2 3]"},
		{"several parents of a loop that is on a needle", []int64{3}, nil, [][]int64{nil, nil, nil, {2, 0, 1}}, "[]"},
		{"several parents of a loop that comes undone", nil, nil, [][]int64{nil, nil, nil, nil, {2, 0, 3, 1}}, "[0 1 2 3 4]"},
		{"one of several parents is held by another child", []int64{4}, nil, [][]int64{nil, nil, nil, {2, 0, 1}, {1}}, "[0 2 3]"},
		{"one of several parents is on a needle", []int64{1}, nil, [][]int64{nil, nil, nil, {2, 1, 0}}, "[0 2 3]"},
		{"a child and a grandchild hold it", []int64{2}, nil, [][]int64{nil, {0}, {1, 0}}, "[]"},
		{"a child and a grandchild come undone", nil, nil, [][]int64{nil, {0}, {1, 0}}, "[0 1 2]"},
		{"held at the end of a long way", []int64{5}, nil, [][]int64{nil, {0}, {1}, {2}, {3}, {4}, {2}}, "[6]"},
		{"no loops", nil, nil, nil, "[]"},
	} {
		m := graph(t, c.live, c.dropped, c.parents...)
		is(t, c.name+": Undone", result(impl.Undone(m)), result(c.want, impl.OK))
		is(t, c.name+": IsSecure", impl.IsSecure(m), c.want == "[]")
		is(t, c.name+": by hand", undoneByHand(m), c.want)
	}
}

func TestUndoneOfMaxLoopsLoops(t *testing.T) {
	for _, m := range []impl.Machine{chain(t, 300), mesh(t, 300)} {
		is(t, "held by the last one", result(result(impl.Undone(m)), impl.IsSecure(m), result(impl.RunOf(m, 299)), result(impl.WeakLoops(m))), result("[[] 0]", true, result(rising(300), impl.OK), "[[299] 0]"))
		m.Front[1] = nil
		is(t, "held by none", result(result(impl.Undone(m)), impl.IsSecure(m), result(impl.WeakLoops(m))), result(result(rising(300), impl.OK), false, "[[] 0]"))
		m.Back[7] = []int64{100}
		is(t, "held by one in the middle", result(impl.Undone(m)), result(rising(300)[101:], impl.OK))
		m.Back[7] = nil
		m.Dropped = rising(300)
		is(t, "all dropped", result(result(impl.Undone(m)), impl.IsSecure(m)), result(result(rising(300), impl.OK), false))
	}
	loose := graph(t, nil, nil, slices.Repeat([][]int64{nil}, 300)...)
	is(t, "without parents", result(impl.Undone(loose)), result(rising(300), impl.OK))
	fan := graph(t, []int64{299}, nil, append([][]int64{nil}, slices.Repeat([][]int64{{0}}, 299)...)...)
	is(t, "all children of one", result(result(impl.Undone(fan)), result(impl.RunOf(fan, 299)), result(impl.LadderOf(fan, 299))), result(result(rising(299)[1:], impl.OK), "[[0 299] 0]", "[2 0]"))
}

func TestRuns(t *testing.T) {
	for _, c := range []struct {
		name    string
		live    []int64
		parents [][]int64
		loop    int64
		run     string
		ladder  int
	}{
		{"without parents", []int64{0}, [][]int64{nil}, 0, "[0]", 1},
		{"the others are held", []int64{1, 2}, [][]int64{nil, {0}, nil}, 1, "[0 1]", 2},
		{"held by a child on a needle", []int64{0, 1}, [][]int64{nil, {0}}, 0, "[]", 0},
		{"not held by a child that comes undone", []int64{0}, [][]int64{nil, {0}}, 0, "[0]", 1},
		{"held by a grandchild on a needle", []int64{1, 3}, [][]int64{nil, {0}, {1}, {2}}, 1, "[]", 0},
		{"the parent is on a needle", []int64{0, 1}, [][]int64{nil, {0}}, 1, "[1]", 1},
		{"the parent of the parent is on a needle", []int64{0, 2}, [][]int64{nil, {0}, {1}}, 2, "[1 2]", 2},
		{"the parent is held by another child", []int64{2, 1}, [][]int64{nil, {0}, {0}}, 2, "[2]", 1},
		{"the other child comes undone", []int64{2}, [][]int64{nil, {0}, {0}}, 2, "[0 2]", 2},
		{"the first parent is held by another child", []int64{2, 3}, [][]int64{nil, nil, {0, 1}, {0}}, 2, "[1 2]", 1},
		{"the second parent is held by another child", []int64{2, 3}, [][]int64{nil, nil, {0, 1}, {1}}, 2, "[0 2]", 2},
		{"both parents are held by another child", []int64{2, 3}, [][]int64{nil, nil, {0, 1}, {1, 0}}, 2, "[2]", 1},
		{"only the first child", []int64{1, 2}, [][]int64{nil, {0}, {0}}, 1, "[1]", 1},
		{"the wale is longer than the run", []int64{4, 5}, [][]int64{nil, {0}, {1}, {2}, {3}, {1}}, 4, "[2 3 4]", 3},
		{"the wale goes on behind a loop that is held", []int64{3, 4}, [][]int64{nil, nil, {0}, {2, 1}, {2}}, 3, "[1 3]", 1},
		{"the run is longer than the wale", []int64{4}, [][]int64{nil, {0}, nil, {2}, {2, 3, 1}}, 4, "[0 1 2 3 4]", 2},
		{"loops that come undone already", []int64{2}, [][]int64{nil, {0}, {0}, {1}, nil}, 2, "[0 2]", 2},
		{"one of several on needles", []int64{3, 4, 5, 6}, [][]int64{nil, nil, {0}, {0}, {2}, {2, 1}, {1}}, 3, "[3]", 1},
		{"a child and a grandchild", []int64{2}, [][]int64{nil, {0}, {1, 0}}, 2, "[0 1 2]", 3},
	} {
		m := graph(t, c.live, nil, c.parents...)
		is(t, c.name+": RunOf", result(impl.RunOf(m, c.loop)), result(c.run, impl.OK))
		is(t, c.name+": LadderOf", result(impl.LadderOf(m, c.loop)), result(c.ladder, impl.OK))
		is(t, c.name+": by hand", result(runByHand(m, c.loop), ladderByHand(m, c.loop)), result(c.run, c.ladder))
	}
	dropped := graph(t, []int64{3}, []int64{1, 2}, nil, []int64{0}, nil, []int64{2, 1})
	is(t, "parents in Dropped", result(result(impl.RunOf(dropped, 3)), result(impl.LadderOf(dropped, 3))), "[[[0 1 2 3] 0] [2 0]]")
}

// A split leaves its parents on a needle, where the new loop holds them, too.
func TestRunsOfSplits(t *testing.T) {
	m := machineAfter(t, 2, []impl.Op{inOp(1, 1), tuckOp(1, onFront(0), 1), tuckOp(-1, onFront(0), 1), splitOp(1, onFront(0), onBack(0), 1)})
	is(t, "parents", result(result(impl.RunOf(m, 0)), result(impl.RunOf(m, 1)), result(impl.LadderOf(m, 0))), "[[[] 0] [[] 0] [0 0]]")
	is(t, "the split", result(result(impl.RunOf(m, 2)), result(impl.LadderOf(m, 2)), result(impl.WeakLoops(m))), "[[[2] 0] [1 0] [[2] 0]]")
	knitted := stepOf(t, m, knitOp(-1, onBack(0), 1))
	is(t, "parents of two loops", result(result(impl.RunOf(knitted, 2)), result(impl.RunOf(knitted, 3)), result(impl.WeakLoops(knitted))), "[[[2] 0] [[3] 0] [[2 3] 0]]")
}

func TestErrorsOfRuns(t *testing.T) {
	calls := map[string]func(m impl.Machine, loop int64) []any{
		"RunOf":    func(m impl.Machine, loop int64) []any { return result(impl.RunOf(m, loop)) },
		"LadderOf": func(m impl.Machine, loop int64) []any { return result(impl.LadderOf(m, loop)) },
	}
	for name, call := range calls {
		for _, m := range []impl.Machine{newMachine(t, 1), chain(t, 1), chain(t, 300), stateGraph(t), richMachine(t)} {
			for _, loop := range wrongLoops(m) {
				if loop < 0 || loop >= int64(len(m.Loops)) {
					is(t, fmt.Sprint(name, " of ", loop), call(m, loop), zerosWith(name, impl.ErrRange))
				}
			}
			for n := range m.Loops {
				if loop := int64(n); !liveByTable(m)[loop] {
					is(t, fmt.Sprint(name, " of ", loop, ", which is on no needle"), call(m, loop), zerosWith(name, impl.ErrState))
				}
			}
		}
		for i, m := range notMachines(t) {
			for _, loop := range append(wrongLoops(m), 0, 2, 10) {
				is(t, fmt.Sprint(name, " of ", loop, " of the invalid state ", i), call(m, loop), zerosWith(name, impl.ErrInvalid))
			}
		}
	}
}

func TestWeakLoops(t *testing.T) {
	for _, c := range []struct {
		name    string
		live    []int64
		parents [][]int64
		want    string
	}{
		{"no loops", nil, nil, "[]"},
		{"no loops on needles", nil, [][]int64{nil, {0}}, "[]"},
		{"equal runs, in ascending order", []int64{2, 0, 1}, [][]int64{nil, nil, nil}, "[0 1 2]"},
		{"the first one is longer", []int64{2, 3}, [][]int64{nil, {0}, {1}, nil}, "[2]"},
		{"the last one is longer", []int64{0, 3}, [][]int64{nil, nil, {1}, {2}}, "[3]"},
		{"one in the middle is longer", []int64{0, 2, 3}, [][]int64{nil, nil, {1}, nil}, "[2]"},
		{"two of three", []int64{1, 3, 4}, [][]int64{nil, {0}, nil, {2}, nil}, "[1 3]"},
		{"one with an empty run", []int64{0, 1}, [][]int64{nil, {0}}, "[1]"},
		{"the greatest run is not the longest ladder", []int64{2, 6}, [][]int64{nil, {0}, {1}, nil, nil, nil, {3, 4, 5}}, "[6]"},
		{"loops that come undone do not count", []int64{1, 2}, [][]int64{nil, nil, nil, {0}, {0}, {0}}, "[1 2]"},
	} {
		m := graph(t, c.live, nil, c.parents...)
		is(t, c.name+": WeakLoops", result(impl.WeakLoops(m)), result(c.want, impl.OK))
		is(t, c.name+": by hand", weakByHand(m), c.want)
	}
}

func TestInvalidMachinesOfUnravelling(t *testing.T) {
	for i, m := range notMachines(t) {
		name := fmt.Sprint("state ", i)
		is(t, name+": Undone", result(impl.Undone(m)), "[[] 1]")
		is(t, name+": IsSecure", impl.IsSecure(m), false)
		is(t, name+": WeakLoops", result(impl.WeakLoops(m)), "[[] 1]")
		isNotUnknit(t, name, m, impl.ErrInvalid)
		for _, loops := range append(wrongLoops(m), 0, 1) {
			none, steps, code := impl.UnknitTo(m, loops)
			is(t, name+": UnknitTo", result(impl.SameMachine(none, impl.Machine{}), steps, code), result(true, 0, impl.ErrInvalid))
		}
	}
}

// P13: exactly those loops come undone that nothing holds.
func TestManyLoopsThatComeUndone(t *testing.T) {
	sizes := map[int]int{}
	for i, m := range someFabrics(t) {
		name := fmt.Sprint("fabric ", i, ": ")
		gone := undoneByHand(m)
		is(t, name+"Undone", result(impl.Undone(m)), result(gone, impl.OK))
		is(t, name+"IsSecure", impl.IsSecure(m), len(gone) == 0)
		is(t, name+"WeakLoops", result(impl.WeakLoops(m)), result(weakByHand(m), impl.OK))
		for loop := range liveByTable(m) {
			run := runByHand(m, loop)
			sizes[min(len(run), 3)]++
			is(t, name+"RunOf", result(impl.RunOf(m, loop)), result(run, impl.OK))
			is(t, name+"LadderOf", result(impl.LadderOf(m, loop)), result(ladderByHand(m, loop), impl.OK))
			isRunDropped(t, name, m, loop)
		}
	}
	is(t, "runs of all sizes are frequent", result(sizes[0] > 10, sizes[1] > 10, sizes[2] > 10, sizes[3] > 10), "[true true true true]")
}

// isRunDropped drops a loop that is alone on its needle: then its run comes undone.
func isRunDropped(t *testing.T, name string, m impl.Machine, loop int64) {
	t.Helper()
	for _, n := range allNeedles() {
		if loops := impl.LoopsOn(m, n); len(loops) == 1 && loops[0] == loop {
			before, _ := impl.Undone(m)
			after, _ := impl.Undone(stepOf(t, m, dropOp(n)))
			run, _ := impl.RunOf(m, loop)
			all := append(before, run...)
			slices.Sort(all)
			is(t, name+"Undone after OpDrop", after, all)
		}
	}
}

// makeOps are all operations that make a loop with a carrier on a needle; for a split the needle faces another one.
func makeOps(m impl.Machine, n impl.Needle, carrier int64) []impl.Op {
	var ops []impl.Op
	for _, dir := range []int64{1, -1} {
		ops = append(ops, knitOp(dir, n, carrier), tuckOp(dir, n, carrier))
		if other, ok := impl.FacingOf(m, n); ok {
			ops = append(ops, splitOp(dir, n, other, carrier))
		}
	}
	return ops
}

// isTakenBack checks that Unknit leads to the state before an operation, with the carrier at the side of the needle from which it came. It returns false if the operation cannot be executed.
func isTakenBack(t *testing.T, m impl.Machine, o impl.Op) bool {
	t.Helper()
	next, code := impl.StepMachine(m, o)
	if code != impl.OK {
		return false
	}
	name := fmt.Sprint("Unknit after ", o, " with the rack ", m.Rack)
	want := copyOfMachine(m)
	want.Carriers[o.Carrier-1].At = placeOfNeedle(m, o.From) + map[int64]int64{1: 0, -1: 1}[o.Dir]
	got, code := isUnknitByHand(t, name, next)
	is(t, name, result(code, isSameByHand(got, want)), result(impl.OK, true))
	once, steps, code := impl.UnknitTo(next, int64(len(m.Loops)))
	is(t, name+": UnknitTo", result(isSameByHand(once, want), steps, code), result(true, 1, impl.OK))
	return true
}

// P13: an operation that makes a loop can be taken back, whatever is on the needle and on the one that faces it.
func TestLoopsAreTakenBack(t *testing.T) {
	kinds := map[int64]int{}
	for rack := int64(-3); rack <= 3; rack++ {
		for _, n := range []impl.Needle{onFront(3), onBack(3)} {
			for loops := range 5 {
				for others := range 5 - loops {
					other := impl.Needle{Bed: 3 - n.Bed, At: placeOfNeedle(impl.Machine{Rack: rack}, n) - rack*(2-n.Bed)}
					m := machineAfter(t, 8, stackOps(n, loops), stackOps(onBack(7), 1), stackOps(other, others), []impl.Op{inOp(1, 1), inOp(-1, 3), rackOp(rack)})
					for _, o := range slices.Concat(makeOps(m, n, 1), makeOps(m, n, 3), makeOps(m, n, 2)) {
						if isTakenBack(t, m, o) {
							kinds[o.Kind]++
						}
					}
				}
			}
		}
	}
	is(t, "operations that were taken back", kinds, map[int64]int{1: 7 * 2 * 2 * 15, 2: 7 * 2 * 2 * 14, 5: 7 * 2 * 2 * 10})
}

// P13: the same in states that operations need not be able to reach.
func TestManyLoopsAreTakenBack(t *testing.T) {
	kinds := map[int64]int{}
	for _, m := range someFabrics(t) {
		for carrier := int64(1); carrier <= 4; carrier++ {
			m = copyOfMachine(m)
			m.Carriers[carrier-1] = impl.Carrier{In: true, At: (m.Width+1)/2 + carrier - 3}
			for _, n := range allNeedles() {
				if n.At >= m.Width {
					continue
				}
				for _, o := range makeOps(m, n, carrier) {
					if isTakenBack(t, m, o) {
						kinds[o.Kind]++
					}
				}
			}
		}
	}
	is(t, "many operations were taken back", result(kinds[1] > 500, kinds[2] > 500, kinds[5] > 200), "[true true true]")
}

// P13: the last loop is taken back, or not, after all kinds of operations.
func TestUnknitInManyStates(t *testing.T) {
	codes := map[int64]int{}
	for i, m := range someFabrics(t) {
		for seed := range 10 {
			d := dice(100*i + seed)
			m := copyOfMachine(m)
			for range 4 {
				if next, code := impl.StepMachine(m, d.op(m)); code == impl.OK {
					m = next
				}
				_, code := isUnknitByHand(t, "many states", m)
				codes[code]++
				isUnknitToByHand(t, m)
			}
		}
	}
	is(t, "all errors are frequent", result(codes[impl.OK] > 50, codes[impl.ErrEmpty] > 10, codes[impl.ErrState] > 50, codes[impl.ErrCarrier] > 50), "[true true true true]")
}

// isUnknitToByHand compares UnknitTo by up to four loops with what is done by hand.
func isUnknitToByHand(t *testing.T, m impl.Machine) {
	t.Helper()
	want, wantCode := copyOfMachine(m), int64(impl.OK)
	for steps := range int64(5) {
		loops := int64(len(m.Loops)) - steps
		if loops < 0 {
			wantCode = impl.ErrRange
		} else if steps > 0 && wantCode == impl.OK {
			want, wantCode = unknitByHand(want)
		}
		got, n, code := impl.UnknitTo(m, loops)
		if wantCode != impl.OK {
			is(t, "UnknitTo with an error", result(code, n, impl.SameMachine(got, impl.Machine{})), result(wantCode, 0, true))
			continue
		}
		is(t, "UnknitTo", result(code, n, isSameByHand(got, want)), result(impl.OK, steps, true))
	}
}

func TestErrEmptyOfUnknit(t *testing.T) {
	isNotUnknit(t, "no loops", newMachine(t, 1), impl.ErrEmpty)
	isNotUnknit(t, "no loops, with a carrier", machineAfter(t, 24, []impl.Op{inOp(1, 1), missOp(1, onFront(2), 1)}), impl.ErrEmpty)
}

// The last loop is not where it was made, or not as it was made there; the carrier is where the operation left it.
func TestErrStateOfUnknit(t *testing.T) {
	tucks := []impl.Op{inOp(1, 1), tuckOp(1, onFront(2), 1), tuckOp(-1, onFront(2), 1)}
	knit := append(slices.Clone(tucks), knitOp(1, onFront(2), 1))
	split := append(slices.Clone(tucks), splitOp(1, onFront(2), onBack(2), 1))
	other := slices.Concat([]impl.Op{inOp(1, 4), tuckOp(1, onFront(1), 4)}, tucks)
	for _, ops := range [][]impl.Op{tucks, knit, split, other} {
		_, code := isUnknitByHand(t, "without a change", machineAfter(t, 5, ops))
		is(t, "without a change", code, impl.OK)
	}
	for _, c := range []struct {
		name string
		ops  [][]impl.Op
	}{
		{"a tuck on the other bed", [][]impl.Op{tucks, {xferOp(onFront(2), onBack(2))}}},
		{"a knit on the other bed", [][]impl.Op{knit, {xferOp(onFront(2), onBack(2))}}},
		{"a split that is moved to its parents", [][]impl.Op{split, {xferOp(onFront(2), onBack(2))}}},
		{"a tuck on another needle", [][]impl.Op{tucks, {xferOp(onFront(2), onBack(2)), rackOp(1), xferOp(onBack(2), onFront(3)), rackOp(0)}}},
		{"a knit on another needle", [][]impl.Op{knit, {xferOp(onFront(2), onBack(2)), rackOp(-1), xferOp(onBack(2), onFront(1)), rackOp(0)}}},
		{"a tuck in Dropped", [][]impl.Op{tucks, {dropOp(onFront(2))}}},
		{"a knit in Dropped", [][]impl.Op{knit, {dropOp(onFront(2))}}},
		{"a split in Dropped", [][]impl.Op{split, {dropOp(onFront(2))}}},
		{"a knit with another loop behind it", [][]impl.Op{other, {knitOp(1, onFront(2), 1), xferOp(onFront(1), onBack(1)), rackOp(1), xferOp(onBack(1), onFront(2)), rackOp(0)}}},
		{"a tuck with another loop behind it", [][]impl.Op{other, {xferOp(onFront(1), onBack(1)), rackOp(1), xferOp(onBack(1), onFront(2)), rackOp(0)}}},
		{"a split that is joined with its parents", [][]impl.Op{split, {xferOp(onBack(2), onFront(2))}}},
		{"a split of which the parents are in Dropped", [][]impl.Op{split, {dropOp(onBack(2))}}},
		{"a split with another rack", [][]impl.Op{split, {rackOp(1)}}},
		{"a split at the end, with another rack", [][]impl.Op{{inOp(1, 1), tuckOp(1, onFront(4), 1), tuckOp(-1, onFront(4), 1), splitOp(1, onFront(4), onBack(4), 1), rackOp(-1)}}},
		{"a split of which the parents are behind others", [][]impl.Op{{inOp(-1, 2), tuckOp(-1, onFront(1), 2)}, split, {xferOp(onFront(1), onBack(1)), rackOp(1), xferOp(onBack(1), onFront(2)), rackOp(0), xferOp(onFront(2), onBack(2))}}},
	} {
		isNotUnknit(t, c.name, machineAfter(t, 5, c.ops...), impl.ErrState)
	}
}

// unknitMachine is a state of width 5 with the rack 0, in which six loops are on no needle, and the last one, which has a kind and parents, is on needle 2 of a bed. Carrier 1 is to the right of it.
func unknitMachine(t *testing.T, kind, bed int64, parents ...int64) impl.Machine {
	t.Helper()
	m := newMachine(t, 5)
	m.Loops = append(slices.Repeat([]impl.Info{{Kind: impl.OpTuck, Carrier: 2, Bed: 1, At: 1, Dir: 1}}, 6), impl.Info{Kind: kind, Carrier: 1, Bed: bed, At: 2, Dir: 1, Parents: parents})
	rowOf(m, bed)[2] = []int64{6}
	m.Carriers[0] = impl.Carrier{In: true, At: 3}
	isValidState(t, "state for Unknit", m)
	return m
}

// unknitChange is a change of a state in which the last loop, which was made with a kind of operation, is taken back; and what Unknit returns then.
type unknitChange struct {
	name string
	kind int64
	do   func(m *impl.Machine)
	code int64
}

// setOwn replaces the loops on the needle of the last loop, and setFacing those on the needle with the same number of the other bed.
func setOwn(m *impl.Machine, loops ...int64) {
	last := m.Loops[len(m.Loops)-1]
	rowOf(*m, last.Bed)[last.At] = loops
}

func setFacing(m *impl.Machine, loops ...int64) {
	last := m.Loops[len(m.Loops)-1]
	rowOf(*m, 3-last.Bed)[last.At] = loops
}

func changedKnits(bed int64) []unknitChange {
	return []unknitChange{
		{"knit", impl.OpKnit, func(m *impl.Machine) {}, impl.OK},
		{"knit with others in Dropped and on needles", impl.OpKnit, func(m *impl.Machine) { m.Dropped, m.Front[0], m.Back[0] = []int64{0, 5}, []int64{2}, []int64{3} }, impl.OK},
		{"knit without parents", impl.OpKnit, func(m *impl.Machine) { m.Loops[6].Parents = nil }, impl.OK},
		{"knit, with other loops on the facing needle", impl.OpKnit, func(m *impl.Machine) { setFacing(m, 0, 2) }, impl.OK},
		{"knit on no needle", impl.OpKnit, func(m *impl.Machine) { setOwn(m) }, impl.ErrState},
		{"knit, with another loop in its place", impl.OpKnit, func(m *impl.Machine) { setOwn(m, 0) }, impl.ErrState},
		{"knit behind another loop", impl.OpKnit, func(m *impl.Machine) { setOwn(m, 0, 6) }, impl.ErrState},
		{"knit in front of another loop", impl.OpKnit, func(m *impl.Machine) { setOwn(m, 6, 0) }, impl.ErrState},
		{"knit on the facing needle", impl.OpKnit, func(m *impl.Machine) { setOwn(m); setFacing(m, 6) }, impl.ErrState},
		{"knit on the needle before", impl.OpKnit, func(m *impl.Machine) { setOwn(m); rowOf(*m, bed)[1] = []int64{6} }, impl.ErrState},
		{"knit on no needle, without parents", impl.OpKnit, func(m *impl.Machine) { setOwn(m); m.Loops[6].Parents = nil }, impl.ErrState},
		{"knit in Dropped", impl.OpKnit, func(m *impl.Machine) { setOwn(m); m.Dropped = []int64{6} }, impl.ErrState},
		{"knit, the first parent on its needle", impl.OpKnit, func(m *impl.Machine) { setOwn(m, 4, 6) }, impl.ErrState},
		{"knit, the first parent on a needle", impl.OpKnit, func(m *impl.Machine) { m.Front[4] = []int64{4} }, impl.ErrState},
		{"knit, the last parent on a needle", impl.OpKnit, func(m *impl.Machine) { m.Back[0] = []int64{0, 1} }, impl.ErrState},
		{"knit, the parents on the facing needle", impl.OpKnit, func(m *impl.Machine) { setFacing(m, 4, 1) }, impl.ErrState},
		{"knit, the first parent in Dropped", impl.OpKnit, func(m *impl.Machine) { m.Dropped = []int64{4} }, impl.ErrState},
		{"knit, the last parent in Dropped", impl.OpKnit, func(m *impl.Machine) { m.Dropped = []int64{0, 1} }, impl.ErrState},
	}
}

func changedTucks() []unknitChange {
	return []unknitChange{
		{"tuck", impl.OpTuck, func(m *impl.Machine) {}, impl.OK},
		{"tuck behind others", impl.OpTuck, func(m *impl.Machine) { setOwn(m, 4, 1, 0, 6) }, impl.OK},
		{"tuck on no needle", impl.OpTuck, func(m *impl.Machine) { setOwn(m) }, impl.ErrState},
		{"tuck, with other loops in its place", impl.OpTuck, func(m *impl.Machine) { setOwn(m, 4, 5) }, impl.ErrState},
		{"tuck on the facing needle", impl.OpTuck, func(m *impl.Machine) { setOwn(m, 0); setFacing(m, 6) }, impl.ErrState},
		{"tuck in Dropped", impl.OpTuck, func(m *impl.Machine) { setOwn(m); m.Dropped = []int64{6} }, impl.ErrState},
		{"tuck in front of another loop", impl.OpTuck, func(m *impl.Machine) { setOwn(m, 6, 0) }, impl.ErrState},
		{"tuck between other loops", impl.OpTuck, func(m *impl.Machine) { setOwn(m, 1, 6, 0) }, impl.ErrState},
	}
}

func changedSplits(bed int64) []unknitChange {
	return []unknitChange{
		{"split", impl.OpSplit, func(m *impl.Machine) {}, impl.OK},
		{"split on no needle", impl.OpSplit, func(m *impl.Machine) { setOwn(m) }, impl.ErrState},
		{"split, with another loop in its place", impl.OpSplit, func(m *impl.Machine) { setOwn(m, 0) }, impl.ErrState},
		{"split behind another loop", impl.OpSplit, func(m *impl.Machine) { setOwn(m, 0, 6) }, impl.ErrState},
		{"split in front of another loop", impl.OpSplit, func(m *impl.Machine) { setOwn(m, 6, 0) }, impl.ErrState},
		{"split in Dropped", impl.OpSplit, func(m *impl.Machine) { setOwn(m); m.Dropped = []int64{6} }, impl.ErrState},
		{"split, nothing on the facing needle", impl.OpSplit, func(m *impl.Machine) { setFacing(m) }, impl.ErrState},
		{"split, only the first parent on the facing needle", impl.OpSplit, func(m *impl.Machine) { setFacing(m, 4) }, impl.ErrState},
		{"split, only the last parent on the facing needle", impl.OpSplit, func(m *impl.Machine) { setFacing(m, 1) }, impl.ErrState},
		{"split, the parents in another order", impl.OpSplit, func(m *impl.Machine) { setFacing(m, 1, 4) }, impl.ErrState},
		{"split, another loop between the parents", impl.OpSplit, func(m *impl.Machine) { setFacing(m, 4, 0, 1) }, impl.ErrState},
		{"split, the parents in Dropped", impl.OpSplit, func(m *impl.Machine) { setFacing(m); m.Dropped = []int64{1, 4} }, impl.ErrState},
		{"split, the parents on no needle", impl.OpSplit, func(m *impl.Machine) { setFacing(m, 0, 2) }, impl.ErrState},
		{"split, the parents on another needle", impl.OpSplit, func(m *impl.Machine) { setFacing(m); rowOf(*m, 3-bed)[1] = []int64{4, 1} }, impl.ErrState},
		{"split, other loops around the parents", impl.OpSplit, func(m *impl.Machine) { setFacing(m, 0, 4, 1, 2) }, impl.ErrState},
		{"split, others behind the parents", impl.OpSplit, func(m *impl.Machine) { setFacing(m, 4, 1, 0, 2) }, []int64{impl.OK, impl.ErrState}[bed-1]},
		{"split, others before the parents", impl.OpSplit, func(m *impl.Machine) { setFacing(m, 0, 2, 4, 1) }, []int64{impl.ErrState, impl.OK}[bed-1]},
		{"split, another needle faces it", impl.OpSplit, func(m *impl.Machine) { m.Rack, m.Carriers[0].At = 1, 3+bed-1 }, impl.ErrState},
		{"split, the parents on the needle that faces it with a rack", impl.OpSplit, func(m *impl.Machine) {
			setFacing(m)
			m.Rack, m.Carriers[0].At = 1, 3+bed-1
			rowOf(*m, 3-bed)[2*bed-1] = []int64{4, 1}
		}, impl.OK},
		{"split, no needle faces it", impl.OpSplit, func(m *impl.Machine) {
			setOwn(m)
			m.Rack, m.Loops[6].At = []int64{3, -3}[bed-1], 0
			m.Carriers[0].At = 1 + m.Rack*(bed-1)
			rowOf(*m, bed)[0] = []int64{6}
		}, impl.ErrState},
		{"split, no needle faces it, and the parents are on the needle with its number", impl.OpSplit, func(m *impl.Machine) {
			setOwn(m)
			setFacing(m)
			m.Rack, m.Loops[6].At = []int64{3, -3}[bed-1], 0
			m.Carriers[0].At = 1 + m.Rack*(bed-1)
			rowOf(*m, bed)[0], rowOf(*m, 3-bed)[0] = []int64{6}, []int64{4, 1}
		}, impl.ErrState},
	}
}

func changedCarriers(bed int64) []unknitChange {
	return []unknitChange{
		{"the carrier is out", impl.OpKnit, func(m *impl.Machine) { m.Carriers[0] = impl.Carrier{} }, impl.ErrCarrier},
		{"the carrier came back", impl.OpTuck, func(m *impl.Machine) { m.Carriers[0].At = 2 }, impl.ErrCarrier},
		{"the carrier went on", impl.OpSplit, func(m *impl.Machine) { m.Carriers[0].At = 4 }, impl.ErrCarrier},
		{"the carrier is in again", impl.OpKnit, func(m *impl.Machine) { m.Carriers[0].At = -3 }, impl.ErrCarrier},
		{"the other direction", impl.OpTuck, func(m *impl.Machine) { m.Loops[6].Dir = -1 }, impl.ErrCarrier},
		{"the other direction, with the carrier on that side", impl.OpTuck, func(m *impl.Machine) { m.Loops[6].Dir, m.Carriers[0].At = -1, 2 }, impl.OK},
		{"the other direction, with the carrier too far", impl.OpKnit, func(m *impl.Machine) { m.Loops[6].Dir, m.Carriers[0].At = -1, 1 }, impl.ErrCarrier},
		{"another carrier", impl.OpSplit, func(m *impl.Machine) { m.Loops[6].Carrier = 2 }, impl.ErrCarrier},
		{"the last carrier", impl.OpKnit, func(m *impl.Machine) { m.Loops[6].Carrier, m.Carriers[3] = 4, impl.Carrier{In: true, At: 3} }, impl.OK},
		{"another rack", impl.OpKnit, func(m *impl.Machine) { m.Rack = 1 }, []int64{impl.OK, impl.ErrCarrier}[bed-1]},
		{"another rack, with which the carrier has moved", impl.OpTuck, func(m *impl.Machine) { m.Rack, m.Carriers[0].At = -2, 1 }, []int64{impl.ErrCarrier, impl.OK}[bed-1]},
		{"a knit behind another loop, and the carrier is out", impl.OpKnit, func(m *impl.Machine) { setOwn(m, 0, 6); m.Carriers[0] = impl.Carrier{} }, impl.ErrState},
		{"a knit with a parent in Dropped, and the carrier is out", impl.OpKnit, func(m *impl.Machine) { m.Dropped, m.Carriers[0] = []int64{1}, impl.Carrier{} }, impl.ErrState},
		{"a tuck in front of another loop, and the carrier went on", impl.OpTuck, func(m *impl.Machine) { setOwn(m, 6, 0); m.Carriers[0].At = 4 }, impl.ErrState},
		{"a split without its parents, and the carrier came back", impl.OpSplit, func(m *impl.Machine) { setFacing(m); m.Carriers[0].At = 2 }, impl.ErrState},
		{"no carrier is in, and the loop is on no needle", impl.OpTuck, func(m *impl.Machine) { setOwn(m); m.Carriers[0] = impl.Carrier{} }, impl.ErrState},
	}
}

// Each state differs from one in which the last loop is taken back in one field only.
func TestChangedStatesOfUnknit(t *testing.T) {
	for bed := int64(1); bed <= 2; bed++ {
		states := map[int64]impl.Machine{
			impl.OpKnit: unknitMachine(t, impl.OpKnit, bed, 4, 1), impl.OpTuck: unknitMachine(t, impl.OpTuck, bed), impl.OpSplit: unknitMachine(t, impl.OpSplit, bed, 4, 1),
		}
		rowOf(states[impl.OpSplit], 3-bed)[2] = []int64{4, 1}
		for _, c := range slices.Concat(changedKnits(bed), changedTucks(), changedSplits(bed), changedCarriers(bed)) {
			name := fmt.Sprint(c.name, ", bed ", bed)
			m := changed(states[c.kind], change{do: c.do})
			isValidState(t, name, m)
			if c.code != impl.OK {
				isNotUnknit(t, name, m, c.code)
				continue
			}
			_, code := isUnknitByHand(t, name, m)
			is(t, name, code, impl.OK)
		}
	}
}

// The parents are in their order again, and all else stays.
func TestUnknit(t *testing.T) {
	before := []impl.Op{inOp(-1, 3), missOp(-1, onFront(3), 3), inOp(1, 2), tuckOp(1, onFront(0), 2), dropOp(onFront(0)), tuckOp(1, onBack(4), 2), inOp(1, 1), tuckOp(1, onFront(1), 1), tuckOp(-1, onFront(1), 1), tuckOp(1, onBack(1), 1), rackOp(-1), xferOp(onFront(1), onBack(2)), rackOp(1)}
	for _, c := range []struct {
		o    impl.Op
		want string
	}{
		{knitOp(1, onBack(2), 1), "{5 1 [[] [] [] [] []] [[] [4] [2 3] [] [1]] [{true 3} {true 5} {true 3} {false 0}] [{2 2 1 0 1 []} {2 2 2 4 1 []} {2 1 1 1 1 []} {2 1 1 1 -1 []} {2 1 2 1 1 []}] [0]}"},
		{knitOp(-1, onBack(1), 2), "{5 1 [[] [] [] [] []] [[] [4] [2 3] [] [1]] [{true 2} {true 3} {true 3} {false 0}] [{2 2 1 0 1 []} {2 2 2 4 1 []} {2 1 1 1 1 []} {2 1 1 1 -1 []} {2 1 2 1 1 []}] [0]}"},
		{tuckOp(-1, onBack(2), 2), "{5 1 [[] [] [] [] []] [[] [4] [2 3] [] [1]] [{true 2} {true 4} {true 3} {false 0}] [{2 2 1 0 1 []} {2 2 2 4 1 []} {2 1 1 1 1 []} {2 1 1 1 -1 []} {2 1 2 1 1 []}] [0]}"},
		{tuckOp(1, onFront(4), 1), "{5 1 [[] [] [] [] []] [[] [4] [2 3] [] [1]] [{true 4} {true 5} {true 3} {false 0}] [{2 2 1 0 1 []} {2 2 2 4 1 []} {2 1 1 1 1 []} {2 1 1 1 -1 []} {2 1 2 1 1 []}] [0]}"},
		{splitOp(1, onBack(2), onFront(3), 3), "{5 1 [[] [] [] [] []] [[] [4] [2 3] [] [1]] [{true 2} {true 5} {true 3} {false 0}] [{2 2 1 0 1 []} {2 2 2 4 1 []} {2 1 1 1 1 []} {2 1 1 1 -1 []} {2 1 2 1 1 []}] [0]}"},
		{splitOp(-1, onBack(2), onFront(3), 2), "{5 1 [[] [] [] [] []] [[] [4] [2 3] [] [1]] [{true 2} {true 4} {true 3} {false 0}] [{2 2 1 0 1 []} {2 2 2 4 1 []} {2 1 1 1 1 []} {2 1 1 1 -1 []} {2 1 2 1 1 []}] [0]}"},
	} {
		m := machineAfter(t, 5, before, []impl.Op{c.o})
		got, code := impl.Unknit(m)
		is(t, fmt.Sprint("Unknit after ", c.o), result(got, code), result(c.want, impl.OK))
		is(t, "lists that share memory", shareMemory(listsOfMachine(got)), false)
	}
}

// swatchOps knits rows of so many needles of the front bed, to the right and to the left in turn.
func swatchOps(width int64, rows int) []impl.Op {
	ops := []impl.Op{inOp(1, 1)}
	for row := range rows {
		for at := range width {
			if row%2 == 0 {
				ops = append(ops, knitOp(1, onFront(at), 1))
			} else {
				ops = append(ops, knitOp(-1, onFront(width-1-at), 1))
			}
		}
	}
	return ops
}

// P13: knitting is taken back loop by loop.
func TestUnknitTo(t *testing.T) {
	ops := swatchOps(4, 5)
	m := machineAfter(t, 4, ops)
	for loops := int64(0); loops <= 20; loops++ {
		want := machineAfter(t, 4, ops[:loops+1])
		if loops == 0 {
			want.Carriers[0].At = 0
		}
		got, steps, code := impl.UnknitTo(m, loops)
		is(t, fmt.Sprint("UnknitTo ", loops), result(code, steps, isSameByHand(got, want)), result(impl.OK, 20-loops, true))
		is(t, "lists that share memory", shareMemory(listsOfMachine(got)), false)
	}
	for _, loops := range []int64{math.MinInt64, -20, -1, 21, 300, math.MaxInt64} {
		none, steps, code := impl.UnknitTo(m, loops)
		is(t, fmt.Sprint("UnknitTo ", loops), result(code, steps, impl.SameMachine(none, impl.Machine{})), result(impl.ErrRange, 0, true))
	}
	long := machineAfter(t, 1, loopOps(300))
	none, steps, code := impl.UnknitTo(long, 0)
	is(t, "MaxLoops loops", result(none, steps, code), "[{1 0 [[]] [[]] [{true 0} {false 0} {false 0} {false 0}] [] []} 300 0]")
}

func TestUnknitToWithoutLoops(t *testing.T) {
	m := machineAfter(t, 3, []impl.Op{rackOp(2), inOp(-1, 2)})
	got, steps, code := impl.UnknitTo(m, 0)
	is(t, "by none", result(code, steps, isSameByHand(got, m)), result(impl.OK, 0, true))
	for _, loops := range []int64{-1, 1} {
		none, steps, code := impl.UnknitTo(m, loops)
		is(t, fmt.Sprint("UnknitTo ", loops), result(code, steps, impl.SameMachine(none, impl.Machine{})), result(impl.ErrRange, 0, true))
	}
}

// Some loops can be taken back, and then one cannot.
func TestErrorsOfUnknitTo(t *testing.T) {
	for _, c := range []struct {
		name  string
		least int64
		code  int64
		ops   []impl.Op
	}{
		{"another carrier between", 3, impl.ErrCarrier, slices.Concat(swatchOps(2, 1), stackOps(onBack(1), 1), []impl.Op{knitOp(-1, onFront(1), 1), knitOp(-1, onFront(0), 1)})},
		{"the carrier was out", 2, impl.ErrCarrier, slices.Concat(swatchOps(2, 1), []impl.Op{outOp(1), inOp(1, 1), knitOp(1, onFront(0), 1), knitOp(1, onFront(1), 1)})},
		{"a loop was moved", 2, impl.ErrState, slices.Concat(swatchOps(2, 1), []impl.Op{xferOp(onFront(1), onBack(1)), knitOp(-1, onFront(1), 1), knitOp(-1, onFront(0), 1)})},
		{"a loop was dropped", 2, impl.ErrState, slices.Concat(swatchOps(2, 1), []impl.Op{dropOp(onFront(1)), knitOp(-1, onFront(1), 1), knitOp(-1, onFront(0), 1)})},
		{"the rack was another one", 1, impl.ErrCarrier, []impl.Op{inOp(1, 1), knitOp(1, onBack(0), 1), rackOp(1), knitOp(1, onFront(1), 1)}},
		{"the last one already", 4, impl.ErrCarrier, append(swatchOps(2, 2), missOp(1, onFront(0), 1))},
	} {
		m := machineAfter(t, 2, c.ops)
		for loops := range int64(len(m.Loops)) + 1 {
			got, steps, code := impl.UnknitTo(m, loops)
			if loops >= c.least {
				is(t, c.name, result(code, steps, len(got.Loops)), result(impl.OK, int64(len(m.Loops))-loops, loops))
				continue
			}
			is(t, c.name, result(code, steps, impl.SameMachine(got, impl.Machine{})), result(c.code, 0, true))
		}
		for _, loops := range []int64{-1, int64(len(m.Loops)) + 1} {
			none, steps, code := impl.UnknitTo(m, loops)
			is(t, c.name+", and no such number", result(code, steps, impl.SameMachine(none, impl.Machine{})), result(impl.ErrRange, 0, true))
		}
	}
}

// A state that is changed afterwards leaves the one from which it was unknitted as it was, and the other way round.
func TestUnknittedStatesShareNoMemory(t *testing.T) {
	swatch := machineAfter(t, 4, swatchOps(4, 3))
	stack := machineAfter(t, 2, stackOps(onFront(1), 3), []impl.Op{inOp(1, 1), splitOp(1, onFront(1), onBack(1), 1)})
	for _, m := range []impl.Machine{swatch, stack, machineAfter(t, 2, stackOps(onFront(1), 3), []impl.Op{inOp(1, 4), missOp(1, onFront(1), 4)})} {
		for loops := range int64(len(m.Loops)) + 1 {
			before := copyOfMachine(m)
			got, _, code := impl.UnknitTo(m, loops)
			if code != impl.OK {
				continue
			}
			after := copyOfMachine(got)
			scribbleMachine(m)
			is(t, "the state after Unknit", fmt.Sprint(got), fmt.Sprint(after))
			m = copyOfMachine(before)
			second, _, _ := impl.UnknitTo(m, loops)
			scribbleMachine(second)
			is(t, "the state before Unknit", fmt.Sprint(m), fmt.Sprint(before))
		}
	}
}

// One piece of memory may hold several lists of a state, also as the unused capacity of one another.
func TestUnknitOfMachinesThatShareMemory(t *testing.T) {
	memory := []int64{2, 3, 0, 1, 4}
	m := newMachine(t, 2)
	m.Carriers[0] = impl.Carrier{In: true, At: 1}
	addLoops(&m, 5)
	m.Loops[4] = impl.Info{Kind: impl.OpSplit, Carrier: 1, Bed: 1, At: 0, Dir: 1, Parents: memory[:2]}
	m.Front, m.Back = [][]int64{memory[4:], nil}, [][]int64{memory[:4], nil}
	want, _ := unknitByHand(m)
	got, code := impl.Unknit(m)
	is(t, "Unknit", result(code, isSameByHand(got, want), got.Front, got.Back), "[0 true [[2 3] []] [[0 1] []]]")
	is(t, "lists that share memory", shareMemory(listsOfMachine(got)), false)
	scribbleMachine(got)
	is(t, "memory", memory, "[2 3 0 1 4]")
	rows := make([][]int64, 2)
	tuck := impl.Machine{Width: 2, Front: [][]int64{{0}, nil}, Back: rows, Carriers: []impl.Carrier{{In: true, At: 1}, {}, {}, {}}, Loops: []impl.Info{{Kind: impl.OpTuck, Carrier: 1, Bed: 1, At: 0, Dir: 1}}}
	none, code := impl.Unknit(tuck)
	is(t, "Unknit of the only loop", result(code, none.Front, none.Back, tuck.Front), "[0 [[] []] [[] []] [[0] []]]")
}
