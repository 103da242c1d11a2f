package tests

import (
	"fmt"
	"math"
	"slices"
	"strings"
	"testing"

	"loop.example/g00856/impl"
)

// graph is a state with loops that have these parents: none are tucks, the others are knits. Those of live are on needles, one on each.
func graph(t *testing.T, live, dropped []int64, parents ...[]int64) impl.Machine {
	t.Helper()
	m := newMachine(t, 24)
	for _, list := range parents {
		info := impl.Info{Kind: impl.OpKnit, Carrier: 1, Bed: 1, At: 3, Dir: 1, Parents: list}
		if len(list) == 0 {
			info.Kind = impl.OpTuck
		}
		m.Loops = append(m.Loops, info)
	}
	for i, loop := range live {
		m.Front[len(live)-i] = []int64{loop}
	}
	m.Dropped = dropped
	isValidState(t, "graph", m)
	return m
}

// chain is a state with loops that were made one through the other, of which the last one is on a needle.
func chain(t *testing.T, loops int) impl.Machine {
	t.Helper()
	parents := [][]int64{nil}
	for i := range int64(loops) - 1 {
		parents = append(parents, []int64{i})
	}
	return graph(t, []int64{int64(loops) - 1}, nil, parents...)
}

// mesh is a state with loops that were made through the four loops before them, of which the last one is on a needle.
func mesh(t *testing.T, loops int) impl.Machine {
	t.Helper()
	parents := [][]int64{}
	for i := range loops {
		parents = append(parents, rising(loops)[max(0, i-4):i])
	}
	return graph(t, []int64{int64(loops) - 1}, nil, parents...)
}

// fabric throws a valid state, which operations need not be able to reach.
func (d *dice) fabric(t *testing.T, width int64, loops int) impl.Machine {
	t.Helper()
	m := newMachine(t, width)
	m.Rack = d.below(7) - 3
	for i := range loops {
		info := impl.Info{Kind: impl.OpKnit, Carrier: 1 + d.below(4), Bed: 1 + d.below(2), At: d.below(width), Dir: d.dir()}
		for range d.below(6) {
			// Most parents are among the loops just before.
			parent := int64(i) - 1 - d.below(min(int64(i)+1, 1+d.below(40)))
			if parent >= 0 && len(info.Parents) < 4 && !slices.Contains(info.Parents, parent) {
				info.Parents = append(info.Parents, parent)
			}
		}
		if kind := d.below(3); kind == 0 && len(info.Parents) == 0 {
			info.Kind = impl.OpTuck
		} else if kind == 1 && len(info.Parents) > 0 {
			info.Kind = impl.OpSplit
		}
		m.Loops = append(m.Loops, info)
		needle := &rowOf(m, 1+d.below(2))[d.below(width)]
		switch place := d.below(9); {
		case place < 2 && len(*needle) < 4:
			*needle = slices.Insert(*needle, int(d.below(int64(len(*needle))+1)), int64(i))
		case place == 2:
			m.Dropped = append(m.Dropped, int64(i))
		}
	}
	isValidState(t, "thrown fabric", m)
	return m
}

// someFabrics are valid states of all sizes, some of which operations can reach.
func someFabrics(t *testing.T) []impl.Machine {
	t.Helper()
	list := []impl.Machine{newMachine(t, 1), newMachine(t, 24), richMachine(t), chain(t, 1), chain(t, 20), mesh(t, 20)}
	for _, c := range harmlessChanges() {
		list = append(list, changed(richMachine(t), c))
	}
	for seed := range 40 {
		d := dice(seed)
		list = append(list, d.fabric(t, 1+d.below(24), seed))
	}
	for _, width := range []int64{1, 3, 7} {
		d := dice(width)
		m := newMachine(t, width)
		for step := range 600 {
			if next, code := impl.StepMachine(m, d.op(m)); code == impl.OK {
				m = next
			}
			if step%100 == 99 {
				list = append(list, m)
			}
		}
	}
	return list
}

func liveByTable(m impl.Machine) map[int64]bool {
	live := map[int64]bool{}
	for _, loops := range slices.Concat(m.Front, m.Back) {
		for _, loop := range loops {
			live[loop] = true
		}
	}
	return live
}

func childrenByHand(m impl.Machine, loop int64) []int64 {
	list := []int64{}
	for child, info := range m.Loops {
		if slices.Contains(info.Parents, loop) {
			list = append(list, int64(child))
		}
	}
	return list
}

func loopStateByHand(m impl.Machine, loop int64) int64 {
	switch {
	case liveByTable(m)[loop]:
		return 2
	case slices.Contains(m.Dropped, loop):
		return 3
	case len(childrenByHand(m, loop)) > 0:
		return 1
	}
	return 4
}

// coursesByHand raises the courses of all loops above those of their parents.
func coursesByHand(m impl.Machine) []int64 {
	courses := make([]int64, len(m.Loops))
	for raised := true; raised; {
		raised = false
		for loop, info := range m.Loops {
			for _, parent := range info.Parents {
				if courses[loop] <= courses[parent] {
					courses[loop], raised = courses[parent]+1, true
				}
			}
		}
	}
	return courses
}

func waleByHand(m impl.Machine, loop int64) []int64 {
	if parents := m.Loops[loop].Parents; len(parents) > 0 {
		return append([]int64{loop}, waleByHand(m, parents[0])...)
	}
	return []int64{loop}
}

func walesByHand(m impl.Machine) [][]int64 {
	wales := [][]int64{}
loops:
	for loop := range m.Loops {
		for _, info := range m.Loops {
			if len(info.Parents) > 0 && info.Parents[0] == int64(loop) {
				continue loops
			}
		}
		wales = append(wales, waleByHand(m, int64(loop)))
	}
	return wales
}

// neighboursByHand goes from a loop to the loops before and after it.
func neighboursByHand(m impl.Machine, loop int64) []any {
	ends := []int64{-1, -1}
	for side, step := range []int64{-1, 1} {
		for other := loop + step; other >= 0 && other < int64(len(m.Loops)) && ends[side] < 0; other += step {
			if m.Loops[other].Carrier == m.Loops[loop].Carrier {
				ends[side] = other
			}
		}
	}
	return result(ends[0], ends[1], impl.OK)
}

func countsByHand(m impl.Machine) []int64 {
	counts := make([]int64, 7)
	for loop, info := range m.Loops {
		counts[map[int64]int{1: 0, 2: 1, 5: 2}[info.Kind]]++
		counts[2+loopStateByHand(m, int64(loop))]++
	}
	return counts
}

func loopsTextByHand(m impl.Machine) string {
	text := ""
	for loop, info := range m.Loops {
		text += fmt.Sprintf("%d %s %c%d y%d %s %s", loop, map[int64]string{1: "knit", 2: "tuck", 5: "split"}[info.Kind], " fb"[info.Bed], info.At, info.Carrier,
			map[int64]string{1: "right", -1: "left"}[info.Dir], []string{"", "held", "live", "dropped", "loose"}[loopStateByHand(m, int64(loop))])
		if len(info.Parents) > 0 {
			text += " of " + strings.Trim(fmt.Sprint(info.Parents), "[]")
		}
		text += "\n"
	}
	return text
}

func TestFabricConstants(t *testing.T) {
	is(t, "states", result(impl.LpHeld, impl.LpLive, impl.LpDropped, impl.LpLoose), "[1 2 3 4]")
}

func TestExampleOfThreeLoops(t *testing.T) {
	for _, m := range []impl.Machine{machineAfter(t, 1, loopOps(3)), chain(t, 3)} {
		for loop := range int64(3) {
			is(t, "CourseOf", result(impl.CourseOf(m, loop)), result(loop, impl.OK))
		}
		is(t, "WaleOf", result(impl.WaleOf(m, 2)), "[[2 1 0] 0]")
		is(t, "WalesOf", result(impl.WalesOf(m)), "[[[2 1 0]] 0]")
	}
}

func TestExampleOfLoopsText(t *testing.T) {
	m := machineAfter(t, 4, []impl.Op{inOp(1, 1), tuckOp(1, onFront(2), 1), tuckOp(-1, onFront(2), 1), knitOp(-1, onFront(0), 1), knitOp(1, onFront(2), 1)})
	is(t, "LoopsText", strings.Split(impl.LoopsText(m), "\n")[3], "3 knit f2 y1 right live of 0 1")
}

// stateGraph has loops of all states, with and without children.
func stateGraph(t *testing.T) impl.Machine {
	t.Helper()
	return graph(t, []int64{2, 7}, []int64{1, 5}, nil, nil, nil, []int64{0, 1, 2}, nil, nil, nil, []int64{3, 6}, []int64{4})
}

func TestLoopStates(t *testing.T) {
	m := stateGraph(t)
	for loop, c := range []struct {
		name  string
		state int64
	}{
		{"with a child that has a child", impl.LpHeld}, {"in Dropped, with a child", impl.LpDropped}, {"on a needle, with a child", impl.LpLive},
		{"with parents and a child", impl.LpHeld}, {"with a child that is loose", impl.LpHeld}, {"in Dropped, without children", impl.LpDropped},
		{"a parent that is not the first one", impl.LpHeld}, {"on a needle, without children", impl.LpLive}, {"without children", impl.LpLoose},
	} {
		is(t, c.name, result(impl.LoopState(m, int64(loop))), result(c.state, impl.OK))
	}
	is(t, "in the middle of a needle of the back bed", result(impl.LoopState(machineAfter(t, 2, stackOps(onBack(1), 3)), 1)), "[2 0]")
}

// wrongLoops are numbers for which a state has no loop.
func wrongLoops(m impl.Machine) []int64 {
	n := int64(len(m.Loops))
	return []int64{math.MinInt64, -n, -2, -1, n, n + 1, 300, math.MaxInt64}
}

// loopCalls are calls of all functions of the chapter that have a loop as an argument.
func loopCalls() map[string]func(m impl.Machine, loop int64) []any {
	return map[string]func(m impl.Machine, loop int64) []any{
		"LoopState":      func(m impl.Machine, loop int64) []any { return result(impl.LoopState(m, loop)) },
		"ChildrenOf":     func(m impl.Machine, loop int64) []any { return result(impl.ChildrenOf(m, loop)) },
		"YarnNeighbours": func(m impl.Machine, loop int64) []any { return result(impl.YarnNeighbours(m, loop)) },
		"CourseOf":       func(m impl.Machine, loop int64) []any { return result(impl.CourseOf(m, loop)) },
		"WaleOf":         func(m impl.Machine, loop int64) []any { return result(impl.WaleOf(m, loop)) },
	}
}

// zerosWith returns what functions with a loop as an argument return together with an error.
func zerosWith(name string, code int64) []any {
	switch name {
	case "ChildrenOf", "WaleOf", "RunOf":
		return result([]int64{}, code)
	case "YarnNeighbours":
		return result(0, 0, code)
	}
	return result(0, code)
}

func TestNumbersOfLoops(t *testing.T) {
	machines := []impl.Machine{newMachine(t, 1), newMachine(t, 24), chain(t, 1), chain(t, 300), stateGraph(t), richMachine(t)}
	for name, call := range loopCalls() {
		for _, m := range machines {
			for _, loop := range wrongLoops(m) {
				if loop < 0 || loop >= int64(len(m.Loops)) {
					is(t, fmt.Sprint(name, " of ", loop), call(m, loop), zerosWith(name, impl.ErrRange))
				}
			}
			for _, loop := range []int64{0, int64(len(m.Loops)) - 1} {
				if loop >= 0 && loop < int64(len(m.Loops)) {
					list := call(m, loop)
					is(t, fmt.Sprint(name, " of ", loop), list[len(list)-1], impl.OK)
				}
			}
		}
		for i, m := range notMachines(t) {
			for _, loop := range append(wrongLoops(m), 0, 1, 10) {
				is(t, fmt.Sprint(name, " of ", loop, " of the invalid state ", i), call(m, loop), zerosWith(name, impl.ErrInvalid))
			}
		}
	}
}

func TestInvalidMachinesOfFabrics(t *testing.T) {
	for i, m := range notMachines(t) {
		name := fmt.Sprint("state ", i)
		for carrier := int64(-1); carrier <= 6; carrier++ {
			is(t, name+": YarnOf", result(impl.YarnOf(m, carrier)), "[[] 1]")
		}
		is(t, name+": WalesOf", result(impl.WalesOf(m)), "[[] 1]")
		is(t, name+": FabricCounts", result(impl.FabricCounts(m)), "[[] 1]")
		is(t, name+": LoopsText", impl.LoopsText(m), "")
	}
}

func TestChildren(t *testing.T) {
	m := graph(t, []int64{6}, []int64{5}, nil, nil, nil, []int64{1}, []int64{2, 1, 0}, []int64{0, 4}, []int64{3, 0})
	for loop, want := range []string{"[4 5 6]", "[3 4]", "[4]", "[6]", "[5]", "[]", "[]"} {
		is(t, fmt.Sprint("ChildrenOf ", loop), result(impl.ChildrenOf(m, int64(loop))), result(want, impl.OK))
	}
	stack := machineAfter(t, 2, stackOps(onFront(1), 4), []impl.Op{inOp(1, 1), knitOp(1, onFront(1), 1)})
	for loop := range int64(4) {
		is(t, "of all loops that were on the needle", result(impl.ChildrenOf(stack, loop)), "[[4] 0]")
	}
	is(t, "MaxLoops - 1 children", result(impl.ChildrenOf(graph(t, nil, nil, append([][]int64{nil}, slices.Repeat([][]int64{{0}}, 299)...)...), 0)), result(rising(300)[1:], impl.OK))
}

func TestYarns(t *testing.T) {
	m := stateGraph(t)
	for loop, carrier := range []int64{1, 4, 1, 1, 2, 4, 4, 1, 1} {
		m.Loops[loop].Carrier = carrier
	}
	for carrier, want := range map[int64]string{
		math.MinInt64: "[[] 2]", -1: "[[] 2]", 0: "[[] 2]", 1: "[[0 2 3 7 8] 0]", 2: "[[4] 0]", 3: "[[] 0]", 4: "[[1 5 6] 0]", 5: "[[] 2]", math.MaxInt64: "[[] 2]",
	} {
		is(t, fmt.Sprint("YarnOf ", carrier), result(impl.YarnOf(m, carrier)), want)
	}
	for loop, want := range []string{"[-1 2 0]", "[-1 5 0]", "[0 3 0]", "[2 7 0]", "[-1 -1 0]", "[1 6 0]", "[5 -1 0]", "[3 8 0]", "[7 -1 0]"} {
		is(t, fmt.Sprint("YarnNeighbours of ", loop), result(impl.YarnNeighbours(m, int64(loop))), want)
	}
	for carrier := int64(0); carrier <= 5; carrier++ {
		want := result([]int64{}, impl.OK)
		if carrier < 1 || carrier > 4 {
			want = result([]int64{}, impl.ErrRange)
		}
		is(t, "without loops", result(impl.YarnOf(newMachine(t, 3), carrier)), want)
	}
	is(t, "MaxLoops loops", result(result(impl.YarnOf(chain(t, 300), 1)), result(impl.YarnNeighbours(chain(t, 300), 298)), result(impl.YarnNeighbours(chain(t, 300), 299))), result(result(rising(300), impl.OK), "[297 299 0]", "[298 -1 0]"))
}

func TestCoursesAndWales(t *testing.T) {
	m := graph(t, nil, nil, nil, []int64{0}, []int64{1}, nil, []int64{3, 2}, []int64{2, 3}, []int64{0, 1, 2, 3}, []int64{3, 6, 4, 0})
	for loop, want := range []string{"[0 [0]]", "[1 [1 0]]", "[2 [2 1 0]]", "[0 [3]]", "[3 [4 3]]", "[3 [5 2 1 0]]", "[3 [6 0]]", "[4 [7 3]]"} {
		course, code := impl.CourseOf(m, int64(loop))
		wale, waleCode := impl.WaleOf(m, int64(loop))
		is(t, fmt.Sprint("course and wale of ", loop), result(result(course, wale), code, waleCode), result(want, impl.OK, impl.OK))
	}
	is(t, "WalesOf", result(impl.WalesOf(m)), "[[[4 3] [5 2 1 0] [6 0] [7 3]] 0]")
	other := graph(t, nil, nil, nil, nil, []int64{0, 1}, nil, []int64{1, 3}, nil)
	is(t, "wales of a loop that is a parent, but not the first one", result(impl.WalesOf(other)), "[[[2 0] [3] [4 1] [5]] 0]")
	only := graph(t, nil, nil, nil, nil, []int64{0, 1})
	is(t, "wales of a loop that is never the first parent", result(impl.WalesOf(only)), "[[[1] [2 0]] 0]")
	is(t, "no loops", result(impl.WalesOf(newMachine(t, 2))), "[[] 0]")
}

func TestMaxLoopsInOneWale(t *testing.T) {
	for _, m := range []impl.Machine{chain(t, 300), machineAfter(t, 1, loopOps(300))} {
		is(t, "CourseOf", result(impl.CourseOf(m, 299)), "[299 0]")
		is(t, "WaleOf", result(impl.WaleOf(m, 299)), result(falling(300), impl.OK))
		is(t, "WalesOf", result(impl.WalesOf(m)), result([][]int64{falling(300)}, impl.OK))
		is(t, "FabricCounts", result(impl.FabricCounts(m)), result(countsByHand(m), impl.OK))
		is(t, "LoopsText", impl.LoopsText(m), loopsTextByHand(m))
	}
	// There are more ways from the last loop to the first one than can be counted.
	dense := mesh(t, 300)
	for loop := range int64(300) {
		is(t, "CourseOf", result(impl.CourseOf(dense, loop)), result(loop, impl.OK))
	}
	is(t, "WaleOf", result(impl.WaleOf(dense, 299)), "[[299 295 291 287 283 279 275 271 267 263 259 255 251 247 243 239 235 231 227 223 219 215 211 207 203 199 195 191 187 183 179 175 171 167 163 159 155 151 147 143 139 135 131 127 123 119 115 111 107 103 99 95 91 87 83 79 75 71 67 63 59 55 51 47 43 39 35 31 27 23 19 15 11 7 3 0] 0]")
	is(t, "WalesOf", result(impl.WalesOf(dense)), result(walesByHand(dense), impl.OK))
}

func TestCountsOfFabrics(t *testing.T) {
	m := stateGraph(t)
	m.Loops[3].Kind, m.Loops[0].Kind = impl.OpSplit, impl.OpKnit
	is(t, "FabricCounts", result(impl.FabricCounts(m)), "[[3 5 1 4 2 2 1] 0]")
	is(t, "no loops", result(impl.FabricCounts(newMachine(t, 3))), "[[0 0 0 0 0 0 0] 0]")
	is(t, "the rich machine", result(impl.FabricCounts(richMachine(t))), "[[4 5 2 2 7 2 0] 0]")
}

func TestTextOfLoops(t *testing.T) {
	m := newMachine(t, 24)
	m.Loops = []impl.Info{
		{Kind: impl.OpKnit, Carrier: 1, Bed: 1, At: 0, Dir: 1}, {Kind: impl.OpTuck, Carrier: 4, Bed: 2, At: 23, Dir: -1}, {Kind: impl.OpKnit, Carrier: 2, Bed: 2, At: 10, Dir: -1, Parents: []int64{1}},
		{Kind: impl.OpTuck, Carrier: 3, Bed: 1, At: 9, Dir: 1}, {Kind: impl.OpSplit, Carrier: 1, Bed: 1, At: 23, Dir: 1, Parents: []int64{0}}, {Kind: impl.OpKnit, Carrier: 4, Bed: 2, At: 0, Dir: 1, Parents: []int64{3, 1, 2, 0}},
		{Kind: impl.OpSplit, Carrier: 2, Bed: 2, At: 7, Dir: -1, Parents: []int64{5, 0, 4, 1}}, {Kind: impl.OpTuck, Carrier: 1, Bed: 1, At: 1, Dir: -1}, {Kind: impl.OpSplit, Carrier: 1, Bed: 1, At: 1, Dir: 1, Parents: []int64{5, 2}},
	}
	m.Front[4], m.Back[20], m.Dropped = []int64{6, 3}, []int64{0}, []int64{1, 7}
	isValidState(t, "loops", m)
	is(t, "LoopsText", impl.LoopsText(m), `0 knit f0 y1 right live
1 tuck b23 y4 left dropped
2 knit b10 y2 left held of 1
3 tuck f9 y3 right live
4 split f23 y1 right held of 0
5 knit b0 y4 right held of 3 1 2 0
6 split b7 y2 left live of 5 0 4 1
7 tuck f1 y1 left dropped
8 split f1 y1 right loose of 5 2
`)
	is(t, "no loops", impl.LoopsText(newMachine(t, 24)), "")
	is(t, "the zero state", impl.LoopsText(impl.Machine{}), "")
}

// P12: every loop has one state, one yarn and one course; children and wales agree with parents.
func TestManyFabrics(t *testing.T) {
	seen := map[int64]int{}
	for i, m := range someFabrics(t) {
		name := fmt.Sprint("fabric ", i, ": ")
		courses := coursesByHand(m)
		for n := range m.Loops {
			loop := int64(n)
			state := loopStateByHand(m, loop)
			seen[state]++
			is(t, name+"LoopState", result(impl.LoopState(m, loop)), result(state, impl.OK))
			is(t, name+"ChildrenOf", result(impl.ChildrenOf(m, loop)), result(childrenByHand(m, loop), impl.OK))
			is(t, name+"YarnNeighbours", result(impl.YarnNeighbours(m, loop)), neighboursByHand(m, loop))
			is(t, name+"CourseOf", result(impl.CourseOf(m, loop)), result(courses[loop], impl.OK))
			is(t, name+"WaleOf", result(impl.WaleOf(m, loop)), result(waleByHand(m, loop), impl.OK))
		}
		is(t, name+"WalesOf", result(impl.WalesOf(m)), result(walesByHand(m), impl.OK))
		is(t, name+"FabricCounts", result(impl.FabricCounts(m)), result(countsByHand(m), impl.OK))
		is(t, name+"LoopsText", impl.LoopsText(m), loopsTextByHand(m))
		areYarnsWhole(t, name, m)
		areCountsWhole(t, name, m)
		doWalesBeginOnce(t, name, m)
	}
	is(t, "all states are frequent", result(seen[1] > 50, seen[2] > 50, seen[3] > 50, seen[4] > 50), "[true true true true]")
}

// areYarnsWhole follows each yarn by YarnNeighbours in both directions; each loop is on one yarn.
func areYarnsWhole(t *testing.T, name string, m impl.Machine) {
	t.Helper()
	var all []int64
	for carrier := int64(1); carrier <= 4; carrier++ {
		yarn, code := impl.YarnOf(m, carrier)
		is(t, name+"YarnOf", result(code, slices.IsSorted(yarn)), result(impl.OK, true))
		for i, loop := range yarn {
			before, after, _ := impl.YarnNeighbours(m, loop)
			around := slices.Concat([]int64{-1}, yarn, []int64{-1})
			is(t, name+"neighbours on a yarn", result(before, after, m.Loops[loop].Carrier), result(around[i], around[i+2], carrier))
		}
		all = append(all, yarn...)
	}
	slices.Sort(all)
	is(t, name+"loops of all yarns", all, rising(len(m.Loops)))
}

// areCountsWhole adds up the numbers of the kinds, and those of the states.
func areCountsWhole(t *testing.T, name string, m impl.Machine) {
	t.Helper()
	counts, _ := impl.FabricCounts(m)
	kinds, states := int64(0), int64(0)
	for i, count := range counts {
		if i < 3 {
			kinds += count
		} else {
			states += count
		}
	}
	is(t, name+"sums of FabricCounts", result(len(counts), kinds, states), result(7, len(m.Loops), len(m.Loops)))
}

// doWalesBeginOnce checks that the wales begin with ascending loops, none of which another one continues, and contain all loops that are first parents.
func doWalesBeginOnce(t *testing.T, name string, m impl.Machine) {
	t.Helper()
	wales, _ := impl.WalesOf(m)
	begins, found := map[int64]bool{}, map[int64]bool{}
	for i, wale := range wales {
		begins[wale[0]] = true
		is(t, name+"ascending order", i == 0 || wales[i-1][0] < wale[0], true)
		for _, loop := range wale {
			found[loop] = true
		}
	}
	is(t, name+"loops of all wales", len(found), len(m.Loops))
	for _, info := range m.Loops {
		is(t, name+"a beginning that is a first parent", len(info.Parents) > 0 && begins[info.Parents[0]], false)
	}
	is(t, name+"lists that share memory", shareMemory(wales), false)
}

// P12: a new loop is the child of exactly the loops that were on its needle.
func TestNewLoopsAreChildren(t *testing.T) {
	m := richMachine(t)
	for _, o := range opsOfRichMachine() {
		next := stepOf(t, m, o)
		if len(next.Loops) == len(m.Loops) {
			continue
		}
		parents := []int64{}
		if o.Kind != impl.OpTuck {
			parents = impl.LoopsOn(m, o.From)
		}
		for loop := range int64(len(m.Loops)) {
			before, _ := impl.ChildrenOf(m, loop)
			after, _ := impl.ChildrenOf(next, loop)
			if slices.Contains(parents, loop) {
				before = append(before, int64(len(m.Loops)))
			}
			is(t, fmt.Sprint("children of ", loop, " after ", o), after, before)
		}
	}
}
