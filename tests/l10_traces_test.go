package tests

import (
	"fmt"
	"math"
	"slices"
	"strconv"
	"strings"
	"sync"
	"testing"

	"loop.example/g00856/impl"
)

func cross(place, count int64) impl.Event {
	return impl.Event{Kind: impl.EvCross, Place: place, Count: count}
}

func knit(place, count int64) impl.Event {
	return impl.Event{Kind: impl.EvKnit, Place: place, Count: count, Bed: 1, Carrier: 1, Dir: 1}
}

func tuck(place int64) impl.Event {
	return impl.Event{Kind: impl.EvTuck, Place: place, Bed: 1, Carrier: 1, Dir: 1}
}

func drop(place, count int64) impl.Event {
	return impl.Event{Kind: impl.EvDrop, Place: place, Count: count}
}

func split(bed, place, count int64) impl.Event {
	return impl.Event{Kind: impl.EvSplit, Place: place, Count: count, Bed: bed, Carrier: 1, Dir: 1}
}

// tucks makes so many strands.
func tucks(strands int64) []impl.Event { return slices.Repeat([]impl.Event{tuck(0)}, int(strands)) }

// withYarns returns an event with each bed, carrier and direction.
func withYarns(e impl.Event) []impl.Event {
	var list []impl.Event
	for bed := int64(1); bed <= 2; bed++ {
		for carrier := int64(1); carrier <= 4; carrier++ {
			for _, dir := range []int64{1, -1} {
				e.Bed, e.Carrier, e.Dir = bed, carrier, dir
				list = append(list, e)
			}
		}
	}
	return list
}

// eventsFor returns all events that are valid for so many strands: one for each place where there are strands enough.
func eventsFor(strands int64) []impl.Event {
	var list []impl.Event
	for end := range strands + 1 {
		list = append(list, withYarns(impl.Event{Kind: 3, Place: end})...)
		for count := range min(end, 4) + 1 {
			list = append(list, withYarns(impl.Event{Kind: 2, Place: end - count, Count: count})...)
			if count > 0 {
				list = append(list, impl.Event{Kind: 4, Place: end - count, Count: count})
				for _, e := range withYarns(impl.Event{Kind: 5, Count: count}) {
					e.Place = map[int64]int64{1: end - count, 2: end}[e.Bed]
					list = append(list, e)
				}
			}
		}
		if end >= 2 {
			list = append(list, cross(end-2, 1), cross(end-2, -1))
		}
	}
	return list
}

// isEventByHand reports whether an event is valid for at most MaxStrands strands.
func isEventByHand(strands int, e impl.Event) bool { return eventSets()[strands][e] }

// eventSets are eventsFor 0 to MaxStrands strands.
var eventSets = sync.OnceValue(func() []map[impl.Event]bool {
	sets := make([]map[impl.Event]bool, 13)
	for strands := range sets {
		sets[strands] = map[impl.Event]bool{}
		for _, e := range eventsFor(int64(strands)) {
			sets[strands][e] = true
		}
	}
	return sets
})

// playedByHand changes strands as the table of events says, and returns them and those that the event takes.
func playedByHand(strands []int64, e impl.Event, loop int64) (after, taken []int64) {
	p, end := int(e.Place), int(e.Place+e.Count)
	after = slices.Clone(strands)
	switch {
	case e.Kind == 1:
		after[p], after[p+1] = after[p+1], after[p]
	case e.Kind == 2:
		return slices.Replace(after, p, end, loop), slices.Clone(strands[p:end])
	case e.Kind == 4:
		return slices.Delete(after, p, end), slices.Clone(strands[p:end])
	case e.Kind == 5 && e.Bed == 1:
		return slices.Insert(after, p, loop), slices.Clone(strands[p:end])
	case e.Kind == 5:
		return slices.Insert(after, p, loop), slices.Clone(strands[p-int(e.Count) : p])
	default:
		return slices.Insert(after, p, loop), nil
	}
	return after, nil
}

// strandsByHand executes one event after the other.
func strandsByHand(list []impl.Event) []any {
	if len(list) > 2000 {
		return result(0, impl.ErrInvalid)
	}
	var strands []int64
	for _, e := range list {
		if !isEventByHand(len(strands), e) {
			return result(0, impl.ErrInvalid)
		}
		if strands, _ = playedByHand(strands, e, 0); len(strands) > 12 {
			return result(0, impl.ErrInvalid)
		}
	}
	return result(len(strands), impl.OK)
}

// areEvents checks a list of events that is valid, and how many strands there are at the end.
func areEvents(t *testing.T, list []impl.Event, strands int) {
	t.Helper()
	is(t, fmt.Sprintf("StrandsOf and ValidEvents of %d events %.200v", len(list), list), result(result(impl.StrandsOf(list)), impl.ValidEvents(list)), result(result(strands, impl.OK), true))
}

// areNoEvents checks a list of events that is not valid.
func areNoEvents(t *testing.T, list []impl.Event) {
	t.Helper()
	is(t, fmt.Sprintf("StrandsOf and ValidEvents of %d events %.200v", len(list), list), result(result(impl.StrandsOf(list)), impl.ValidEvents(list)), result(result(0, impl.ErrInvalid), false))
}

func TestTraceConstants(t *testing.T) {
	is(t, "kinds", result(impl.EvCross, impl.EvKnit, impl.EvTuck, impl.EvDrop, impl.EvSplit), "[1 2 3 4 5]")
	is(t, "limit", impl.MaxEvents, 2000)
}

// Each kind with the least and the greatest Place and Count, and one more and one less.
func TestPlacesAndCountsOfEvents(t *testing.T) {
	for _, c := range []struct {
		strands int64
		e       impl.Event
		after   int
	}{
		{2, cross(0, 1), 2}, {2, cross(0, -1), 2}, {12, cross(10, 1), 12},
		{0, knit(0, 0), 1}, {4, knit(0, 4), 1}, {4, knit(4, 0), 5}, {5, knit(1, 4), 2}, {12, knit(11, 1), 12}, {11, knit(11, 0), 12},
		{0, tuck(0), 1}, {11, tuck(11), 12}, {11, tuck(0), 12},
		{1, drop(0, 1), 0}, {4, drop(0, 4), 0}, {5, drop(4, 1), 4}, {12, drop(8, 4), 8},
		{1, split(1, 0, 1), 2}, {1, split(2, 1, 1), 2}, {4, split(1, 0, 4), 5}, {4, split(2, 4, 4), 5}, {11, split(1, 7, 4), 12}, {11, split(1, 10, 1), 12}, {11, split(2, 11, 4), 12}, {11, split(2, 1, 1), 12},
	} {
		areEvents(t, append(tucks(c.strands), c.e), c.after)
	}
	for _, c := range []struct {
		strands int64
		e       impl.Event
	}{
		{0, cross(0, 1)}, {1, cross(0, 1)}, {2, cross(1, 1)}, {2, cross(-1, 1)}, {12, cross(11, -1)}, {2, cross(0, 0)}, {2, cross(0, 2)}, {2, cross(0, -2)},
		{0, knit(0, 1)}, {5, knit(0, 5)}, {5, knit(2, 4)}, {5, knit(6, 0)}, {5, knit(-1, 1)}, {5, knit(-1, 0)}, {5, knit(1, -1)}, {12, knit(0, 0)}, {12, knit(12, 0)},
		{0, tuck(1)}, {0, tuck(-1)}, {11, tuck(12)}, {12, tuck(0)}, {12, tuck(12)},
		{0, drop(0, 1)}, {4, drop(0, 0)}, {4, drop(0, -1)}, {5, drop(0, 5)}, {5, drop(2, 4)}, {5, drop(-1, 1)}, {5, drop(5, 1)},
		{0, split(1, 0, 1)}, {0, split(2, 0, 1)}, {4, split(1, 1, 4)}, {4, split(2, 5, 4)}, {4, split(2, 3, 4)}, {4, split(1, 0, 0)}, {4, split(2, 4, 0)}, {5, split(1, 0, 5)}, {5, split(2, 5, 5)}, {5, split(1, -1, 1)}, {5, split(2, 0, 1)}, {5, split(2, -1, 1)}, {5, split(2, 6, 1)}, {5, split(1, 5, 1)}, {12, split(1, 0, 1)}, {12, split(2, 12, 1)}, {5, split(1, 1, -1)}, {5, split(2, 1, -1)},
	} {
		areNoEvents(t, append(tucks(c.strands), c.e))
	}
}

// Events with one field that their kind does not use, and with a bed, carrier or direction that is none.
func TestFieldsOfEvents(t *testing.T) {
	for _, e := range []impl.Event{cross(1, 1), cross(1, -1), drop(1, 2)} {
		is(t, "without other fields", impl.ValidEvents(append(tucks(4), e)), true)
		for _, other := range []impl.Event{{Bed: 1}, {Bed: 2}, {Carrier: 1}, {Dir: 1}, {Dir: -1}, {Bed: 1, Carrier: 1, Dir: 1}, {Bed: 2, Carrier: 4, Dir: -1}} {
			other.Kind, other.Place, other.Count = e.Kind, e.Place, e.Count
			areNoEvents(t, append(tucks(4), other))
		}
	}
	for _, e := range []impl.Event{knit(1, 2), knit(1, 0), tuck(2), split(1, 1, 2), split(2, 3, 2)} {
		is(t, "with all fields", impl.ValidEvents(append(tucks(4), e)), true)
		for _, do := range []func(e *impl.Event){
			func(e *impl.Event) { e.Bed = 0 }, func(e *impl.Event) { e.Bed = 3 }, func(e *impl.Event) { e.Bed = -1 }, func(e *impl.Event) { e.Carrier = 0 }, func(e *impl.Event) { e.Carrier = 5 }, func(e *impl.Event) { e.Carrier = -1 },
			func(e *impl.Event) { e.Dir = 0 }, func(e *impl.Event) { e.Dir = 2 }, func(e *impl.Event) { e.Dir = -2 }, func(e *impl.Event) { e.Bed, e.Carrier, e.Dir = 0, 0, 0 },
		} {
			other := e
			do(&other)
			areNoEvents(t, append(tucks(4), other))
		}
	}
	for _, count := range []int64{-1, 1, 2} {
		e := tuck(1)
		e.Count = count
		areNoEvents(t, append(tucks(4), e))
	}
	for _, kind := range []int64{math.MinInt64, -1, 0, 6, 7, math.MaxInt64} {
		areNoEvents(t, append(tucks(4), impl.Event{Kind: kind}))
		areNoEvents(t, append(tucks(4), impl.Event{Kind: kind, Place: 1, Count: 1, Bed: 1, Carrier: 1, Dir: 1}))
	}
}

// All fields, for all numbers of strands.
func TestValidEventsOfAllFields(t *testing.T) {
	yarns := append(withYarns(impl.Event{}), impl.Event{}, impl.Event{Bed: 1}, impl.Event{Bed: 3, Carrier: 1, Dir: 1}, impl.Event{Bed: 1, Carrier: 5, Dir: 1}, impl.Event{Bed: 2, Carrier: 1, Dir: 2}, impl.Event{Bed: 2, Carrier: 2})
	for strands := range int64(13) {
		before := tucks(strands)
		for kind := int64(-1); kind <= 6; kind++ {
			for _, place := range append(rising(15), -1, -4, math.MinInt64, math.MinInt64+2, math.MaxInt64-2, math.MaxInt64) {
				for _, count := range append(rising(7), -1, -2, math.MinInt64, math.MinInt64+2, math.MaxInt64-2, math.MaxInt64) {
					for _, e := range yarns {
						e.Kind, e.Place, e.Count = kind, place, count
						want := result(0, impl.ErrInvalid)
						if isEventByHand(int(strands), e) {
							after, _ := playedByHand(make([]int64, strands), e, 0)
							if len(after) <= 12 {
								want = result(len(after), impl.OK)
							}
						}
						list := append(before, e)
						if n, code := impl.StrandsOf(list); n != int64(want[0].(int)) || code != int64(want[1].(int)) || impl.ValidEvents(list) != (code == impl.OK) {
							t.Errorf("StrandsOf %d strands and %v: got %d %d, want %v", strands, e, n, code, want)
						}
					}
				}
			}
		}
	}
}

func TestListsOfEvents(t *testing.T) {
	areEvents(t, nil, 0)
	areEvents(t, []impl.Event{}, 0)
	areEvents(t, []impl.Event{tuck(0), tuck(1), cross(0, 1), knit(0, 2), split(1, 0, 1), drop(0, 1), split(2, 1, 1), drop(0, 2)}, 0)
	areNoEvents(t, []impl.Event{tuck(0), tuck(1), cross(0, 1), knit(0, 2), cross(0, 1)})
	areNoEvents(t, []impl.Event{{}})
	areNoEvents(t, []impl.Event{drop(0, 1), tuck(0)})
	areNoEvents(t, []impl.Event{tuck(0), drop(0, 1), drop(0, 1)})
	areNoEvents(t, []impl.Event{tuck(0), drop(0, 1), {}, tuck(0)})
}

func TestMaxEventsEvents(t *testing.T) {
	list := append(tucks(2), slices.Repeat([]impl.Event{cross(0, 1)}, 1998)...)
	areEvents(t, list, 2)
	areNoEvents(t, append(list, cross(0, 1)))
	areNoEvents(t, append(list, knit(0, 2)))
	areNoEvents(t, append(list, drop(0, 2)))
	areEvents(t, append(list[:1999:1999], drop(0, 2)), 0)
	areEvents(t, slices.Repeat([]impl.Event{tuck(0), drop(0, 1)}, 1000), 0)
	areNoEvents(t, slices.Repeat([]impl.Event{tuck(0), drop(0, 1)}, 1001))
}

// More than MaxStrands strands, at the end and for a time only.
func TestMaxStrandsStrands(t *testing.T) {
	for _, more := range []impl.Event{tuck(0), knit(12, 0), split(1, 0, 4), split(2, 12, 1)} {
		areEvents(t, tucks(12), 12)
		areNoEvents(t, append(tucks(12), more))
		areNoEvents(t, append(tucks(12), more, drop(0, 4)))
		areNoEvents(t, append(tucks(12), more, drop(0, 4), drop(0, 4), drop(0, 4), drop(0, 1)))
		areEvents(t, append(tucks(12), drop(0, 1), cross(9, 1), knit(0, 2), tuck(3), tuck(4), drop(8, 4)), 8)
	}
	areEvents(t, append(tucks(12), knit(0, 1), knit(8, 4), cross(7, 1)), 9)
}

// changedEvents returns events that differ from e in one field.
func changedEvents(e impl.Event) []impl.Event {
	var list []impl.Event
	for _, step := range []int64{-12, -4, -2, -1, 1, 2, 4, 12, math.MinInt64} {
		for field := range 6 {
			other := e
			fields := []*int64{&other.Kind, &other.Place, &other.Count, &other.Bed, &other.Carrier, &other.Dir}
			*fields[field] += step
			list = append(list, other)
		}
	}
	return list
}

func TestManyListsOfEvents(t *testing.T) {
	valid := 0
	for seed := range 60 {
		d := dice(seed)
		list := d.events(30 + seed)
		areEvents(t, list, strandsByHand(list)[0].(int))
		for i, e := range list {
			for _, other := range changedEvents(e) {
				changed := slices.Concat(list[:i], []impl.Event{other}, list[i+1:min(i+3, len(list))])
				is(t, "StrandsOf", result(impl.StrandsOf(changed)), strandsByHand(changed))
				is(t, "ValidEvents", impl.ValidEvents(changed), strandsByHand(changed)[1] == impl.OK)
				if impl.ValidEvents(changed) {
					valid++
				}
			}
			if seed%6 == 0 {
				shorter := slices.Concat(list[:i], list[i+1:])
				is(t, "one event less", result(impl.StrandsOf(shorter)), strandsByHand(shorter))
			}
		}
	}
	is(t, "some of the changed lists are valid", valid > 100, true)
}

// events throws a valid list of events.
func (d *dice) events(count int) []impl.Event {
	var list []impl.Event
	strands := []int64{}
	for len(list) < count {
		all := eventsFor(int64(len(strands)))
		e := all[d.below(int64(len(all)))]
		if after, _ := playedByHand(strands, e, 0); len(after) <= 12 {
			list, strands = append(list, e), after
		}
	}
	return list
}

func TestSameEvents(t *testing.T) {
	lists := [][]impl.Event{nil, {{}}, {{}, {}}, {tuck(0), tuck(1), cross(0, 1)}, {tuck(0), tuck(1)}, {tuck(1), tuck(0), cross(0, 1)}}
	for _, e := range append(changedEvents(impl.Event{}), changedEvents(split(2, 4, 2))...) {
		lists = append(lists, []impl.Event{tuck(0), e, tuck(0)})
	}
	for i, a := range lists {
		for k, b := range lists {
			is(t, fmt.Sprint("SameEvents of ", a, b), impl.SameEvents(a, slices.Clone(b)), fmt.Sprint(lists[i]) == fmt.Sprint(lists[k]))
		}
	}
	is(t, "nil and empty", impl.SameEvents(nil, []impl.Event{}), true)
	long := slices.Repeat([]impl.Event{{Kind: 9, Place: -1}}, 5000)
	is(t, "long lists", result(impl.SameEvents(long, slices.Clone(long)), impl.SameEvents(long, long[1:])), "[true false]")
}

// hanging returns a state with so many loops on needles as a text like "f0 2, b1 4" says.
// Carrier 1 has come in from the left, and carrier 2 from the right.
func hanging(t *testing.T, width, rack int64, text string) impl.Machine {
	t.Helper()
	m := newMachine(t, width)
	m.Rack = rack
	m.Carriers[0], m.Carriers[1] = impl.Carrier{In: true, At: -3}, impl.Carrier{In: true, At: width + 3}
	for _, part := range strings.Split(text, ", ") {
		name, count, found := strings.Cut(part, " ")
		at, err := strconv.Atoi(name[min(1, len(name)):])
		loops, err2 := strconv.Atoi(count)
		if !found || err != nil || err2 != nil {
			continue
		}
		row := rowOf(m, map[byte]int64{'f': 1, 'b': 2}[name[0]])
		for range loops {
			row[at] = append(row[at], int64(len(m.Loops)))
			addLoops(&m, 1)
		}
	}
	isValidState(t, text, m)
	return m
}

// strandsBeforeByHand counts the loops on all needles that are before n.
func strandsBeforeByHand(m impl.Machine, n impl.Needle) int64 {
	strands := 0
	for bed := int64(1); bed <= 2; bed++ {
		for at, loops := range rowOf(m, bed) {
			other := impl.Needle{Bed: bed, At: int64(at)}
			if place := placeOfNeedle(m, other); place < placeOfNeedle(m, n) || place == placeOfNeedle(m, n) && bed < n.Bed {
				strands += len(loops)
			}
		}
	}
	return int64(strands)
}

// rackedByHand racks in steps of 1, and moves each strand of a right needle past those of the left one.
func rackedByHand(t *testing.T, m impl.Machine, rack int64) []impl.Event {
	t.Helper()
	m = copyOfMachine(m)
	strands, list := liveByHand(m), []impl.Event{}
	pass := func(left, right []int64, count int64) {
		for _, strand := range right {
			for range left {
				i := slices.Index(strands, strand)
				strands[i-1], strands[i] = strands[i], strands[i-1]
				list = append(list, cross(int64(i-1), count))
			}
		}
	}
	for ; m.Rack < rack; m.Rack++ {
		for at := range m.Width {
			if back := at - m.Rack - 1; back >= 0 && back < m.Width {
				pass(m.Back[back], m.Front[at], -1)
			}
		}
	}
	for ; m.Rack > rack; m.Rack-- {
		for at := range m.Width {
			if back := at - m.Rack; back >= 0 && back < m.Width {
				pass(m.Front[at], m.Back[back], 1)
			}
		}
	}
	is(t, "strands after racking by hand", strands, liveByHand(m))
	return list
}

// opEventsByHand returns the events of an operation and its code.
func opEventsByHand(t *testing.T, m impl.Machine, o impl.Op) ([]impl.Event, int64) {
	t.Helper()
	if code := codeByHand(m, o); code != impl.OK {
		return []impl.Event{}, code
	}
	if o.Kind == impl.OpRack {
		return rackedByHand(t, m, o.Rack), impl.OK
	}
	kind := map[int64]int64{impl.OpKnit: impl.EvKnit, impl.OpTuck: impl.EvTuck, impl.OpDrop: impl.EvDrop, impl.OpSplit: impl.EvSplit}[o.Kind]
	if kind == 0 {
		return []impl.Event{}, impl.OK
	}
	loops := int64(len(rowOf(m, o.From.Bed)[o.From.At]))
	e := impl.Event{Kind: kind, Place: strandsBeforeByHand(m, o.From), Count: loops, Bed: o.From.Bed, Carrier: o.Carrier, Dir: o.Dir}
	if kind == impl.EvTuck || kind == impl.EvSplit && e.Bed == impl.BdBack {
		e.Place += loops
	}
	if kind == impl.EvTuck {
		e.Count = 0
	}
	if kind == impl.EvDrop {
		e.Bed = 0
	}
	return []impl.Event{e}, impl.OK
}

func eventTextByHand(e impl.Event) string {
	yarn := fmt.Sprintf("%s%s%d", map[int64]string{1: "f", 2: "b"}[e.Bed], map[int64]string{1: "+", -1: "-"}[e.Dir], e.Carrier)
	switch e.Kind {
	case 1:
		return fmt.Sprintf("cross %d %d", e.Place, e.Count)
	case 2:
		return fmt.Sprintf("knit %d %d %s", e.Place, e.Count, yarn)
	case 3:
		return fmt.Sprintf("tuck %d %s", e.Place, yarn)
	case 4:
		return fmt.Sprintf("drop %d %d", e.Place, e.Count)
	case 5:
		return fmt.Sprintf("split %d %d %s", e.Place, e.Count, yarn)
	}
	return ""
}

// textsOf returns the texts of events, separated by commas; crossings one after the other are only their signs and places.
func textsOf(list []impl.Event) string {
	var texts []string
	for _, e := range list {
		text := eventTextByHand(e)
		if e.Kind == impl.EvCross {
			text = map[int64]string{1: "+", -1: "-"}[e.Count] + strconv.Itoa(int(e.Place))
		}
		texts = append(texts, text)
	}
	return strings.Join(texts, ", ")
}

// happens compares the events of an operation, given by its text, with theirs.
func happens(t *testing.T, m impl.Machine, op, want string) {
	t.Helper()
	o := opsOf(t, op)[0]
	list, code := impl.OpEvents(m, o)
	is(t, "OpEvents of "+op, result(textsOf(list), code), result(want, impl.OK))
	byHand, codeByHand := opEventsByHand(t, m, o)
	is(t, "OpEvents by hand of "+op, result(list, code), result(byHand, codeByHand))
}

func TestEventsOfStitches(t *testing.T) {
	m := hanging(t, 6, 0, "f0 1, b0 2, f2 3, b2 1, f5 1, b5 3")
	for op, want := range map[string]string{
		"knit > f0 1": "knit 0 1 f+1", "knit > b0 1": "knit 1 2 b+1", "knit > f1 1": "knit 3 0 f+1", "knit < b1 2": "knit 3 0 b-2", "knit < f2 2": "knit 3 3 f-2", "knit > b2 1": "knit 6 1 b+1",
		"knit < f3 2": "knit 7 0 f-2", "knit > b4 1": "knit 7 0 b+1", "knit < f5 2": "knit 7 1 f-2", "knit < b5 2": "knit 8 3 b-2",
		"tuck > f0 1": "tuck 1 f+1", "tuck < b0 2": "tuck 3 b-2", "tuck > f1 1": "tuck 3 f+1", "tuck > b1 1": "tuck 3 b+1", "tuck < f2 2": "tuck 6 f-2", "tuck > b2 1": "tuck 7 b+1", "tuck > f5 1": "tuck 8 f+1", "tuck < b5 2": "tuck 11 b-2",
		"drop f0": "drop 0 1", "drop b0": "drop 1 2", "drop f2": "drop 3 3", "drop b2": "drop 6 1", "drop f5": "drop 7 1", "drop b5": "drop 8 3",
		"split > f0 b0 1": "split 0 1 f+1", "split < b0 f0 2": "split 3 2 b-2", "split > f2 b2 1": "split 3 3 f+1", "split > b2 f2 1": "split 7 1 b+1", "split < f5 b5 2": "split 7 1 f-2", "split < b5 f5 2": "split 11 3 b-2",
		"miss > f0 1": "", "miss < b5 2": "", "xfer f0 b0": "", "xfer b2 f2": "", "in > 3": "", "in < 4": "", "out 1": "", "out 2": "",
	} {
		happens(t, m, op, want)
	}
}

func TestEventsOfNeedlesWithMaxStackLoops(t *testing.T) {
	m := hanging(t, 24, 0, "f0 4, b1 4, f22 4, b23 4")
	for op, want := range map[string]string{
		"knit > f0 1": "knit 0 4 f+1", "knit > b1 1": "knit 4 4 b+1", "knit > f22 1": "knit 8 4 f+1", "knit < b23 2": "knit 12 4 b-2", "knit < f23 2": "knit 12 0 f-2", "knit > b0 1": "knit 4 0 b+1",
		"tuck > b0 1": "tuck 4 b+1", "tuck > f1 1": "tuck 4 f+1", "tuck < b22 2": "tuck 12 b-2", "tuck < f23 2": "tuck 12 f-2",
		"drop f0": "drop 0 4", "drop b1": "drop 4 4", "drop f22": "drop 8 4", "drop b23": "drop 12 4",
		"split > f0 b0 1": "split 0 4 f+1", "split > b1 f1 1": "split 8 4 b+1", "split < f22 b22 2": "split 8 4 f-2", "split < b23 f23 2": "split 16 4 b-2",
	} {
		happens(t, m, op, want)
	}
	empty := hanging(t, 2, 0, "")
	for op, want := range map[string]string{"knit > f0 1": "knit 0 0 f+1", "knit < b1 2": "knit 0 0 b-2", "tuck > b0 1": "tuck 0 b+1", "tuck < f1 2": "tuck 0 f-2", "miss > f1 1": "", "rack 3": "", "rack -3": ""} {
		happens(t, empty, op, want)
	}
}

func TestEventsAtOtherRacks(t *testing.T) {
	loops := "f0 1, b0 2, f2 3, b2 1, f3 1, b3 2"
	right, left := hanging(t, 4, 2, loops), hanging(t, 4, -3, loops)
	for op, want := range map[string]string{
		"knit > f0 1": "knit 0 1 f+1", "knit > b0 1": "knit 4 2 b+1", "knit > f2 1": "knit 1 3 f+1", "knit > f1 1": "knit 1 0 f+1", "knit < b1 2": "knit 7 0 b-2", "knit < b2 2": "knit 7 1 b-2", "knit < b3 2": "knit 8 2 b-2", "knit > f3 1": "knit 6 1 f+1",
		"tuck > b0 1": "tuck 6 b+1", "tuck < b3 2": "tuck 10 b-2", "drop b0": "drop 4 2", "drop b3": "drop 8 2", "split > f3 b1 1": "split 6 1 f+1", "xfer f3 b1": "",
	} {
		happens(t, right, op, want)
	}
	for op, want := range map[string]string{
		"knit > f0 1": "knit 3 1 f+1", "knit > b0 1": "knit 0 2 b+1", "knit > b1 1": "knit 2 0 b+1", "knit > b2 1": "knit 2 1 b+1", "knit > b3 1": "knit 4 2 b+1", "knit < f1 2": "knit 6 0 f-2", "knit < f2 2": "knit 6 3 f-2", "knit > f3 1": "knit 9 1 f+1",
		"tuck > b0 1": "tuck 2 b+1", "tuck > b2 1": "tuck 3 b+1", "drop b0": "drop 0 2", "drop f0": "drop 3 1", "split > f0 b3 1": "split 3 1 f+1", "split < b3 f0 2": "split 6 2 b-2", "xfer b3 f0": "",
	} {
		happens(t, left, op, want)
	}
}

func TestRackByOneStep(t *testing.T) {
	for _, c := range []struct {
		rack      int64
		loops     string
		op, wants string
	}{
		{0, "b0 1, f1 1", "rack 1", "-0"}, {0, "b0 1, f1 1", "rack -1", ""}, {0, "b0 1, f1 1", "rack 0", ""},
		{0, "f1 1, b1 1", "rack -1", "+0"}, {0, "f1 1, b1 1", "rack 1", ""}, {0, "f1 1, b1 1", "rack 0", ""},
		{1, "f1 1, b0 1", "rack 0", "+0"}, {1, "f1 1, b0 1", "rack 2", ""}, {1, "f2 1, b0 1", "rack 2", "-0"}, {-2, "f1 1, b2 1", "rack -1", "-0"}, {-2, "f0 1, b2 1", "rack -3", "+0"},
		{0, "f0 1, f1 1, f2 1", "rack 1", ""}, {0, "b0 1, b1 1, b2 1", "rack -1", ""},
		{0, "f0 1, b0 2, f1 3", "rack 1", "-2, -1, -3, -2, -4, -3"}, {0, "f0 1, b0 3, f1 2", "rack 1", "-3, -2, -1, -4, -3, -2"},
		{0, "f1 3, b1 2", "rack -1", "+2, +1, +0, +3, +2, +1"}, {0, "f1 2, b1 3", "rack -1", "+1, +0, +2, +1, +3, +2"}, {0, "f0 2, b0 1, f1 1, b1 2", "rack -1", "+1, +0, +3, +4"},
		{0, "f0 1, b0 1, f1 1, b1 1, f2 1, b2 1", "rack 1", "-1, -3"}, {0, "f0 1, b0 1, f1 1, b1 1, f2 1, b2 1", "rack -1", "+0, +2, +4"},
		{0, "b0 4, f1 4", "rack 1", "-3, -2, -1, -0, -4, -3, -2, -1, -5, -4, -3, -2, -6, -5, -4, -3"}, {0, "f3 4, b3 4", "rack -1", "+3, +2, +1, +0, +4, +3, +2, +1, +5, +4, +3, +2, +6, +5, +4, +3"},
	} {
		happens(t, hanging(t, 4, c.rack, c.loops), c.op, c.wants)
	}
}

func TestRackBySeveralSteps(t *testing.T) {
	three := "f0 1, b0 1, f1 1, b1 1, f2 1, b2 1"
	for _, c := range []struct {
		rack      int64
		loops     string
		op, wants string
	}{
		{0, three, "rack 2", "-1, -3, -2"}, {0, three, "rack 3", "-1, -3, -2"}, {0, three, "rack -2", "+0, +2, +4, +1, +3"}, {0, three, "rack -3", "+0, +2, +4, +1, +3, +2"},
		{3, three, "rack 0", "+2, +1, +3"}, {-3, three, "rack 0", "-2, -1, -3, -0, -2, -4"}, {2, three, "rack -1", "+2, +1, +3, +0, +2, +4"}, {-1, three, "rack 1", "-0, -2, -4, -1, -3"}, {2, three, "rack 2", ""}, {-3, three, "rack -3", ""},
		{0, "b1 2, f2 1, f3 1", "rack 2", "-1, -0, -2, -1"}, {-3, "b3 1, f0 1, f1 2, f2 1", "rack 0", "-1, -2, -3"}, {3, "b0 1, f1 1, f2 2, f3 1", "rack -3", "+3, +2, +1, +0"}, {-3, "b1 1, f1 2", "rack 3", "-0, -1"},
	} {
		happens(t, hanging(t, 4, c.rack, c.loops), c.op, c.wants)
	}
}

// Needles at the ends of the beds face none.
func TestRackAtTheEndsOfTheBeds(t *testing.T) {
	one := "f0 1, b0 1"
	for rack, want := range map[int64]string{-3: "+0", -2: "+0", -1: "+0", 0: "", 1: "", 2: "", 3: ""} {
		happens(t, hanging(t, 1, 0, one), "rack "+strconv.Itoa(int(rack)), want)
	}
	for rack, want := range map[int64]string{-3: "", -2: "", -1: "", 0: "-0", 1: "-0", 2: "-0", 3: "-0"} {
		happens(t, hanging(t, 1, -3, one), "rack "+strconv.Itoa(int(rack)), want)
	}
	for rack, want := range map[int64]string{-3: "+0", -1: "+0", 0: "", 2: "", 3: ""} {
		happens(t, hanging(t, 1, 3, one), "rack "+strconv.Itoa(int(rack)), want)
	}
	wide := "f0 1, b0 1, f23 1, b23 1"
	happens(t, hanging(t, 24, 0, wide), "rack 3", "")
	happens(t, hanging(t, 24, 0, wide), "rack -1", "+0, +2")
	happens(t, hanging(t, 24, 0, wide), "rack -3", "+0, +2")
	happens(t, hanging(t, 24, 3, wide), "rack -3", "+0, +2")
	happens(t, hanging(t, 24, -3, wide), "rack 3", "-0, -2")
	happens(t, hanging(t, 24, 0, "b21 1, b22 1, b23 1, f23 1"), "rack 3", "-1, -0")
	happens(t, hanging(t, 24, -3, "b0 1, b1 1, b2 1, b3 1, f0 1"), "rack 1", "-2, -1, -0")
}

// A machine may have more strands than MaxStrands, and a single operation more events than MaxEvents.
func TestEventsOfAFullMachine(t *testing.T) {
	m := hanging(t, 24, -3, "")
	for bed := int64(1); bed <= 2; bed++ {
		for at := range 24 {
			rowOf(m, bed)[at] = slices.Clone([]int64{0, 1, 2, 3})
			for i := range 4 {
				rowOf(m, bed)[at][i] = int64(len(m.Loops))
				addLoops(&m, 1)
			}
		}
	}
	isValidState(t, "full", m)
	list, code := impl.OpEvents(m, rackOp(3))
	is(t, "all needles cross", result(len(list), code), "[2160 0]")
	is(t, "by hand", list, rackedByHand(t, m, 3))
	happens(t, m, "drop b23", "drop 176 4")
	happens(t, m, "knit > f23 1", "knit 188 4 f+1")
	happens(t, m, "miss > f23 1", "")
}

// isOpEventsByHand compares the events of an operation with what is done by hand.
func isOpEventsByHand(t *testing.T, m impl.Machine, o impl.Op) {
	t.Helper()
	list, code := impl.OpEvents(m, o)
	want, wantCode := opEventsByHand(t, m, o)
	if !slices.Equal(list, want) || code != wantCode || code != impl.OK && list != nil && len(list) > 0 {
		t.Errorf("OpEvents of %v and %v: got %v %d, want %v %d", m, o, list, code, want, wantCode)
	}
	if _, stepCode := impl.StepMachine(m, o); stepCode != code {
		t.Errorf("OpEvents of %v and %v: code %d, and StepMachine has %d", m, o, code, stepCode)
	}
}

// The errors are those of StepMachine.
func TestErrorsOfOpEvents(t *testing.T) {
	m := hanging(t, 4, 0, "f0 1, b0 4, f2 4, b2 2")
	for op, want := range map[string]int64{
		"knit > f4 1": impl.ErrInvalid, "tuck > b23 1": impl.ErrInvalid, "drop f4": impl.ErrInvalid, "xfer f3 b4": impl.ErrInvalid, "xfer f4 b3": impl.ErrInvalid, "split > f0 b4 1": impl.ErrInvalid, "miss > f4 1": impl.ErrInvalid,
		"knit < f0 1": impl.ErrCarrier, "knit > f0 2": impl.ErrCarrier, "knit > f0 3": impl.ErrCarrier, "tuck > f0 3": impl.ErrCarrier, "miss < f0 1": impl.ErrCarrier, "split > f0 b0 4": impl.ErrCarrier, "in > 1": impl.ErrCarrier, "out 3": impl.ErrCarrier,
		"tuck > f2 1": impl.ErrFull, "tuck < b0 2": impl.ErrFull, "xfer f0 b0": impl.ErrFull, "split > f2 b2 1": impl.ErrFull, "xfer b2 f2": impl.ErrFull,
		"xfer f0 b1": impl.ErrRack, "split > f0 b1 1": impl.ErrRack, "xfer f1 b1": impl.ErrEmpty, "split > b3 f3 1": impl.ErrEmpty, "drop f1": impl.ErrEmpty, "drop b1": impl.ErrEmpty,
	} {
		o := opsOf(t, op)[0]
		is(t, "OpEvents of "+op, result(impl.OpEvents(m, o)), result([]impl.Event{}, want))
		isOpEventsByHand(t, m, o)
	}
	addLoops(&m, 300-11)
	for op, want := range map[string]int64{"knit > f0 1": impl.ErrFull, "tuck > f1 1": impl.ErrFull, "split > f0 b0 1": impl.ErrFull, "drop f0": impl.OK, "rack 1": impl.OK} {
		_, code := impl.OpEvents(m, opsOf(t, op)[0])
		is(t, "MaxLoops loops, "+op, code, want)
		isOpEventsByHand(t, m, opsOf(t, op)[0])
	}
}

func TestOpEventsOfInvalidArguments(t *testing.T) {
	for _, m := range notMachines(t) {
		for _, o := range append(append(someOps(), opsOfRichMachine()...), notOps()...) {
			is(t, fmt.Sprint("OpEvents of an invalid machine and ", o), result(impl.OpEvents(m, o)), result([]impl.Event{}, impl.ErrInvalid))
		}
	}
	for _, o := range notOps() {
		is(t, fmt.Sprint("OpEvents of ", o), result(impl.OpEvents(richMachine(t), o)), result([]impl.Event{}, impl.ErrInvalid))
		isOpEventsByHand(t, newMachine(t, 24), o)
	}
	for _, c := range harmlessChanges() {
		for _, o := range append(someOps(), opsOfRichMachine()...) {
			isOpEventsByHand(t, changed(richMachine(t), c), o)
		}
	}
}

// P11: events of many operations, also of such that fail.
func TestEventsOfManyOperations(t *testing.T) {
	for _, width := range []int64{1, 2, 3, 6, 24} {
		for seed := range 6 {
			d := dice(seed)
			m := newMachine(t, width)
			for range 400 {
				o := d.op(m)
				isOpEventsByHand(t, m, o)
				if next, code := impl.StepMachine(m, o); code == impl.OK {
					isPlayed(t, m, o, next)
					m = next
				}
			}
		}
	}
}

// isPlayed checks that the events of an operation lead from the strands before to those after it, that a new loop has its parents, and that front strands cross in front.
func isPlayed(t *testing.T, m impl.Machine, o impl.Op, next impl.Machine) {
	t.Helper()
	list, code := impl.OpEvents(m, o)
	is(t, "code", code, impl.OK)
	strands, loop := liveByHand(m), int64(len(m.Loops))
	onFrontBed := func(strand int64) bool { return slices.Contains(slices.Concat(m.Front...), strand) }
	for _, e := range list {
		if e.Kind == impl.EvCross {
			left, right := onFrontBed(strands[e.Place]), onFrontBed(strands[e.Place+1])
			is(t, "who is on the front bed", result(left, right), result(e.Count == 1, e.Count == -1))
		}
		after, taken := playedByHand(strands, e, loop)
		switch e.Kind {
		case impl.EvKnit, impl.EvTuck, impl.EvSplit:
			is(t, fmt.Sprint("parents of ", o), taken, next.Loops[loop].Parents)
		case impl.EvDrop:
			is(t, fmt.Sprint("dropped by ", o), taken, rowOf(m, o.From.Bed)[o.From.At])
		}
		strands = after
	}
	is(t, fmt.Sprint("strands after ", o), strands, liveByHand(next))
}

// Racking by several steps has the events of one step after the other.
func TestRackingStepByStep(t *testing.T) {
	for seed := range 40 {
		d := dice(seed)
		width := 1 + d.below(12)
		m := machineAfter(t, width, d.executableOps(t, width, 60))
		for from := int64(-3); from <= 3; from++ {
			for to := int64(-3); to <= 3; to++ {
				at := stepOf(t, m, rackOp(from))
				want := []impl.Event{}
				for at.Rack != to {
					o := rackOp(at.Rack + 1)
					if at.Rack > to {
						o = rackOp(at.Rack - 1)
					}
					step, code := impl.OpEvents(at, o)
					is(t, "code of a step", code, impl.OK)
					want, at = append(want, step...), stepOf(t, at, o)
				}
				is(t, fmt.Sprint("rack from and to ", from, to), result(impl.OpEvents(stepOf(t, m, rackOp(from)), rackOp(to))), result(want, impl.OK))
			}
		}
	}
}

// The crossings of racking there and back are a trivial braid.
func TestRackingThereAndBack(t *testing.T) {
	trivial := 0
	for seed := range 30 {
		d := dice(seed)
		m := machineAfter(t, 5, d.tracedOps(t, 5, 80))
		strands := int64(len(liveByHand(m)))
		for rack := int64(-3); rack <= 3; rack++ {
			there, _ := impl.OpEvents(m, rackOp(rack))
			back, _ := impl.OpEvents(stepOf(t, m, rackOp(rack)), rackOp(m.Rack))
			b, code := impl.CrossingBraid(strands, slices.Concat(there, back))
			if len(there) <= 20 {
				is(t, "trivial", result(code, impl.IsTrivial(b)), "[0 true]")
				trivial += len(there)
			}
			is(t, "as many crossings", len(there), len(back))
		}
	}
	is(t, "many crossings", trivial > 100, true)
}

// tracedOps throws operations that can be executed with at most MaxStrands strands.
func (d *dice) tracedOps(t *testing.T, width int64, count int) []impl.Op {
	t.Helper()
	var list []impl.Op
	m := newMachine(t, width)
	for range count {
		o := d.op(m)
		if d.below(4) == 0 {
			o = rackOp(d.below(7) - 3)
		}
		if next, code := impl.StepMachine(m, o); code == impl.OK && len(liveByHand(next)) <= 12 {
			m, list = next, append(list, o)
		}
	}
	return list
}

// traceByHand executes one operation after the other by hand.
func traceByHand(t *testing.T, width int64, ops []impl.Op) []any {
	t.Helper()
	list := []impl.Event{}
	m := impl.Machine{Width: width, Front: make([][]int64, width), Back: make([][]int64, width), Carriers: make([]impl.Carrier, 4)}
	for _, o := range ops {
		events, code := opEventsByHand(t, m, o)
		if code != impl.OK {
			return result([]impl.Event{}, code)
		}
		m, _ = stepByHand(m, o)
		list = append(list, events...)
		if len(list) > 2000 || len(liveByHand(m)) > 12 {
			return result([]impl.Event{}, impl.ErrFull)
		}
	}
	return result(list, impl.OK)
}

// hasTrace compares the trace of operations, given by their texts, with its texts.
func hasTrace(t *testing.T, width int64, ops, want string) {
	t.Helper()
	list, code := impl.TraceOf(width, opsOf(t, ops))
	is(t, "TraceOf "+ops, result(textsOf(list), code), result(want, impl.OK))
	is(t, "by hand", result(list, code), traceByHand(t, width, opsOf(t, ops)))
	is(t, "ValidEvents of a trace", impl.ValidEvents(list), true)
}

func TestTraces(t *testing.T) {
	hasTrace(t, 3, "", "")
	hasTrace(t, 3, "in > 1, miss > f1 1, out 1, rack 3, in < 2", "")
	hasTrace(t, 3, "in > 1, knit > f0 1, knit > f1 1, knit > f2 1", "knit 0 0 f+1, knit 1 0 f+1, knit 2 0 f+1")
	hasTrace(t, 3, "in < 2, knit < f2 2, knit < b1 2, tuck < f0 2, knit > f0 2, out 2", "knit 0 0 f-2, knit 0 0 b-2, tuck 0 f-2, knit 0 1 f+2")
	hasTrace(t, 3, "in > 1, knit > f0 1, tuck > f1 1, xfer f0 b0, rack 1, split < b0 f1 1, drop f1, rack 0, knit < b0 1", "knit 0 0 f+1, tuck 1 f+1, -0, split 2 1 b-1, drop 0 2, knit 0 1 b-1")
	hasTrace(t, 1, "in > 4, tuck > b0 4, rack -3, knit < f0 4, rack 3, drop f0, drop b0", "tuck 0 b+4, knit 1 0 f-4, -0, drop 0 1, drop 0 1")
}

func TestTraceThatFails(t *testing.T) {
	start := "in > 1, knit > f0 1, tuck < f0 1, xfer f0 b0"
	hasTrace(t, 2, start, "knit 0 0 f+1, tuck 1 f-1")
	for op, want := range map[string]int64{"in < 1": impl.ErrCarrier, "out 2": impl.ErrCarrier, "knit < f1 1": impl.ErrCarrier, "drop f0": impl.ErrEmpty, "xfer f0 b0": impl.ErrEmpty, "xfer b0 f1": impl.ErrRack, "split > b0 f1 1": impl.ErrRack} {
		for _, other := range []string{"", ", rack 1", ", out 3", ", drop f1", ", in < 1", ", xfer b0 f1"} {
			ops := opsOf(t, start+", "+op+other)
			is(t, "TraceOf "+op+other, result(impl.TraceOf(2, ops)), result([]impl.Event{}, want))
			is(t, "by hand", traceByHand(t, 2, ops), result([]impl.Event{}, want))
		}
	}
	stack := append(stackOps(onFront(0), 4), inOp(1, 1), tuckOp(1, onFront(0), 1), outOp(3))
	is(t, "a needle with too many loops", result(impl.TraceOf(2, stack)), result([]impl.Event{}, impl.ErrFull))
}

// ErrInvalid is found before all other errors.
func TestTraceOfInvalidOperations(t *testing.T) {
	for _, p := range notPrograms() {
		is(t, "TraceOf "+p.name, result(impl.TraceOf(p.width, p.ops)), result([]impl.Event{}, impl.ErrInvalid))
	}
	many := slices.Concat(strandOps(13), []impl.Op{outOp(1), rackOp(4)})
	is(t, "behind an error and too many strands", result(impl.TraceOf(5, many)), result([]impl.Event{}, impl.ErrInvalid))
	ops := slices.Repeat([]impl.Op{rackOp(1), rackOp(0)}, 750)
	is(t, "MaxOps operations", result(impl.TraceOf(2, ops)), result([]impl.Event{}, impl.OK))
	is(t, "one more", result(impl.TraceOf(2, append(ops, rackOp(1)))), result([]impl.Event{}, impl.ErrInvalid))
}

// strandOps makes so many strands, as many on each needle as there can be.
func strandOps(strands int) []impl.Op {
	var ops []impl.Op
	for i := 0; i < strands; i += 4 {
		ops = append(ops, stackOps(onFront(int64(i/4)), min(4, strands-i))...)
	}
	return ops
}

func TestTraceOfMaxStrandsStrands(t *testing.T) {
	list, code := impl.TraceOf(5, strandOps(12))
	is(t, "MaxStrands strands", result(code, result(impl.StrandsOf(list))), "[0 [12 0]]")
	full := append(strandOps(12), inOp(1, 1))
	for _, o := range []impl.Op{tuckOp(1, onFront(4), 1), knitOp(1, onFront(3), 1), knitOp(1, onBack(0), 1), splitOp(1, onFront(1), onBack(1), 1)} {
		for _, more := range [][]impl.Op{nil, {dropOp(onFront(0))}, {dropOp(onFront(0)), dropOp(onFront(2))}, {outOp(2)}, {dropOp(onBack(3))}} {
			ops := slices.Concat(full, []impl.Op{o}, more)
			is(t, fmt.Sprint("one more by ", o), result(impl.TraceOf(5, ops)), result([]impl.Event{}, impl.ErrFull))
			is(t, "by hand", traceByHand(t, 5, ops), result([]impl.Event{}, impl.ErrFull))
		}
		failing := slices.Concat(full, []impl.Op{outOp(2), o})
		is(t, "an error before", result(impl.TraceOf(5, failing)), result([]impl.Event{}, impl.ErrCarrier))
		o.Carrier = 3
		is(t, "an error of the same operation", result(impl.TraceOf(5, append(full, o))), result([]impl.Event{}, impl.ErrCarrier))
		o.Carrier = 1
		fewer := slices.Concat(full, []impl.Op{dropOp(onFront(2)), o})
		is(t, "fewer strands", result(impl.TraceOf(5, fewer)), traceByHand(t, 5, fewer))
	}
	list, code = impl.TraceOf(5, append(full, knitOp(1, onFront(0), 1)))
	is(t, "fewer by a stitch", result(code, result(impl.StrandsOf(list))), "[0 [9 0]]")
}

// crossingOps make 8 strands and so many groups of 16 crossings.
func crossingOps(groups int) []impl.Op {
	ops := append(stackOps(onFront(1), 4), stackOps(onBack(0), 4)...)
	for i := range groups {
		ops = append(ops, rackOp(int64(1-i%2)))
	}
	return append(ops, inOp(1, 1))
}

func TestTraceOfMaxEventsEvents(t *testing.T) {
	knits := slices.Repeat([]impl.Op{knitOp(1, onFront(2), 1), knitOp(-1, onFront(2), 1)}, 8)
	for _, c := range []struct {
		groups, knits int
		more          []impl.Op
		want          int64
		events        int
	}{
		{124, 7, nil, impl.OK, 1999}, {124, 8, nil, impl.OK, 2000}, {124, 9, nil, impl.ErrFull, 0}, {125, 0, nil, impl.ErrFull, 0}, {130, 0, nil, impl.ErrFull, 0}, {123, 16, nil, impl.OK, 1992},
		{124, 8, []impl.Op{dropOp(onFront(2))}, impl.ErrFull, 0}, {124, 8, []impl.Op{missOp(-1, onFront(0), 1), outOp(1), rackOp(0)}, impl.OK, 2000}, {124, 8, []impl.Op{rackOp(1)}, impl.ErrFull, 0}, {124, 7, []impl.Op{rackOp(1)}, impl.ErrFull, 0},
		{124, 8, []impl.Op{outOp(2)}, impl.ErrCarrier, 0}, {124, 8, []impl.Op{dropOp(onFront(0)), dropOp(onFront(2))}, impl.ErrEmpty, 0}, {124, 8, []impl.Op{dropOp(onFront(2)), dropOp(onFront(2))}, impl.ErrFull, 0}, {124, 9, []impl.Op{outOp(2)}, impl.ErrFull, 0}, {125, 0, []impl.Op{outOp(2)}, impl.ErrFull, 0},
	} {
		ops := slices.Concat(crossingOps(c.groups), knits[:c.knits], c.more)
		list, code := impl.TraceOf(4, ops)
		is(t, fmt.Sprint("events of ", c), result(len(list), code, impl.ValidEvents(list)), result(c.events, c.want, true))
		is(t, "by hand", fmt.Sprint(result(list, code)) == fmt.Sprint(traceByHand(t, 4, ops)), true)
	}
}

// Racking by several steps has crossings in later steps, too, when there are too many events already.
func TestTraceThatIsFullInTheMiddleOfRacking(t *testing.T) {
	start := append(stackOps(onBack(0), 4), stackOps(onFront(1), 3)...)
	start = append(append(start, stackOps(onFront(2), 2)...), stackOps(onFront(3), 2)...)
	for groups := range 3 {
		ops := slices.Concat(start, slices.Repeat([]impl.Op{rackOp(3), rackOp(0)}, 35+groups))
		list, code := impl.TraceOf(4, ops)
		want := []any{1971, impl.OK}
		if groups > 0 {
			want = []any{0, impl.ErrFull}
		}
		is(t, "racking by three steps", result(len(list), code), want)
		is(t, "by hand", fmt.Sprint(result(list, code)) == fmt.Sprint(traceByHand(t, 4, ops)), true)
	}
}

// P11: a trace consists of the events of its operations, one operation after the other.
func TestTraceConsistsOfEventsOfOperations(t *testing.T) {
	traced, stopped := 0, 0
	for _, width := range []int64{1, 2, 4, 8, 24} {
		for seed := range 30 {
			d := dice(seed)
			ops := d.tracedOps(t, width, 150)
			if seed%5 == 0 {
				ops = append(ops, d.executableOps(t, width, 200)...)
			}
			list, code := impl.TraceOf(width, ops)
			is(t, "by hand", result(list, code), traceByHand(t, width, ops))
			if code != impl.OK {
				stopped++
				continue
			}
			traced += len(list)
			m, want := newMachine(t, width), []impl.Event{}
			for _, o := range ops {
				events, _ := impl.OpEvents(m, o)
				want, m = append(want, events...), stepOf(t, m, o)
			}
			is(t, "trace", list, want)
			is(t, "valid", result(impl.ValidEvents(list), result(impl.StrandsOf(list))), result(true, result(len(liveByHand(m)), impl.OK)))
			takesParents(t, list, m)
		}
	}
	is(t, "many events, and some traces that are not complete", result(traced > 5000, stopped > 10), "[true true]")
}

// P11: the stitches of a trace take the strands that are the parents of the new loops.
func takesParents(t *testing.T, list []impl.Event, m impl.Machine) {
	t.Helper()
	strands, dropped, loop := []int64{}, []int64{}, int64(0)
	for _, e := range list {
		after, taken := playedByHand(strands, e, loop)
		strands = after
		switch e.Kind {
		case impl.EvDrop:
			dropped = append(dropped, taken...)
		case impl.EvKnit, impl.EvTuck, impl.EvSplit:
			kind := map[int64]int64{impl.EvKnit: impl.OpKnit, impl.EvTuck: impl.OpTuck, impl.EvSplit: impl.OpSplit}[e.Kind]
			made := m.Loops[loop]
			is(t, "loop", result(kind, e.Bed, e.Carrier, e.Dir, taken), result(made.Kind, made.Bed, made.Carrier, made.Dir, made.Parents))
			loop++
		}
	}
	slices.Sort(dropped)
	is(t, "strands and loops", result(strands, dropped, loop), result(liveByHand(m), m.Dropped, len(m.Loops)))
}

// A trace is independent of needles.
func TestTracesOfShiftedPrograms(t *testing.T) {
	for seed := range 40 {
		d := dice(seed)
		ops := d.tracedOps(t, 6, 120)
		list, code := impl.TraceOf(6, ops)
		for by := range int64(5) {
			shifted, shiftCode := impl.ShiftProgram(6+by, ops, by)
			is(t, "shifted", result(shiftCode, result(impl.TraceOf(6+by, shifted))), result(impl.OK, result(list, code)))
		}
	}
}

func TestStitchesOf(t *testing.T) {
	is(t, "none", result(impl.StitchesOf(nil), impl.StitchesOf([]impl.Event{cross(0, 1), cross(-5, 7)})), "[[] []]")
	others := []impl.Event{{}, {Kind: 6}, {Kind: -1, Place: 3}, knit(-1, 9), tuck(5), drop(0, 0), split(7, 0, 1), {Kind: math.MaxInt64}, {Kind: math.MinInt64}, tuck(5), tuck(5)}
	is(t, "others", impl.StitchesOf(others), others)
	is(t, "mixed", impl.StitchesOf([]impl.Event{cross(0, 1), tuck(0), cross(0, -1), {Kind: 1, Bed: 7}, {}, cross(1, 1), cross(1, 1), drop(0, 1), cross(3, 0)}), []impl.Event{tuck(0), {}, drop(0, 1)})
	long := slices.Repeat([]impl.Event{cross(0, 1), {Kind: 9}}, 4000)
	is(t, "more than MaxEvents", len(impl.StitchesOf(long)), 4000)
	for seed := range 20 {
		d := dice(seed)
		list := d.events(100)
		want := slices.DeleteFunc(slices.Clone(list), func(e impl.Event) bool { return e.Kind == 1 })
		is(t, "StitchesOf", impl.StitchesOf(list), want)
	}
}

func TestCrossingBraid(t *testing.T) {
	for strands := range int64(13) {
		is(t, "no events", result(impl.CrossingBraid(strands, nil)), result(braid(strands), impl.OK))
		list, letters := []impl.Event{}, []int64{}
		for place := range strands - 1 {
			list = append(list, cross(place, 1), cross(place, -1), cross(place, -1))
			letters = append(letters, place+1, -place-1, -place-1)
		}
		is(t, "all letters", result(impl.CrossingBraid(strands, list)), result(braid(strands, letters...), impl.OK))
	}
	forty := slices.Repeat([]impl.Event{cross(2, -1)}, 40)
	is(t, "MaxWord letters", result(impl.CrossingBraid(4, forty)), result(repeated(4, -3, 40), impl.OK))
	is(t, "one more", result(impl.CrossingBraid(4, append(forty, cross(0, 1)))), result(impl.Braid{}, impl.ErrFull))
	is(t, "many more", result(impl.CrossingBraid(12, slices.Repeat(forty, 100))), result(impl.Braid{}, impl.ErrFull))
}

// notCrossings are events that are no crossings of 4 strands.
func notCrossings() []impl.Event {
	list := []impl.Event{{}, cross(3, 1), cross(3, -1), cross(-1, 1), cross(0, 0), cross(0, 2), cross(0, -2), cross(math.MaxInt64, 1), cross(math.MinInt64, 1), cross(0, math.MinInt64), tuck(0), knit(0, 1), knit(0, 0), drop(0, 1), split(1, 0, 1), {Kind: 6, Count: 1}, {Kind: -1, Count: 1}}
	for _, e := range []impl.Event{{Bed: 1}, {Bed: 2}, {Carrier: 1}, {Dir: 1}, {Dir: -1}} {
		e.Kind, e.Place, e.Count = 1, 1, 1
		list = append(list, e)
	}
	return list
}

// Of several errors, ErrRange comes first, then ErrInvalid, then ErrFull.
func TestErrorsOfCrossingBraid(t *testing.T) {
	one, many := []impl.Event{cross(0, 1)}, slices.Repeat([]impl.Event{cross(0, 1)}, 41)
	none := func(code int) []any { return result(impl.Braid{}, code) }
	for _, strands := range []int64{math.MinInt64, -1, 13, math.MaxInt64} {
		for _, list := range [][]impl.Event{nil, one, many, notCrossings(), {{}}, append(many, impl.Event{})} {
			is(t, fmt.Sprint("strands ", strands), result(impl.CrossingBraid(strands, list)), none(impl.ErrRange))
		}
	}
	for _, strands := range []int64{0, 1} {
		is(t, "no strands to cross", result(impl.CrossingBraid(strands, one)), none(impl.ErrInvalid))
		is(t, "no strands to cross", result(impl.CrossingBraid(strands, many)), none(impl.ErrInvalid))
	}
	for _, e := range notCrossings() {
		for _, list := range [][]impl.Event{{e}, {e, one[0]}, {one[0], e}, append(slices.Clone(many), e), append([]impl.Event{e}, many...), append(many[:40:40], e)} {
			is(t, fmt.Sprint("an event like ", e), result(impl.CrossingBraid(4, list)), none(impl.ErrInvalid))
		}
	}
	for strands := int64(2); strands <= 12; strands++ {
		is(t, "the last place", result(impl.CrossingBraid(strands, []impl.Event{cross(strands-2, -1)})), result(braid(strands, 1-strands), impl.OK))
		is(t, "one place more", result(impl.CrossingBraid(strands, []impl.Event{cross(strands-1, -1)})), none(impl.ErrInvalid))
	}
}

func TestBraidEvents(t *testing.T) {
	is(t, "letters", impl.BraidEvents(braid(4, 1, -2, 3, -1)), []impl.Event{cross(0, 1), cross(1, -1), cross(2, 1), cross(0, -1)})
	is(t, "the greatest letters", impl.BraidEvents(braid(12, 11, -11)), []impl.Event{cross(10, 1), cross(10, -1)})
	for strands := range int64(13) {
		is(t, "no letters", impl.BraidEvents(braid(strands)), []impl.Event{})
	}
	is(t, "MaxWord letters", impl.BraidEvents(repeated(3, -2, 40)), slices.Repeat([]impl.Event{cross(1, -1)}, 40))
	for _, b := range notBraids() {
		is(t, fmt.Sprint("BraidEvents of ", b), impl.BraidEvents(b) == nil, true)
	}
}

// P11: braids are restored from their crossings, which are valid events.
func TestBraidsAreRestoredFromCrossings(t *testing.T) {
	for _, b := range someBraids() {
		list := impl.BraidEvents(b)
		is(t, "BraidEvents", len(list), len(b.Word))
		is(t, "CrossingBraid", result(impl.CrossingBraid(b.Strands, list)), result(b, impl.OK))
		areEvents(t, append(tucks(b.Strands), list...), int(b.Strands))
		strands := rising(int(b.Strands))
		for _, e := range list {
			strands, _ = playedByHand(strands, e, 0)
		}
		places := impl.BraidPermutation(b)
		for i, strand := range strands {
			is(t, "place of a strand", places[strand], i)
		}
	}
}

// eventsByText returns all events that have a text.
var eventsByText = sync.OnceValue(func() map[string]impl.Event {
	events := map[string]impl.Event{}
	for _, e := range eventsFor(12) {
		events[eventTextByHand(e)] = e
	}
	return events
})

// All events that are valid for MaxStrands strands are read back.
func TestAllEventsAreReadBack(t *testing.T) {
	list := eventsFor(12)
	is(t, "numbers of events and texts", result(len(list), len(eventsByText())), "[1824 1824]")
	for _, e := range list {
		text := eventTextByHand(e)
		back, ok := impl.ReadEvent(text)
		if impl.EventText(e) != text || back != e || !ok {
			t.Errorf("%v: got %q, want %q, which is read as %v %v", e, impl.EventText(e), text, back, ok)
		}
	}
}

func TestExamplesOfEvents(t *testing.T) {
	for text, e := range map[string]impl.Event{
		"knit 2 1 f+1": {Kind: impl.EvKnit, Place: 2, Count: 1, Bed: 1, Carrier: 1, Dir: 1}, "knit 12 0 b-4": {Kind: impl.EvKnit, Place: 12, Bed: 2, Carrier: 4, Dir: -1},
		"cross 0 -1": cross(0, -1), "cross 10 1": cross(10, 1), "tuck 12 b-4": {Kind: impl.EvTuck, Place: 12, Bed: 2, Carrier: 4, Dir: -1}, "tuck 0 f+2": {Kind: impl.EvTuck, Bed: 1, Carrier: 2, Dir: 1},
		"drop 0 4": drop(0, 4), "drop 11 1": drop(11, 1), "split 8 4 f+1": split(1, 8, 4), "split 12 4 b+1": split(2, 12, 4), "split 0 1 f-3": {Kind: impl.EvSplit, Count: 1, Bed: 1, Carrier: 3, Dir: -1},
	} {
		is(t, text, impl.EventText(e), text)
		is(t, text, result(impl.ReadEvent(text)), result(e, true))
	}
}

// Events that are not valid for MaxStrands strands, and all that differ in one field from others, if they are not valid.
func TestTextsOfInvalidEvents(t *testing.T) {
	for _, e := range []impl.Event{{}, cross(11, 1), cross(-1, 1), cross(0, 0), cross(0, 2), knit(13, 0), knit(12, 1), knit(9, 4), knit(0, 5), knit(0, -1), tuck(13), tuck(-1), drop(0, 0), drop(9, 4), drop(12, 1), drop(0, 5), split(1, 9, 4), split(2, 3, 4), split(2, 13, 1), split(1, 0, 0), split(2, 0, 0), split(0, 0, 1), split(3, 4, 1), {Kind: 6}, {Kind: -1}} {
		is(t, fmt.Sprint("EventText of ", e), impl.EventText(e), "")
	}
	for _, e := range eventsFor(12) {
		for _, other := range changedEvents(e) {
			want := eventTextByHand(other)
			if eventsByText()[want] != other {
				want = ""
			}
			if got := impl.EventText(other); got != want {
				t.Errorf("EventText of %v: got %q, want %q", other, got, want)
			}
		}
	}
}

// isEventLikeByHand compares what is read from a text with the event that has this text.
func isEventLikeByHand(t *testing.T, text string) {
	t.Helper()
	want, wantOK := eventsByText()[text]
	if e, ok := impl.ReadEvent(text); e != want || ok != wantOK {
		t.Errorf("ReadEvent of %q: got %v %v, want %v %v", text, e, ok, want, wantOK)
	}
}

func TestTextsOfNoEvents(t *testing.T) {
	for _, text := range []string{
		"", " ", "\n", "knit", "knit 2", "knit 2 1", "knit 2 1 f", "knit 2 1 f+", "knit 2 1 +1", "knit 2 1 f1", "knit 2 1 f+1 1", "knit 2 1 f+1 f+1", "knit 2 f+1", "knit f+1 2 1", "2 1 f+1", "knit 2 1 1", "knit 2 1 f +1", "knit 2 1 f+ 1", "knit 2 1 f + 1", "knit2 1 f+1", "knit 21 f+1",
		" knit 2 1 f+1", "knit 2 1 f+1 ", "knit  2 1 f+1", "knit 2  1 f+1", "knit 2 1  f+1", "knit\t2 1 f+1", "knit 2 1 f+1\n", "knit 2 1 f+1\r", "knit\u00a02 1 f+1", "\tknit 2 1 f+1",
		"knit +2 1 f+1", "knit -2 1 f+1", "knit 02 1 f+1", "knit 2 01 f+1", "knit 2 +1 f+1", "knit 2 -1 f+1", "knit 2 -0 f+1", "knit -0 1 f+1", "knit 2 1 f+01", "knit 2 1 f++1", "knit 2 1 f+-1", "knit 2 1 f-+1", "knit 2.0 1 f+1", "knit x 1 f+1", "knit 1000000000 1 f+1", "knit 2 1000000000 f+1", "knit 2 1 f+1000000000",
		"knit 2 1 F+1", "knit 2 1 c+1", "knit 2 1 0+1", "knit 2 1 ff+1", "knit 2 1 f>1", "knit 2 1 f<1", "knit 2 1 f=1", "knit 2 1 f*1", "knit 2 1 f\x001", "knit 2 1 f\xff1", "knit 2 1 f＋1", "knit 2 1 f+0", "knit 2 1 f+5", "knit 2 1 f+x", "knit 2 1 f+1x", "knit 2 1 +f1", "knit 2 1 1+f", "knit 2 1 f+10",
		"knit 13 0 f+1", "knit 12 1 f+1", "knit 9 4 f+1", "knit 2 5 f+1", "Knit 2 1 f+1", "KNIT 2 1 f+1", "knits 2 1 f+1", "kni 2 1 f+1", "purl 2 1 f+1", "1 2 1 f+1", "2 2 1 f+1",
		"cross", "cross 0", "cross 1", "cross 0 0", "cross 0 2", "cross 0 -2", "cross 0 +1", "cross 0 01", "cross 0 --1", "cross 0 - 1", "cross 11 1", "cross -1 1", "cross 00 1", "cross 0 1 f+1", "cross 0 1 1", "cross 0 1 ", "cross  0 1", "cross 0  -1", "cross 0 + ", "cross 0 -",
		"tuck", "tuck 0", "tuck f+1", "tuck 0 0 f+1", "tuck 0 1 f+1", "tuck 13 f+1", "tuck -1 f+1", "tuck 00 f+1", "tuck 0 f+1 ", "tuck 0  f+1", "tuck 0 f+1 1", "tuck 0 f1", "tuck 0 f+0", "tuck 0 f+5", "tuck 0 f", "tuck 0 f+",
		"drop", "drop 0", "drop 0 0", "drop 0 5", "drop 0 -1", "drop 9 4", "drop 12 1", "drop -1 1", "drop 0 1 f+1", "drop 0 1 1", "drop 0 1 ", "drop  0 1", "drop 00 1", "drop 0 01", "drop 0 +1",
		"split", "split 0 1", "split 0 f+1", "split 0 0 f+1", "split 0 5 f+1", "split 9 4 f+1", "split 12 1 f+1", "split 0 1 b+1", "split 3 4 b+1", "split 13 1 b+1", "split 0 0 b+1", "split -1 1 f+1", "split 4 1 b1", "split 4 1 b+1 1", "split 4 1  b+1", "split 4 1 b+1 ", "split 4 01 b+1", "split 4 1 f+1 b+1",
	} {
		is(t, fmt.Sprintf("ReadEvent of %q", text), result(impl.ReadEvent(text)), result(impl.Event{}, false))
		isEventLikeByHand(t, text)
	}
	long := strings.Repeat("knit 2 1 f+1 ", 10000)
	is(t, "a long text", result(impl.ReadEvent(long)), result(impl.Event{}, false))
}

// A text that differs a little is read only if it is the text of another event.
func TestEventTextsThatDifferALittle(t *testing.T) {
	for i, e := range eventsFor(12) {
		if i%31 == 0 || e.Kind == impl.EvCross {
			for _, text := range changedTexts(eventTextByHand(e)) {
				isEventLikeByHand(t, text)
			}
		}
	}
	for _, text := range []string{"cross 0 -1", "cross 10 1", "knit 12 0 f+1", "knit 2 1 b-4", "tuck 0 f+1", "tuck 12 b-2", "drop 8 4", "split 4 4 b-1", "split 8 4 f+3"} {
		for _, changed := range changedTexts(text) {
			isEventLikeByHand(t, changed)
		}
	}
}

// Each field of each kind is read from words of all other fields, too.
func TestEventsOfOtherWords(t *testing.T) {
	words := []string{"", "0", "1", "-1", "4", "12", "f+1", "b-4", "f", "+1", "tuck"}
	for _, first := range strings.Fields("cross knit tuck drop split miss xfer") {
		for _, a := range words {
			for _, b := range words {
				for _, c := range words {
					for _, d := range words {
						isEventLikeByHand(t, strings.TrimRight(strings.Join([]string{first, a, b, c, d}, " "), " "))
					}
				}
			}
		}
	}
}
