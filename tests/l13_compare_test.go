package tests

import (
	"fmt"
	"math"
	"slices"
	"strconv"
	"strings"
	"testing"

	"loop.example/g00856/impl"
)

// eventsOf reads events as textsOf writes them.
func eventsOf(t *testing.T, text string) []impl.Event {
	t.Helper()
	list := []impl.Event{}
	for _, part := range strings.Split(text, ", ") {
		if part == "" {
			continue
		}
		e, ok := eventsByText()[part]
		if count := map[byte]int64{'+': 1, '-': -1}[part[0]]; count != 0 {
			place, err := strconv.Atoi(part[1:])
			e, ok = cross(int64(place), count), err == nil
		}
		if !ok {
			t.Fatalf("%q is no event", part)
		}
		list = append(list, e)
	}
	return list
}

// knotted are events that begin with so many strands.
func knotted(t *testing.T, strands int64, text string) []impl.Event {
	t.Helper()
	return append(tucks(strands), eventsOf(t, text)...)
}

func block(b impl.Braid, stitches ...impl.Event) impl.Block {
	return impl.Block{Braid: b, Stitches: stitches}
}

func crossings(letters ...int64) []impl.Event {
	list := []impl.Event{}
	for _, letter := range letters {
		if letter > 0 {
			list = append(list, cross(letter-1, 1))
		} else {
			list = append(list, cross(-letter-1, -1))
		}
	}
	return list
}

func braidTextByHand(b impl.Braid) string {
	text := fmt.Sprintf("%d:", b.Strands)
	for _, letter := range b.Word {
		text += fmt.Sprintf(" %d", letter)
	}
	return text
}

// blocksText is the text of all blocks: of each its braid, and behind a slash its stitches.
func blocksText(list []impl.Block) string {
	var texts []string
	for _, b := range list {
		texts = append(texts, strings.TrimSpace(braidTextByHand(b.Braid)+" / "+textsOf(b.Stitches)))
	}
	return strings.Join(texts, " | ")
}

func isTrivialByHand(b impl.Braid) bool {
	return fmt.Sprint(actionByHand(b)) == fmt.Sprint(actionByHand(braid(b.Strands)))
}

// blocksByHand divides valid events. Words between stitches have to be short, since their actions grow.
func blocksByHand(list []impl.Event) []impl.Block {
	blocks := []impl.Block{{}}
	var strands, word []int64
	endBraid := func() {
		b := braid(int64(len(strands)), cancelledByHand(word)...)
		if word = nil; !isTrivialByHand(b) {
			blocks = append(blocks, impl.Block{Braid: b})
		}
	}
	for _, e := range list {
		if e.Kind == 1 {
			word = append(word, e.Count*(e.Place+1))
		} else {
			endBraid()
			last := &blocks[len(blocks)-1]
			last.Stitches = append(last.Stitches, e)
		}
		strands, _ = playedByHand(strands, e, 0)
	}
	endBraid()
	return blocks
}

func eventsOfBlocksByHand(list []impl.Block) []impl.Event {
	events := []impl.Event{}
	for _, b := range list {
		events = slices.Concat(events, crossings(b.Braid.Word...), b.Stitches)
	}
	return events
}

// differenceByHand returns the first block that is not the same, and -1 if there is none.
func differenceByHand(a, b []impl.Event) int {
	first, second := blocksByHand(a), blocksByHand(b)
	for k := range max(len(first), len(second)) {
		if k >= len(first) || k >= len(second) || fmt.Sprint(first[k].Stitches) != fmt.Sprint(second[k].Stitches) ||
			first[k].Braid.Strands != second[k].Braid.Strands || fmt.Sprint(actionByHand(first[k].Braid)) != fmt.Sprint(actionByHand(second[k].Braid)) {
			return k
		}
	}
	return -1
}

// differAt compares what SameFabric and FirstDifference return, in both orders of the lists. If the fabrics are the same, want is -1.
func differAt(t *testing.T, a, b []impl.Event, want int) {
	t.Helper()
	same, first := result(false, impl.OK), result(want, impl.OK)
	if want < 0 {
		same, first = result(true, impl.OK), result(0, impl.ErrNotFound)
	}
	name := "fabrics " + textsOf(a) + " and " + textsOf(b)
	is(t, name, result(result(impl.SameFabric(a, b)), result(impl.FirstDifference(a, b))), result(same, first))
	is(t, name+", exchanged", result(result(impl.SameFabric(b, a)), result(impl.FirstDifference(b, a))), result(same, first))
}

func TestCompareConstants(t *testing.T) {
	is(t, "limit", impl.MaxBlocks, 60)
}

func TestExampleOfFabrics(t *testing.T) {
	there := []impl.Event{tuck(0), tuck(1), {Kind: impl.EvCross, Place: 0, Count: 1}, {Kind: impl.EvCross, Place: 0, Count: -1}}
	differAt(t, there, tucks(2)[:0:0], 0)
	differAt(t, there, there[:2], -1)
	differAt(t, append(there, knit(0, 2)), append(there[:2:2], knit(0, 2)), -1)
}

// dividesInto compares the blocks of events that begin with so many strands; those at the beginning are not in the text.
func dividesInto(t *testing.T, strands int64, events, want string) {
	t.Helper()
	list := knotted(t, strands, events)
	blocks, code := impl.BlocksOf(list)
	is(t, "code of "+events, code, impl.OK)
	is(t, "by hand: "+events, blocks, blocksByHand(list))
	is(t, "events of blocks "+events, result(impl.EventsOfBlocks(blocks)), result(eventsOfBlocksByHand(blocks), impl.OK))
	is(t, "strands at the beginning", blocks[0].Stitches[:strands], tucks(strands))
	blocks[0].Stitches = blocks[0].Stitches[strands:]
	is(t, "BlocksOf "+events, blocksText(blocks), want)
}

func TestBlocks(t *testing.T) {
	for _, c := range []struct {
		strands      int64
		events, want string
	}{
		{0, "", "0: /"}, {3, "", "0: /"},
		{2, "knit 0 2 f+1", "0: / knit 0 2 f+1"}, {0, "knit 0 0 f+1, split 0 1 f-2, tuck 2 b+1, drop 0 2", "0: / knit 0 0 f+1, split 0 1 f-2, tuck 2 b+1, drop 0 2"},
		{2, "+0", "0: / | 2: 1 /"}, {12, "-10", "0: / | 12: -11 /"}, {2, "+0, +0, +0", "0: / | 2: 1 1 1 /"},
		{3, "-0, +1, knit 1 1 b-2", "0: / | 3: -1 2 / knit 1 1 b-2"}, {3, "tuck 0 f+4, -0, +1", "0: / tuck 0 f+4 | 4: -1 2 /"},
		{3, "+0, -1, tuck 3 f+1, +2, drop 0 1, -1, +0", "0: / | 3: 1 -2 / tuck 3 f+1 | 4: 3 / drop 0 1 | 3: -2 1 /"},
		{4, "knit 0 2 f+1, tuck 1 f+1, -2, +1, -0, split 2 1 b+1, knit 4 1 f-1, +3, +3, +3, drop 1 4", "0: / knit 0 2 f+1, tuck 1 f+1 | 4: -3 2 -1 / split 2 1 b+1, knit 4 1 f-1 | 5: 4 4 4 / drop 1 4"},
		{2, "+0, drop 0 2, tuck 0 f+1, tuck 0 f+1, +0", "0: / | 2: 1 / drop 0 2, tuck 0 f+1, tuck 0 f+1 | 2: 1 /"},
		{2, "+0, knit 0 2 f+1, knit 0 0 f+1, -0", "0: / | 2: 1 / knit 0 2 f+1, knit 0 0 f+1 | 2: -1 /"},
		{3, "+0, +1, +0, tuck 0 f+1, +1, +2, +1", "0: / | 3: 1 2 1 / tuck 0 f+1 | 4: 2 3 2 /"}, {3, "+1, +0, +1", "0: / | 3: 2 1 2 /"},
		{6, "+2, +1, +0, +3, +2, +1, +4, +3, +2", "0: / | 6: 3 2 1 4 3 2 5 4 3 /"}, {5, "-2, -1, -3, -2", "0: / | 5: -3 -2 -4 -3 /"},
	} {
		dividesInto(t, c.strands, c.events, c.want)
	}
}

// Crossings that cancel vanish, and what belongs to different sides of a stitch does not cancel.
func TestBlocksOfCrossingsThatCancel(t *testing.T) {
	for _, c := range []struct {
		strands      int64
		events, want string
	}{
		{2, "+0, -0", "0: /"}, {2, "-0, +0, knit 0 2 f+1", "0: / knit 0 2 f+1"}, {2, "tuck 0 f+2, +1, -1, tuck 0 f+3", "0: / tuck 0 f+2, tuck 0 f+3"},
		{3, "+0, +1, -1, -0, drop 0 3", "0: / drop 0 3"}, {3, "+0, -0, -1, +1, +1, -1, drop 0 3", "0: / drop 0 3"},
		{2, "+0, -0, +0", "0: / | 2: 1 /"}, {2, "+0, -0, -0", "0: / | 2: -1 /"}, {3, "+0, +1, -1, +0, tuck 1 f+1", "0: / | 3: 1 1 / tuck 1 f+1"}, {3, "-1, +0, -0, +1, +0", "0: / | 3: 1 /"},
		{2, "+0, knit 1 1 f+1, -0", "0: / | 2: 1 / knit 1 1 f+1 | 2: -1 /"}, {2, "+0, -0, knit 1 1 f+1, +0, -0, knit 0 1 f+1, -0, +0", "0: / knit 1 1 f+1, knit 0 1 f+1"},
		{3, "+1, tuck 0 f+1, -1, +1, tuck 4 f+1, +3, -3, +3", "0: / | 3: 2 / tuck 0 f+1, tuck 4 f+1 | 5: 4 /"},
	} {
		dividesInto(t, c.strands, c.events, c.want)
	}
}

// trivialBraids are trivial, and no neighbours in them cancel.
func trivialBraids() []impl.Braid {
	return []impl.Braid{
		braid(4, 1, 3, -1, -3), braid(4, -1, 3, 1, -3), braid(12, 11, -1, -11, 1), braid(5, 1, 2, 4, -2, -1, -4),
		braid(3, 1, 2, 1, -2, -1, -2), braid(3, -2, -1, -2, 1, 2, 1), braid(3, 1, 2, -1, -2, -1, 2), braid(3, 1, -2, -1, -2, 1, 2), braid(12, 11, 10, 11, -10, -11, -10),
		braid(3, 1, 2, 1, 1, 2, 1, 2, -1, -2, -1, -1, -2, -1, -2), braid(3, 1, 2, 1, 1, -2, -1, -2, -2), braid(4, 1, 2, 3, 1, -3, -2, -1, -2),
	}
}

// nearlyTrivialBraids bring each strand back to its place, have as many positive as negative letters, and are not trivial.
func nearlyTrivialBraids() []impl.Braid {
	return []impl.Braid{braid(3, 1, 1, -2, -2), braid(3, 1, -2, 1, -2, 1, -2), braid(3, 1, 1, 2, 2, -1, -1, -2, -2), braid(4, 1, 1, -3, -3), braid(4, 2, 1, 1, -2, -1, -1), braid(12, 11, 11, -1, -1)}
}

func TestTrivialBraidsByHand(t *testing.T) {
	for i, b := range slices.Concat(trivialBraids(), nearlyTrivialBraids()) {
		trivial := i < len(trivialBraids())
		is(t, fmt.Sprint("trivial by hand: ", b), result(isTrivialByHand(b), impl.IsTrivial(b), impl.BraidPermutation(b)), result(trivial, trivial, rising(int(b.Strands))))
		is(t, fmt.Sprint("reduced: ", b), result(cancelledByHand(b.Word), impl.ExponentSum(b)), result(b.Word, 0))
	}
}

// Trivial braids are left out, though their words are not empty; the stitches behind them belong to the block before.
func TestBlocksOfTrivialBraids(t *testing.T) {
	for _, b := range trivialBraids() {
		trivial, start := textsOf(crossings(b.Word...)), "0: /"
		more, strands := strconv.Itoa(int(b.Strands)+1), strconv.Itoa(int(b.Strands))
		dividesInto(t, b.Strands, trivial, start)
		dividesInto(t, b.Strands, trivial+", knit 0 1 f+1", start+" knit 0 1 f+1")
		dividesInto(t, b.Strands, "knit 1 1 b+1, "+trivial, start+" knit 1 1 b+1")
		dividesInto(t, b.Strands, "knit 1 1 b+1, "+trivial+", knit 0 2 f+1", start+" knit 1 1 b+1, knit 0 2 f+1")
		dividesInto(t, b.Strands, trivial+", knit 0 1 f+1, "+trivial+", knit 1 1 f+2, "+trivial, start+" knit 0 1 f+1, knit 1 1 f+2")
		dividesInto(t, b.Strands, "-1, knit 1 1 b+1, "+trivial+", knit 0 2 f+1", start+" | "+strands+": -2 / knit 1 1 b+1, knit 0 2 f+1")
		dividesInto(t, b.Strands, "-1, drop 0 1, tuck 0 f+1, "+trivial+", drop 0 1, +0, drop 0 1", start+" | "+strands+": -2 / drop 0 1, tuck 0 f+1, drop 0 1 | "+strconv.Itoa(int(b.Strands)-1)+": 1 / drop 0 1")
		dividesInto(t, b.Strands, trivial+", knit 0 1 f+1, -1", start+" knit 0 1 f+1 | "+strands+": -2 /")
		if b.Strands < 12 {
			dividesInto(t, b.Strands, "tuck 0 f+1, +0, tuck 1 f+2, drop 0 1, "+trivial+", tuck 0 f+3", start+" tuck 0 f+1 | "+more+": 1 / tuck 1 f+2, drop 0 1, tuck 0 f+3")
		}
	}
}

// A braid that is not trivial keeps all letters of its reduced word, also a part that is trivial.
func TestBlocksOfBraidsWithTrivialParts(t *testing.T) {
	for _, b := range nearlyTrivialBraids() {
		dividesInto(t, b.Strands, textsOf(crossings(b.Word...))+", knit 0 1 f+1", "0: / | "+braidTextByHand(b)+" / knit 0 1 f+1")
		dividesInto(t, b.Strands, "knit 1 1 f+1, "+textsOf(crossings(b.Word...)), "0: / knit 1 1 f+1 | "+braidTextByHand(b)+" /")
	}
	dividesInto(t, 3, "+0, +1, +0, -1, -0, -1, -1", "0: / | 3: 1 2 1 -2 -1 -2 -2 /")
	dividesInto(t, 4, "+2, +0, +2, -0, -2, knit 0 1 f+1", "0: / | 4: 3 1 3 -1 -3 / knit 0 1 f+1")
	dividesInto(t, 3, "+0, +1, +0, -1, -0, -1, +1, +1", "0: / | 3: 1 2 1 -2 -1 2 /")
}

// notEventLists are lists of events that are not valid.
func notEventLists() [][]impl.Event {
	return [][]impl.Event{
		{{}}, {cross(0, 1)}, {cross(0, 1), cross(0, -1)}, {tuck(0), cross(0, 1)}, append(tucks(2), cross(1, 1)), append(tucks(2), cross(0, 2)), append(tucks(2), cross(0, 0)), append(tucks(2), cross(-1, 1)),
		{knit(0, 1)}, {tuck(1)}, {drop(0, 1)}, {split(1, 0, 1)}, {tuck(0), drop(0, 2)}, append(tucks(3), knit(0, 2), cross(1, 1)), append(tucks(3), drop(0, 2), cross(0, 1)), append(tucks(2), cross(0, 1), impl.Event{Kind: 6}),
		tucks(13), append(tucks(13), drop(0, 4)), slices.Repeat([]impl.Event{tuck(0), drop(0, 1)}, 1001), append(tucks(2), slices.Repeat([]impl.Event{cross(0, 1), cross(0, -1)}, 1000)...),
		append(tucks(2), impl.Event{Kind: 1, Count: 1, Bed: 1}), append(tucks(2), cross(0, 1), cross(0, math.MinInt64)),
	}
}

// failWith compares what all functions of one list of events return that has no blocks, and those that compare it with others.
func failWith(t *testing.T, name string, list []impl.Event, code int64) {
	t.Helper()
	is(t, "BlocksOf "+name, result(impl.BlocksOf(list)), result([]impl.Block{}, code))
	is(t, "ReduceEvents "+name, result(impl.ReduceEvents(list)), result([]impl.Event{}, code))
	is(t, "FabricText "+name, result(impl.FabricText(list)), result("", code))
	for _, other := range [][]impl.Event{nil, tucks(2), append(tucks(2), cross(0, 1)), list} {
		is(t, "SameFabric "+name, result(result(impl.SameFabric(list, other)), result(impl.SameFabric(other, list))), result(result(false, code), result(false, code)))
		is(t, "FirstDifference "+name, result(result(impl.FirstDifference(list, other)), result(impl.FirstDifference(other, list))), result(result(0, code), result(0, code)))
	}
}

func TestFabricsOfInvalidEvents(t *testing.T) {
	for _, list := range notEventLists() {
		name := fmt.Sprintf("%.200v", list)
		failWith(t, name, list, impl.ErrInvalid)
		is(t, "MirrorEvents "+name, result(impl.MirrorEvents(list)), result([]impl.Event{}, impl.ErrInvalid))
	}
}

// hasWord checks that events begin a block with a reduced word, also if they are behind and in front of stitches.
func hasWord(t *testing.T, strands int64, letters, reduced []int64) {
	t.Helper()
	list := append(tucks(strands), crossings(letters...)...)
	for _, more := range [][]impl.Event{nil, {knit(0, 1)}, {drop(0, 1), knit(0, 1)}} {
		blocks, code := impl.BlocksOf(slices.Concat(list, more))
		is(t, fmt.Sprint("word of ", len(letters), " letters"), result(blocks, code), result([]impl.Block{block(braid(0), tucks(strands)...), block(braid(strands, reduced...), more...)}, impl.OK))
	}
}

func TestBlocksOfMaxWordLetters(t *testing.T) {
	hasWord(t, 3, copiesOf(-2, 40), copiesOf(-2, 40))
	hasWord(t, 12, slices.Repeat([]int64{1, -11, 5, 6}, 10), slices.Repeat([]int64{1, -11, 5, 6}, 10))
	pairs := slices.Repeat([]int64{2, -2}, 900)
	hasWord(t, 3, slices.Concat(copiesOf(1, 40), pairs), copiesOf(1, 40))
	hasWord(t, 3, slices.Concat(copiesOf(1, 20), pairs, copiesOf(1, 20)), copiesOf(1, 40))
	hasWord(t, 3, slices.Concat(copiesOf(1, 1000), copiesOf(-1, 960)), copiesOf(1, 40))
	hasWord(t, 3, slices.Concat(copiesOf(1, 41), copiesOf(-1, 2)), copiesOf(1, 39))
	for _, letters := range [][]int64{copiesOf(-2, 41), slices.Concat(copiesOf(1, 41), pairs), slices.Concat(pairs, copiesOf(1, 20), pairs[:50], copiesOf(1, 21)), copiesOf(1, 1990), slices.Concat(copiesOf(1, 21), copiesOf(-2, 20)), slices.Repeat([]int64{1, 2, 1, -2, -1, -2}, 300)} {
		list := append(tucks(3), crossings(letters...)...)
		for _, more := range [][]impl.Event{nil, {knit(0, 1)}, {drop(0, 2), knit(0, 1)}, {cross(1, 1), cross(0, 1), knit(0, 1)}} {
			failWith(t, fmt.Sprint(len(letters), " letters"), slices.Concat(list, more), impl.ErrFull)
		}
	}
	late := slices.Concat(tucks(4), crossings(1, 2), tucks(1), crossings(3, -3), []impl.Event{drop(0, 1)}, crossings(copiesOf(3, 41)...), []impl.Event{drop(0, 1)})
	failWith(t, "in a later block", late, impl.ErrFull)
}

// A word that is too long counts also if its braid is trivial.
func TestTrivialBraidsOfMaxWordLetters(t *testing.T) {
	left, right := copiesOf(1, 10), copiesOf(3, 10)
	letters := slices.Concat(left, right, inverseWordByHand(left), inverseWordByHand(right))
	b := braid(4, letters...)
	is(t, "trivial", result(len(letters), isTrivialByHand(b), impl.IsTrivial(b), cancelledByHand(letters)), result(40, true, true, letters))
	list := slices.Concat(tucks(4), crossings(letters...), []impl.Event{knit(0, 4)})
	is(t, "left out", result(impl.BlocksOf(list)), result([]impl.Block{block(braid(0), append(tucks(4), knit(0, 4))...)}, impl.OK))
	left = copiesOf(1, 11)
	letters = slices.Concat(left, right, inverseWordByHand(left), inverseWordByHand(right))
	is(t, "trivial", result(len(letters), isTrivialByHand(braid(4, letters...)), cancelledByHand(letters)), result(42, true, letters))
	failWith(t, "trivial", slices.Concat(tucks(4), crossings(letters...), []impl.Event{knit(0, 4)}), impl.ErrFull)
}

// manyBlocks begin with so many strands, and have so many braids with the letter 1, each behind a stitch.
func manyBlocks(strands int64, braids int) []impl.Event {
	return append(tucks(strands), slices.Repeat([]impl.Event{knit(0, 1), cross(0, 1)}, braids)...)
}

func TestMaxBlocksBlocks(t *testing.T) {
	want := []impl.Block{block(braid(0), tuck(0), tuck(0), tuck(0), knit(0, 1))}
	for range 59 {
		want = append(want, block(braid(3, 1), knit(0, 1)))
	}
	full := append(manyBlocks(3, 59), knit(0, 1))
	is(t, "MaxBlocks blocks", result(impl.BlocksOf(full)), result(want, impl.OK))
	trivial := append(crossings(1, 2, 1, -2, -1, -2), knit(1, 1))
	more := slices.Concat(full, crossings(1, -1), []impl.Event{knit(2, 1)}, slices.Repeat(trivial, 50))
	want[59].Stitches = append([]impl.Event{knit(0, 1), knit(2, 1)}, slices.Repeat([]impl.Event{knit(1, 1)}, 50)...)
	is(t, "with trivial braids", result(impl.BlocksOf(more)), result(want, impl.OK))
	differAt(t, full, more, 59)
	differAt(t, full, full[:len(full)-1], 59)
	differAt(t, more, slices.Concat(more, crossings(2, -2)), -1)
	for _, last := range [][]impl.Event{{cross(0, 1)}, {cross(1, -1)}, {cross(1, 1), knit(0, 1)}, append(trivial, cross(1, 1)), {drop(0, 1), cross(0, 1), drop(0, 2)}} {
		failWith(t, "one block more", slices.Concat(full, last), impl.ErrFull)
		failWith(t, "behind trivial braids", slices.Concat(more, last), impl.ErrFull)
	}
	failWith(t, "many blocks more", append(manyBlocks(3, 900), knit(0, 1)), impl.ErrFull)
	short := impl.Event{Kind: impl.EvKnit, Count: 1, Bed: 1, Carrier: 1, Dir: 1}
	is(t, "only trivial braids", result(impl.BlocksOf(append(tucks(2), slices.Repeat([]impl.Event{cross(0, 1), cross(0, -1), short}, 600)...))), result([]impl.Block{block(braid(0), append(tucks(2), slices.Repeat([]impl.Event{short}, 600)...)...)}, impl.OK))
}

// ErrInvalid comes before ErrFull, whichever list has them.
func TestTheFirstOfTwoErrorsOfFabrics(t *testing.T) {
	for _, full := range [][]impl.Event{append(tucks(2), crossings(copiesOf(1, 41)...)...), manyBlocks(2, 60)} {
		failWith(t, "full", full, impl.ErrFull)
		for _, wrong := range notEventLists() {
			for _, pair := range [][2][]impl.Event{{full, wrong}, {wrong, full}, {wrong, wrong}} {
				is(t, "SameFabric", result(impl.SameFabric(pair[0], pair[1])), result(false, impl.ErrInvalid))
				is(t, "FirstDifference", result(impl.FirstDifference(pair[0], pair[1])), result(0, impl.ErrInvalid))
			}
		}
		failWith(t, "full and not valid", append(slices.Clone(full), cross(1, 1)), impl.ErrInvalid)
		is(t, "both full", result(result(impl.SameFabric(full, full)), result(impl.FirstDifference(full, full))), "[[false 5] [0 5]]")
	}
}

// word throws letters: a few of any kind, some that cancel, or some that are trivial in another way.
func (d *dice) word(strands int64) []int64 {
	first := d.letters(strands, 4)
	switch d.below(4) {
	case 0:
		return slices.Concat(first, inverseWordByHand(first))
	case 1:
		short := slices.DeleteFunc(trivialBraids(), func(b impl.Braid) bool { return b.Strands > strands || len(b.Word) > 8 })
		if len(short) > 0 {
			return slices.Concat(first, short[d.below(int64(len(short)))].Word, inverseWordByHand(first))
		}
	}
	return d.letters(strands, 6)
}

func (d *dice) letters(strands, most int64) []int64 {
	letters := make([]int64, d.below(most+1))
	for i := range letters {
		letters[i] = (1 + d.below(strands-1)) * d.dir()
	}
	return letters
}

// stitch throws an event that is no crossing and leaves 2 to most strands.
func (d *dice) stitch(strands, most int64) impl.Event {
	all := eventsFor(strands)
	for {
		e := all[d.below(int64(len(all)))]
		if after, _ := playedByHand(make([]int64, strands), e, 0); e.Kind != 1 && len(after) >= 2 && int64(len(after)) <= most {
			return e
		}
	}
}

// blocks throws blocks of which the braids may be trivial, and their words need not be reduced.
func (d *dice) blocks(count int) []impl.Block {
	strands := make([]int64, 2+d.below(4))
	list := []impl.Block{block(braid(0), tucks(int64(len(strands)))...)}
	for len(list) < count {
		b := block(braid(int64(len(strands)), d.word(int64(len(strands)))...))
		for range d.below(4) {
			e := d.stitch(int64(len(strands)), 6)
			strands, _ = playedByHand(strands, e, 0)
			b.Stitches = append(b.Stitches, e)
		}
		list = append(list, b)
	}
	return list
}

// fabricEvents throws events with many crossings.
func (d *dice) fabricEvents(braids int) []impl.Event {
	return eventsOfBlocksByHand(d.blocks(braids + 1))
}

func TestBlocksOfManyEvents(t *testing.T) {
	left, kept := 0, 0
	for seed := range 150 {
		d := dice(seed)
		list := d.fabricEvents(1 + seed%12)
		want := blocksByHand(list)
		is(t, "BlocksOf", result(impl.BlocksOf(list)), result(want, impl.OK))
		is(t, "EventsOfBlocks", result(impl.EventsOfBlocks(want)), result(eventsOfBlocksByHand(want), impl.OK))
		kept += len(want) - 1
		left += 1 + seed%12 - (len(want) - 1)
		reduced := eventsOfBlocksByHand(want)
		is(t, "ReduceEvents", result(impl.ReduceEvents(list)), result(reduced, impl.OK))
		is(t, "again", result(impl.BlocksOf(reduced)), result(want, impl.OK))
		is(t, "stitches", impl.StitchesOf(reduced), impl.StitchesOf(list))
		differAt(t, list, reduced, -1)
	}
	is(t, "many braids are left out, and many are not", result(left > 200, kept > 200), "[true true]")
}

// areBlocksByHand reports whether a list of blocks is valid.
func areBlocksByHand(list []impl.Block) bool {
	strands := []int64{}
	for _, b := range list {
		if b.Braid.Strands != int64(len(strands)) || len(b.Braid.Word) > 40 || len(b.Stitches) > 2000 {
			return false
		}
		for _, letter := range b.Braid.Word {
			if number := numberOf(letter); letter == math.MinInt64 || number < 1 || number >= int64(len(strands)) {
				return false
			}
		}
		for _, e := range b.Stitches {
			if e.Kind == 1 || !isEventByHand(len(strands), e) {
				return false
			}
			if strands, _ = playedByHand(strands, e, 0); len(strands) > 12 {
				return false
			}
		}
	}
	return len(list) <= 60
}

// haveEvents checks that a list of blocks is valid, and which events it has.
func haveEvents(t *testing.T, name string, list ...impl.Block) {
	t.Helper()
	is(t, "valid by hand: "+name, areBlocksByHand(list), true)
	is(t, "EventsOfBlocks: "+name, result(impl.EventsOfBlocks(list)), result(eventsOfBlocksByHand(list), impl.OK))
}

// haveNoEvents checks a list of blocks that has no events, because it is not valid or has too many.
func haveNoEvents(t *testing.T, name string, code int64, list ...impl.Block) {
	t.Helper()
	is(t, "valid by hand: "+name, areBlocksByHand(list), code == impl.ErrFull)
	is(t, "EventsOfBlocks: "+name, result(impl.EventsOfBlocks(list)), result([]impl.Event{}, code))
}

func TestEventsOfBlocks(t *testing.T) {
	start := block(braid(0), tucks(3)...)
	haveEvents(t, "no block")
	haveEvents(t, "a block without stitches", block(braid(0)))
	haveEvents(t, "blocks without stitches", block(braid(0)), block(braid(0)), start, block(braid(3, 1)), block(braid(3, 2)), block(braid(3)))
	haveEvents(t, "words that are not reduced", start, block(braid(3, 1, -1, 2, -2), knit(0, 1)), block(braid(3, 1, 2, -2, 1)))
	haveEvents(t, "strands come and go", start, block(braid(3, -2), drop(0, 3)), block(braid(0), tuck(0)), block(braid(1), tuck(0), tuck(0)), block(braid(3, 1, 2, 1), drop(0, 3)), block(braid(0)))
	haveEvents(t, "all kinds", start, block(braid(3, 2, -1), split(1, 0, 2), split(2, 3, 3), knit(1, 4), tuck(2), drop(0, 1)), block(braid(2, -1)))
	haveEvents(t, "MaxWord letters", start, block(repeated(3, -2, 40)), block(repeated(3, 2, 40), knit(0, 1)))
	for _, b := range trivialBraids() {
		first := block(braid(0), tucks(b.Strands)...)
		haveEvents(t, "trivial", first, block(b), block(braid(b.Strands)), block(b, knit(0, 1)))
	}
	text, code := impl.EventsOfBlocks([]impl.Block{start, block(braid(3, 1, -2), knit(1, 2)), block(braid(2, -1), drop(0, 2))})
	is(t, "events", result(textsOf(text), code), "[tuck 0 f+1, tuck 0 f+1, tuck 0 f+1, +0, -1, knit 1 2 f+1, -0, drop 0 2 0]")
}

func TestBlocksThatAreNotValid(t *testing.T) {
	start, invalid := block(braid(0), tucks(2)...), int64(impl.ErrInvalid)
	for _, b := range notBraids() {
		strands := b.Strands
		haveNoEvents(t, fmt.Sprint("the first braid ", b), invalid, block(b))
		if strands >= 0 && strands <= 12 {
			haveNoEvents(t, fmt.Sprint("a later braid ", b), invalid, block(braid(0), tucks(strands)...), block(b), block(braid(strands)))
		}
	}
	for strands := range int64(13) {
		for other := range int64(15) {
			if strands != other {
				haveNoEvents(t, "another number of strands", invalid, block(braid(0), tucks(strands)...), block(braid(other)))
			} else {
				haveEvents(t, "the number of strands", block(braid(0), tucks(strands)...), block(braid(other)))
			}
		}
		if strands > 0 {
			haveNoEvents(t, "strands at the beginning", invalid, block(braid(strands)))
		}
	}
	haveNoEvents(t, "strands of the block before", invalid, start, block(braid(2, 1), knit(0, 2)), block(braid(2, 1)))
	for _, e := range append(eventsFor(2), impl.Event{}, impl.Event{Kind: 6}, knit(0, 3), tuck(3), drop(1, 2), split(1, 1, 2), split(2, 1, 2), knit(-1, 1), impl.Event{Kind: impl.EvTuck, Bed: 1, Carrier: 5, Dir: 1}) {
		for _, list := range [][]impl.Block{{start, block(braid(2), e)}, {start, block(braid(2, 1), e)}, {start, block(braid(2), knit(1, 1), e)}, {block(braid(0), append(tucks(2), e)...)}} {
			if e.Kind == 1 || !isEventByHand(2, e) {
				haveNoEvents(t, fmt.Sprint("a stitch ", e), invalid, list...)
			} else {
				haveEvents(t, fmt.Sprint("a stitch ", e), list...)
			}
		}
	}
	haveNoEvents(t, "a crossing before other stitches", invalid, start, block(braid(2), cross(0, 1), knit(0, 1)))
	haveNoEvents(t, "a crossing in the first block", invalid, block(braid(0), tuck(0), tuck(0), cross(0, -1), knit(0, 1)))
}

func TestLimitsOfValidBlocks(t *testing.T) {
	empty := slices.Repeat([]impl.Block{block(braid(0))}, 60)
	haveEvents(t, "MaxBlocks blocks", empty...)
	haveNoEvents(t, "one block more", impl.ErrInvalid, append(empty, block(braid(0)))...)
	haveNoEvents(t, "many blocks more", impl.ErrInvalid, slices.Repeat(empty, 100)...)
	pairs := slices.Repeat([]impl.Event{tuck(0), drop(0, 1)}, 1000)
	haveEvents(t, "MaxEvents stitches", block(braid(0), pairs...))
	haveNoEvents(t, "one stitch more", impl.ErrInvalid, block(braid(0), append(pairs, tuck(0))...))
	haveNoEvents(t, "one stitch more in a later block", impl.ErrInvalid, block(braid(0), tuck(0)), block(braid(1), append(pairs, tuck(0))...))
	haveEvents(t, "MaxStrands strands", block(braid(0), tucks(12)...), block(braid(12, 11), drop(0, 4), tuck(0), tuck(0), tuck(0), tuck(0)), block(braid(12)))
	for _, more := range []impl.Event{tuck(0), knit(12, 0), split(1, 0, 1), split(2, 12, 4)} {
		haveNoEvents(t, "one strand more", impl.ErrInvalid, block(braid(0), append(tucks(12), more)...))
		haveNoEvents(t, "one strand more for a time", impl.ErrInvalid, block(braid(0), append(tucks(12), more, drop(0, 4))...))
		haveNoEvents(t, "one strand more in a later block", impl.ErrInvalid, block(braid(0), tucks(12)...), block(braid(12), more))
		haveNoEvents(t, "a braid of one strand more", impl.ErrInvalid, block(braid(0), append(tucks(12), more)...), block(braid(13)))
	}
}

// ErrFull with more than MaxEvents events of all blocks; ErrInvalid comes before it.
func TestEventsOfBlocksOfMaxEvents(t *testing.T) {
	start, forty := block(braid(0), tucks(2)...), block(repeated(2, 1, 40))
	stitches := slices.Repeat([]impl.Event{knit(0, 1)}, 2000)
	letters := append([]impl.Block{start}, slices.Repeat([]impl.Block{forty}, 49)...)
	for _, c := range []struct {
		name string
		list []impl.Block
	}{
		{"stitches", []impl.Block{start, block(braid(2, 1), stitches[:1997]...)}},
		{"stitches of two blocks", []impl.Block{start, block(braid(2), stitches[:1000]...), block(braid(2, -1), stitches[:997]...)}},
		{"letters", append(slices.Clone(letters), block(repeated(2, 1, 38)))},
		{"letters and a stitch", append(slices.Clone(letters), block(repeated(2, 1, 37), knit(0, 1)))},
		{"stitches at the end", append(slices.Clone(letters), block(braid(2)), block(braid(2), stitches[:38]...))},
	} {
		haveEvents(t, c.name, c.list...)
		is(t, "MaxEvents events of "+c.name, len(eventsOfBlocksByHand(c.list)), 2000)
		for _, more := range []impl.Block{block(braid(2, -1)), block(braid(2), knit(1, 1)), block(repeated(2, 1, 40), stitches...)} {
			haveNoEvents(t, c.name, impl.ErrFull, append(slices.Clone(c.list), more)...)
			haveNoEvents(t, c.name, impl.ErrFull, append(slices.Clone(c.list), more, block(braid(2)))...)
			for _, wrong := range []impl.Block{block(braid(3)), block(braid(2, 2)), block(braid(2), cross(0, 1)), block(braid(2), knit(0, 3)), block(braid(2), append(stitches, knit(0, 1))...)} {
				haveNoEvents(t, c.name, impl.ErrInvalid, append(slices.Clone(c.list), more, wrong)...)
			}
		}
		last := slices.Clone(c.list)
		last[len(last)-1].Stitches = append(slices.Clone(last[len(last)-1].Stitches), knit(1, 1))
		haveNoEvents(t, c.name+" and one stitch", impl.ErrFull, last...)
	}
	haveNoEvents(t, "MaxBlocks blocks of MaxEvents stitches", impl.ErrFull, append([]impl.Block{start}, slices.Repeat([]impl.Block{block(braid(2), stitches...)}, 59)...)...)
}

// changedBlocks returns lists that differ from a list in one field, or in the number of elements of one list.
func changedBlocks(list []impl.Block) [][]impl.Block {
	var changed [][]impl.Block
	add := func(k int, b impl.Block) {
		other := slices.Clone(list)
		other[k] = b
		changed = append(changed, other)
	}
	for k, b := range list {
		for _, step := range []int64{-2, -1, 1, 2, math.MinInt64} {
			add(k, impl.Block{Braid: impl.Braid{Strands: b.Braid.Strands + step, Word: b.Braid.Word}, Stitches: b.Stitches})
			for i := range b.Braid.Word {
				letters := slices.Clone(b.Braid.Word)
				letters[i] += step
				add(k, block(braid(b.Braid.Strands, letters...), b.Stitches...))
			}
		}
		for i, e := range b.Stitches {
			for _, other := range changedEvents(e) {
				add(k, block(b.Braid, slices.Concat(b.Stitches[:i], []impl.Event{other}, b.Stitches[i+1:])...))
			}
			add(k, block(b.Braid, slices.Concat(b.Stitches[:i], b.Stitches[i+1:])...))
		}
		for _, e := range []impl.Event{{}, tuck(0), knit(0, 1), cross(0, 1)} {
			add(k, block(b.Braid, slices.Concat([]impl.Event{e}, b.Stitches)...))
			add(k, block(b.Braid, slices.Concat(b.Stitches, []impl.Event{e})...))
		}
		for _, letter := range []int64{1, -1, 0} {
			add(k, block(braid(b.Braid.Strands, slices.Concat(b.Braid.Word, []int64{letter})...), b.Stitches...))
		}
		if len(b.Braid.Word) > 0 {
			add(k, block(braid(b.Braid.Strands, b.Braid.Word[1:]...), b.Stitches...))
		}
		changed = append(changed, slices.Concat(list[:k], list[k+1:]), slices.Concat(list[:k], []impl.Block{b}, list[k:]))
	}
	return changed
}

// Changed lists are taken for valid ones exactly if they are.
func TestEventsOfChangedBlocks(t *testing.T) {
	valid, wrong := 0, 0
	for seed := range 12 {
		d := dice(seed)
		list := d.blocks(2 + seed%4)
		haveEvents(t, "thrown", list...)
		for _, other := range changedBlocks(list) {
			want := result([]impl.Event{}, impl.ErrInvalid)
			wrong++
			if areBlocksByHand(other) {
				want = result(eventsOfBlocksByHand(other), impl.OK)
				valid++
				wrong--
			}
			is(t, "EventsOfBlocks of "+blocksText(other), result(impl.EventsOfBlocks(other)), want)
		}
	}
	is(t, "many of both kinds", result(valid > 200, wrong > 200), "[true true]")
}

func TestSameBlocks(t *testing.T) {
	base := []impl.Block{block(braid(0), tucks(3)...), block(braid(3, 1, -2), knit(0, 2), drop(0, 1)), block(braid(1)), block(braid(-7, 99, 0), impl.Event{}, cross(5, 5))}
	is(t, "a copy", impl.SameBlocks(base, []impl.Block{block(braid(0), tucks(3)...), block(braid(3, 1, -2), knit(0, 2), drop(0, 1)), block(braid(1)), block(braid(-7, 99, 0), impl.Event{}, cross(5, 5))}), true)
	for _, other := range changedBlocks(base) {
		is(t, "SameBlocks of "+blocksText(other), result(impl.SameBlocks(base, other), impl.SameBlocks(other, base), impl.SameBlocks(other, slices.Clone(other))), "[false false true]")
	}
	exchanged := []impl.Block{base[1], base[0], base[2], base[3]}
	is(t, "another order", result(impl.SameBlocks(base, exchanged), impl.SameBlocks(base, base[:3]), impl.SameBlocks(base[1:], base)), "[false false false]")
	is(t, "equal braids of different words", impl.SameBlocks([]impl.Block{block(braid(3, 1, 2, 1))}, []impl.Block{block(braid(3, 2, 1, 2))}), false)
	is(t, "words that are not reduced", impl.SameBlocks([]impl.Block{block(braid(3))}, []impl.Block{block(braid(3, 1, -1))}), false)
	long := slices.Repeat([]impl.Block{block(repeated(9, 9, 99), slices.Repeat([]impl.Event{{Kind: 9}}, 99)...)}, 99)
	is(t, "long lists", result(impl.SameBlocks(long, slices.Clone(long)), impl.SameBlocks(long, long[1:])), "[true false]")
}

func TestSameBlocksOfNilAndEmptyLists(t *testing.T) {
	var lists [][]impl.Block
	for _, word := range [][]int64{nil, {}} {
		for _, stitches := range [][]impl.Event{nil, {}} {
			lists = append(lists, []impl.Block{{Braid: impl.Braid{Strands: 2, Word: word}, Stitches: stitches}})
		}
	}
	for _, a := range lists {
		for _, b := range lists {
			is(t, "nil and empty", result(impl.SameBlocks(a, b), impl.EqualBlocks(a[0], b[0])), "[true true]")
		}
		is(t, "no block", result(impl.SameBlocks(a, nil), impl.SameBlocks(nil, a), impl.SameBlocks([]impl.Block{}, a)), "[false false false]")
	}
	is(t, "nil and empty", result(impl.SameBlocks(nil, nil), impl.SameBlocks(nil, []impl.Block{}), impl.SameBlocks([]impl.Block{}, nil)), "[true true true]")
	is(t, "a zero block", result(impl.SameBlocks([]impl.Block{{}}, nil), impl.SameBlocks([]impl.Block{{}}, []impl.Block{{}}), impl.EqualBlocks(impl.Block{}, impl.Block{})), "[false true true]")
}

// The stitches of blocks that are compared need not be valid; the braids have to be.
func TestEqualBlocks(t *testing.T) {
	stitchLists := [][]impl.Event{nil, {{}}, {knit(0, 1)}, {knit(0, 1), tuck(0)}, {tuck(0), knit(0, 1)}, {cross(0, 1)}, slices.Repeat([]impl.Event{{Kind: 9, Place: -1}}, 3000)}
	for _, words := range [][]impl.Braid{allWords(3, 3), append(trivialBraids(), nearlyTrivialBraids()...)} {
		for i, a := range words {
			for k, b := range words {
				equal := a.Strands == b.Strands && fmt.Sprint(actionByHand(a)) == fmt.Sprint(actionByHand(b))
				first, second := stitchLists[i%len(stitchLists)], stitchLists[k%len(stitchLists)]
				is(t, fmt.Sprint("EqualBlocks of ", a, b), result(impl.EqualBlocks(block(a, first...), block(b, slices.Clone(first)...)), impl.EqualBlocks(block(a, first...), block(b, second...))), result(equal, equal && i%len(stitchLists) == k%len(stitchLists)))
			}
		}
	}
	is(t, "other words", impl.EqualBlocks(block(braid(3, 1, 2, 1), knit(0, 3)), block(braid(3, 2, 1, 2, 2, -2), knit(0, 3))), true)
	is(t, "other strands", impl.EqualBlocks(block(braid(3)), block(braid(4))), false)
	is(t, "MaxWord letters", impl.EqualBlocks(block(repeated(12, 11, 40), tuck(0)), block(repeated(12, 11, 40), tuck(0))), true)
	for _, e := range append(eventsFor(2), impl.Event{}) {
		for _, other := range changedEvents(e) {
			is(t, "one field", impl.EqualBlocks(block(braid(2, 1), tuck(0), e), block(braid(2, 1), tuck(0), other)), false)
		}
	}
}

func TestEqualBlocksOfInvalidBraids(t *testing.T) {
	for _, b := range notBraids() {
		for _, stitches := range [][]impl.Event{nil, {knit(0, 1)}} {
			wrong := block(b, stitches...)
			is(t, fmt.Sprint("EqualBlocks of ", b), result(impl.EqualBlocks(wrong, wrong), impl.EqualBlocks(wrong, block(braid(max(0, min(b.Strands, 12))), stitches...)), impl.EqualBlocks(block(braid(max(0, min(b.Strands, 12))), stitches...), wrong)), "[false false false]")
		}
	}
}

func TestFabrics(t *testing.T) {
	for _, c := range []struct {
		strands int64
		a, b    string
		want    int
	}{
		{0, "", "", -1}, {3, "", "", -1}, {3, "knit 0 2 f+1, drop 0 1", "knit 0 2 f+1, drop 0 1", -1}, {2, "+0, -0", "", -1}, {2, "+0, -0", "-0, +0", -1},
		{3, "+0, +1, +0", "+1, +0, +1", -1}, {3, "+0, +1, +0, knit 0 3 f+1", "+1, +0, +1, knit 0 3 f+1", -1}, {4, "+0, -2, tuck 0 f+1", "-2, +0, tuck 0 f+1", -1}, {3, "-0, -1, -0, tuck 3 f+1, +2, -0", "-1, -0, -1, tuck 3 f+1, -0, +2", -1},
		{3, "+0, +1, -0, drop 0 1", "-1, +0, +1, drop 0 1", -1}, {4, "+0, +2, -0, -2, drop 0 1, +0, -0", "drop 0 1", -1}, {4, "tuck 0 f+1, +0, +2, -0, -2, drop 0 1", "tuck 0 f+1, drop 0 1, +0, +1, +0, -1, -0, -1", -1},
		{2, "", "knit 0 1 f+1", 0}, {2, "knit 0 1 f+1", "knit 1 1 f+1", 0}, {2, "knit 0 1 f+1", "knit 0 1 b+1", 0}, {2, "knit 0 1 f+1, +0", "knit 0 2 f+1", 0}, {2, "+0, -0, tuck 0 f+1", "+0, -0, tuck 1 f+1", 0}, {2, "tuck 0 f+1, tuck 0 f+2", "tuck 0 f+2, tuck 0 f+1", 0},
		{2, "+0, drop 0 1", "drop 0 1", 0}, {2, "tuck 0 f+1, +0", "+0, tuck 0 f+1", 0}, {2, "knit 0 2 f+1", "+0, knit 0 2 f+1", 0},
		{2, "", "+0", 1}, {2, "+0", "-0", 1}, {2, "+0", "+0, +0", 1}, {3, "+0", "+1", 1}, {3, "+0, +1", "+1, +0", 1}, {3, "+0, -1, +0", "-1, +0, -1", 1}, {2, "+0, knit 0 1 f+1", "-0, knit 0 1 f+1", 1}, {2, "+0, knit 0 1 f+1", "+0, knit 1 1 f+1", 1}, {2, "+0", "+0, knit 0 1 f+1", 1},
		{3, "+0, +0, -1, -1, tuck 0 f+1", "-1, -1, +0, +0, tuck 0 f+1", 1}, {3, "+0, tuck 0 f+1, -1", "-1, tuck 0 f+1, -1", 1},
		{2, "+0, tuck 0 f+1, +1", "+0, tuck 0 f+1, -1", 2}, {2, "+0, tuck 0 f+1, +1, drop 0 1, -0", "+0, tuck 0 f+1, +1, drop 0 2, tuck 0 f+1, -0", 2}, {2, "+0, tuck 0 f+1", "+0, tuck 0 f+1, -1", 2}, {2, "+0, tuck 0 f+1, +0, -0", "+0, tuck 0 f+1, +1, +0", 2},
		{2, "+0, tuck 0 f+1, +1, drop 0 1, -0", "+0, tuck 0 f+1, +1, drop 0 1, +0", 3}, {2, "+0, tuck 0 f+1, +1, drop 0 1, -0, drop 0 1", "+0, tuck 0 f+1, +1, drop 0 1, -0, drop 1 1", 3}, {2, "+0, tuck 0 f+1, +1, drop 0 1", "+0, tuck 0 f+1, +1, drop 0 1, -0, drop 1 1, tuck 0 f+1, +0", 3},
	} {
		a, b := knotted(t, c.strands, c.a), knotted(t, c.strands, c.b)
		is(t, "by hand", differenceByHand(a, b), c.want)
		differAt(t, a, b, c.want)
	}
	differAt(t, nil, []impl.Event{}, -1)
	differAt(t, nil, tucks(1), 0)
	differAt(t, manyBlocks(3, 59), append(manyBlocks(3, 58), knit(0, 1), cross(0, -1)), 59)
	differAt(t, manyBlocks(3, 59), manyBlocks(3, 58), 58)
	differAt(t, manyBlocks(3, 59), append(manyBlocks(3, 58), knit(0, 1)), 59)
}

// rewritten replaces the word of each braid between stitches by an equal one, and puts trivial braids where there is none.
func (d *dice) rewritten(list []impl.Event) []impl.Event {
	changed := []impl.Event{}
	var strands, word []int64
	endBraid := func() {
		n := int64(len(strands))
		if word == nil && n >= 3 && d.below(3) == 0 {
			word = []int64{2, 1, 2, -1, -2, -1}
		}
		changed = append(changed, crossings(changedByRelations(braid(n, word...), 30).Word...)...)
		word = nil
	}
	for _, e := range list {
		if e.Kind == 1 {
			word = append(word, e.Count*(e.Place+1))
		} else {
			endBraid()
			changed = append(changed, e)
		}
		strands, _ = playedByHand(strands, e, 0)
	}
	endBraid()
	return changed
}

// P14: changing the word of a braid between two stitches into an equal one does not change the fabric.
func TestEqualBraidsDoNotChangeAFabric(t *testing.T) {
	others := 0
	for seed := range 120 {
		d := dice(seed)
		list := d.fabricEvents(1 + seed%10)
		changed := d.rewritten(list)
		is(t, "valid", impl.ValidEvents(changed), true)
		differAt(t, list, changed, -1)
		first, _ := impl.BlocksOf(list)
		second, code := impl.BlocksOf(changed)
		is(t, "as many blocks", result(code, len(first)), result(impl.OK, len(second)))
		is(t, "equal one by one", slices.EqualFunc(first, second, impl.EqualBlocks), true)
		if !impl.SameBlocks(first, second) {
			others++
		}
	}
	is(t, "many have other words", others > 60, true)
}

// P14: every other change of a stitch changes the fabric, at the block of the stitch.
func TestChangedStitchesChangeAFabric(t *testing.T) {
	changes := 0
	for seed := range 25 {
		d := dice(seed)
		list := d.fabricEvents(1 + seed%6)
		blocks := 0
		for i, e := range list {
			if i == 0 || e.Kind != 1 && list[i-1].Kind == 1 {
				blocks = len(blocksByHand(list[:i])) - 1
			}
			if e.Kind == 1 {
				continue
			}
			differAt(t, list, list[:i], differenceByHand(list, list[:i]))
			for _, other := range append(changedEvents(e), withYarns(e)...) {
				changed := slices.Concat(list[:i], []impl.Event{other}, list[i+1:])
				if other == e || other.Kind == 1 || !impl.ValidEvents(changed) {
					continue
				}
				changes++
				differAt(t, list, changed, blocks)
			}
		}
	}
	is(t, "many changes", changes > 1000, true)
}

// P14: stitches that are missing, added or exchanged change the fabric, too, and so does a braid that is not equal.
func TestOtherChangesOfAFabric(t *testing.T) {
	same, others := 0, 0
	compare := func(list, changed []impl.Event) {
		t.Helper()
		if !impl.ValidEvents(changed) {
			return
		}
		want := differenceByHand(list, changed)
		differAt(t, list, changed, want)
		if want < 0 {
			same++
		} else {
			others++
		}
		if a, b := impl.StitchesOf(list), impl.StitchesOf(changed); !slices.Equal(a, b) {
			is(t, "other stitches", want >= 0, true)
		}
	}
	for seed := range 25 {
		d := dice(seed)
		list := d.fabricEvents(1 + seed%6)
		for i, e := range list {
			before, after := list[:i], list[i+1:]
			compare(list, slices.Concat(before, after))
			compare(list, slices.Concat(before, []impl.Event{e, e}, after))
			compare(list, slices.Concat(before, []impl.Event{cross(d.below(3), d.dir()), e}, after))
			if e.Kind == 1 {
				compare(list, slices.Concat(before, []impl.Event{cross(e.Place, -e.Count)}, after))
				compare(list, slices.Concat(before, []impl.Event{cross(e.Place+1, e.Count)}, after))
			}
			if len(after) > 0 {
				compare(list, slices.Concat(before, []impl.Event{after[0], e}, after[1:]))
			}
		}
	}
	is(t, "some make no difference, and most do", result(same > 20, others > 500), "[true true]")
}

// Racking there and back between two operations does not change the fabric.
func TestRackingThereAndBackMakesTheSameFabric(t *testing.T) {
	compared := 0
	for seed := range 60 {
		d := dice(seed)
		ops := d.tracedOps(t, 6, 40)
		list, code := impl.TraceOf(6, ops)
		is(t, "code", code, impl.OK)
		rack, more := int64(0), []impl.Op{}
		for _, o := range ops {
			if o.Kind == impl.OpRack {
				rack = o.Rack
			}
			if more = append(more, o); d.below(3) == 0 {
				more = append(more, rackOp(d.below(7)-3), rackOp(rack))
			}
		}
		other, code := impl.TraceOf(6, more)
		if code != impl.OK {
			continue
		}
		if _, code = impl.BlocksOf(list); code == impl.OK {
			differAt(t, list, other, -1)
			compared++
		}
	}
	is(t, "many programs", compared > 30, true)
}

func TestMirrorEvents(t *testing.T) {
	for _, c := range []struct {
		strands         int64
		event, mirrored string
	}{
		{2, "+0", "-0"}, {2, "-0", "+0"}, {5, "+0", "-3"}, {5, "-1", "+2"}, {5, "+3", "-0"}, {12, "-10", "+0"},
		{0, "knit 0 0 f+1", "knit 0 0 f-1"}, {5, "knit 0 0 f+1", "knit 5 0 f-1"}, {5, "knit 2 0 b-4", "knit 3 0 b+4"}, {5, "knit 0 1 f+1", "knit 4 1 f-1"}, {5, "knit 1 4 b-3", "knit 0 4 b+3"}, {5, "knit 1 2 f-2", "knit 2 2 f+2"}, {12, "knit 8 4 f+1", "knit 0 4 f-1"},
		{0, "tuck 0 f+1", "tuck 0 f-1"}, {5, "tuck 0 f+1", "tuck 5 f-1"}, {5, "tuck 5 b-2", "tuck 0 b+2"}, {5, "tuck 3 f-4", "tuck 2 f+4"}, {11, "tuck 11 f+1", "tuck 0 f-1"},
		{1, "drop 0 1", "drop 0 1"}, {5, "drop 0 1", "drop 4 1"}, {5, "drop 1 2", "drop 2 2"}, {5, "drop 0 4", "drop 1 4"}, {12, "drop 8 4", "drop 0 4"},
	} {
		list := knotted(t, c.strands, c.event)
		mirrored, code := impl.MirrorEvents(list)
		is(t, "MirrorEvents of "+c.event, result(len(mirrored), textsOf(mirrored[c.strands:]), code), result(len(list), c.mirrored, impl.OK))
		is(t, "mirrored twice", result(impl.MirrorEvents(mirrored)), result(list, impl.OK))
	}
	is(t, "no events", result(impl.MirrorEvents(nil)), result([]impl.Event{}, impl.OK))
	mirrored, code := impl.MirrorEvents(knotted(t, 0, "tuck 0 f+1, tuck 0 f+1, tuck 2 f-2, +0, -1, knit 0 2 f+1, -0, drop 1 1, tuck 1 b+3"))
	is(t, "strands come and go", result(textsOf(mirrored), code), "[tuck 0 f-1, tuck 1 f-1, tuck 0 f+2, -1, +0, knit 1 2 f-1, +0, drop 0 1, tuck 0 b-3 0]")
	long := append(tucks(3), slices.Repeat([]impl.Event{cross(0, 1), knit(2, 1)}, 998)...)
	mirrored, code = impl.MirrorEvents(append(long, drop(0, 1)))
	is(t, "MaxEvents events", result(len(mirrored), mirrored[1999], mirrored[1998], mirrored[1997], code), result(2000, drop(2, 1), impl.Event{Kind: 2, Place: 0, Count: 1, Bed: 1, Carrier: 1, Dir: -1}, cross(1, -1), impl.OK))
}

// ErrState with a split anywhere; ErrInvalid comes before it.
func TestMirrorEventsWithSplits(t *testing.T) {
	for _, e := range []impl.Event{split(1, 0, 2), split(2, 2, 2), split(2, 3, 1), {Kind: impl.EvSplit, Place: 1, Count: 1, Bed: 1, Carrier: 4, Dir: -1}} {
		for _, after := range [][]impl.Event{nil, {drop(0, 4)}, {cross(0, 1), split(1, 0, 1)}} {
			list := slices.Concat(tucks(3), []impl.Event{e}, after)
			is(t, fmt.Sprint("a split like ", e), result(impl.ValidEvents(list), result(impl.MirrorEvents(list))), result(true, result([]impl.Event{}, impl.ErrState)))
			_, code := impl.BlocksOf(list)
			is(t, "it has blocks", code, impl.OK)
			for _, wrong := range []impl.Event{{}, cross(5, 1), knit(6, 0), tuck(13)} {
				is(t, "not valid", result(impl.MirrorEvents(append(slices.Clone(list), wrong))), result([]impl.Event{}, impl.ErrInvalid))
				is(t, "not valid", result(impl.MirrorEvents(append([]impl.Event{wrong}, list...))), result([]impl.Event{}, impl.ErrInvalid))
			}
		}
	}
}

// mirrorableEvents throws events without splits.
func (d *dice) mirrorableEvents(braids int) []impl.Event {
	for {
		list := d.fabricEvents(braids)
		if !slices.ContainsFunc(list, func(e impl.Event) bool { return e.Kind == impl.EvSplit }) {
			return list
		}
	}
}

// A mirror shows the strands from right to left at all times; a strand that passes in front of others still does.
func TestMirrorImagesOfManyEvents(t *testing.T) {
	for seed := range 40 {
		d := dice(seed)
		list := d.mirrorableEvents(1 + seed%5)
		mirrored, code := impl.MirrorEvents(list)
		is(t, "code and length", result(code, len(mirrored), impl.ValidEvents(mirrored)), result(impl.OK, len(list), true))
		strands, shown := []int64{}, []int64{}
		for i, e := range mirrored {
			if e.Kind == 1 {
				front := map[int64]int64{1: strands[list[i].Place], -1: strands[list[i].Place+1]}[list[i].Count]
				is(t, "who is in front", map[int64]int64{1: shown[e.Place], -1: shown[e.Place+1]}[e.Count], front)
			}
			after, taken := playedByHand(strands, list[i], int64(i))
			shownAfter, shownTaken := playedByHand(shown, e, int64(i))
			is(t, "taken", fromBehind(shownTaken), taken)
			is(t, "strands", fromBehind(shownAfter), after)
			is(t, "fields", result(e.Kind, e.Bed, e.Carrier, e.Dir), result(list[i].Kind, list[i].Bed, list[i].Carrier, -list[i].Dir))
			strands, shown = after, shownAfter
		}
		is(t, "mirrored twice", result(impl.MirrorEvents(mirrored)), result(list, impl.OK))
		changed, _ := impl.MirrorEvents(d.rewritten(list))
		differAt(t, mirrored, changed, -1)
	}
}

func TestReduceEvents(t *testing.T) {
	for _, c := range []struct {
		strands       int64
		events, wants string
	}{
		{0, "", ""}, {2, "", ""}, {2, "+0, -0", ""}, {2, "+0, -0, +0", "+0"}, {3, "+0, +1, +0, -1, -0, -1, knit 0 3 f+1", "knit 0 3 f+1"}, {3, "+1, +0, +1, knit 0 3 f+1", "+1, +0, +1, knit 0 3 f+1"},
		{3, "+0, tuck 0 f+1, +0, -0, tuck 0 f+1, -0, drop 0 2, +1, +0, -0", "+0, tuck 0 f+1, tuck 0 f+1, -0, drop 0 2, +1"}, {4, "+0, +2, -0, -2, split 0 1 f+1, -0, -3, +3", "split 0 1 f+1, -0"},
	} {
		list, code := impl.ReduceEvents(knotted(t, c.strands, c.events))
		is(t, "ReduceEvents "+c.events, result(textsOf(list), code), result(textsOf(knotted(t, c.strands, c.wants)), impl.OK))
		is(t, "valid", impl.ValidEvents(list), true)
	}
	list := append(tucks(3), slices.Repeat([]impl.Event{knit(0, 1), knit(1, 1)}, 998)...)
	is(t, "MaxEvents events", result(impl.ReduceEvents(append(list, knit(2, 1)))), result(append(list, knit(2, 1)), impl.OK))
}

func TestFabricText(t *testing.T) {
	is(t, "no events", result(impl.FabricText(nil)), "[braid 0:\n 0]")
	is(t, "stitches", result(impl.FabricText(knotted(t, 0, "knit 0 0 b-2, split 1 1 b+1"))), "[braid 0:\nknit 0 0 b-2\nsplit 1 1 b+1\n 0]")
	is(t, "braids", result(impl.FabricText(knotted(t, 3, "+0, -1, tuck 3 f+4, +2, -2, drop 0 4, tuck 0 f+1, tuck 0 f+1, +0"))), "[braid 0:\ntuck 0 f+1\ntuck 0 f+1\ntuck 0 f+1\nbraid 3: 1 -2\ntuck 3 f+4\ndrop 0 4\ntuck 0 f+1\ntuck 0 f+1\nbraid 2: 1\n 0]")
	for seed := range 60 {
		d := dice(seed)
		list := d.fabricEvents(1 + seed%8)
		want := ""
		for _, b := range blocksByHand(list) {
			want += "braid " + braidTextByHand(b.Braid) + "\n"
			for _, e := range b.Stitches {
				want += eventTextByHand(e) + "\n"
			}
		}
		is(t, "FabricText", result(impl.FabricText(list)), result(want, impl.OK))
	}
}

// scribbleBlock overwrites all that a block holds, also the unused capacity.
func scribbleBlock(b impl.Block) { scribble(result(b.Braid, b.Stitches)) }

// No two lists of a result share memory, also not as the unused capacity of one another.
func TestListsOfBlocksShareNoMemory(t *testing.T) {
	for seed := range 20 {
		d := dice(seed)
		list := d.fabricEvents(6)
		want := blocksByHand(list)
		for k := range want {
			blocks, _ := impl.BlocksOf(list)
			scribble(result(blocks[k].Braid.Word))
			is(t, "stitches of the block", blocks[k].Stitches, want[k].Stitches)
			scribbleBlock(blocks[k])
			is(t, "other blocks", slices.Concat(blocks[:k], blocks[k+1:]), slices.Concat(want[:k], want[k+1:]))
			is(t, "again", result(impl.BlocksOf(list)), result(want, impl.OK))
		}
	}
}

// One piece of memory may hold both lists of events, and all lists of blocks.
func TestFabricsThatShareMemory(t *testing.T) {
	memory := knotted(t, 3, "+0, -1, knit 0 3 f+1, tuck 0 f+1, tuck 0 f+1, +0, +1")
	whole := slices.Clone(memory)
	differAt(t, memory, memory[:5], 1)
	differAt(t, memory[:4], memory[:5], 1)
	differAt(t, memory, memory, -1)
	is(t, "memory", memory, whole)
	letters := []int64{1, -1, 1, -1}
	blocks := []impl.Block{{Stitches: memory[:2]}, {Braid: impl.Braid{Strands: 2, Word: letters[:2]}, Stitches: memory[2:3]}, {Braid: impl.Braid{Strands: 3, Word: letters[1:]}, Stitches: memory[5:6]}}
	events, code := impl.EventsOfBlocks(blocks)
	is(t, "events", result(textsOf(events), code), "[tuck 0 f+1, tuck 0 f+1, +0, -0, tuck 0 f+1, -0, +0, -0, knit 0 3 f+1 0]")
	is(t, "compared", result(impl.SameBlocks(blocks, blocks), impl.SameBlocks(blocks[1:], blocks[:2]), impl.EqualBlocks(blocks[1], blocks[1])), "[true false true]")
	is(t, "memory", result(memory, letters), result(whole, "[1 -1 1 -1]"))
}
