package tests

import (
	"fmt"
	"math"
	"slices"
	"strconv"
	"strings"
	"sync"
	"testing"

	"loop.example/g00856/impl"
)

func needleTextByHand(n impl.Needle) string {
	return map[int64]string{1: "f", 2: "b"}[n.Bed] + strconv.Itoa(int(n.At))
}

func dirTextByHand(dir int64) string { return map[int64]string{1: ">", -1: "<"}[dir] }

// opTextByHand writes the fields of the table of texts, for a valid operation.
func opTextByHand(o impl.Op) string {
	dir, from, to := dirTextByHand(o.Dir), needleTextByHand(o.From), needleTextByHand(o.To)
	switch o.Kind {
	case 1, 2, 3:
		return fmt.Sprintf("%s %s %s %d", map[int64]string{1: "knit", 2: "tuck", 3: "miss"}[o.Kind], dir, from, o.Carrier)
	case 4:
		return fmt.Sprintf("xfer %s %s", from, to)
	case 5:
		return fmt.Sprintf("split %s %s %s %d", dir, from, to, o.Carrier)
	case 6:
		return fmt.Sprintf("drop %s", from)
	case 7:
		return fmt.Sprintf("rack %d", o.Rack)
	case 8:
		return fmt.Sprintf("in %s %d", dir, o.Carrier)
	case 9:
		return fmt.Sprintf("out %d", o.Carrier)
	}
	return ""
}

// allOps returns all operations that are valid.
func allOps() []impl.Op {
	var list []impl.Op
	for _, from := range append(allNeedles(), impl.Needle{}) {
		for _, to := range append(allNeedles(), impl.Needle{}) {
			for kind := range int64(10) {
				for carrier := range int64(5) {
					for dir := int64(-1); dir <= 1; dir++ {
						o := impl.Op{Kind: kind, Dir: dir, From: from, To: to, Carrier: carrier}
						if isOpByHand(o) && kind != impl.OpRack {
							list = append(list, o)
						}
					}
				}
			}
		}
	}
	for rack := int64(-3); rack <= 3; rack++ {
		list = append(list, rackOp(rack))
	}
	return list
}

// opsByText returns all operations that have a text.
var opsByText = sync.OnceValue(func() map[string]impl.Op {
	ops := map[string]impl.Op{}
	for _, o := range allOps() {
		ops[opTextByHand(o)] = o
	}
	return ops
})

// P9: an operation is restored from its text.
func TestAllOperationsAreReadBack(t *testing.T) {
	list := allOps()
	is(t, "numbers of operations and texts", result(len(list), len(opsByText())), "[11587 11587]")
	for _, o := range list {
		text := opTextByHand(o)
		back, ok := impl.ReadOp(text)
		if impl.OpText(o) != text || back != o || !ok {
			t.Errorf("%v: got %q, want %q, which is read as %v %v", o, impl.OpText(o), text, back, ok)
		}
	}
}

func TestExamplesOfOperations(t *testing.T) {
	for text, o := range map[string]impl.Op{
		"knit > f0 1":      knitOp(1, onFront(0), 1),
		"tuck < b23 4":     tuckOp(-1, onBack(23), 4),
		"miss > b10 2":     missOp(1, onBack(10), 2),
		"xfer f3 b5":       xferOp(onFront(3), onBack(5)),
		"xfer b3 f3":       xferOp(onBack(3), onFront(3)),
		"split < b2 f1 4":  splitOp(-1, onBack(2), onFront(1), 4),
		"drop f7":          dropOp(onFront(7)),
		"rack -3":          rackOp(-3),
		"rack 0":           rackOp(0),
		"in < 3":           inOp(-1, 3),
		"out 1":            outOp(1),
		"split > f0 b23 1": splitOp(1, onFront(0), onBack(23), 1),
	} {
		is(t, text, impl.OpText(o), text)
		is(t, text, result(impl.ReadOp(text)), result(o, true))
	}
}

func TestTextsOfInvalidOperations(t *testing.T) {
	for _, o := range notOps() {
		is(t, fmt.Sprint("OpText of ", o), impl.OpText(o), "")
	}
}

// isReadLikeByHand compares what is read from a text with the operation that has this text.
func isReadLikeByHand(t *testing.T, text string) {
	t.Helper()
	want, wantOK := opsByText()[text]
	if o, ok := impl.ReadOp(text); o != want || ok != wantOK {
		t.Errorf("ReadOp of %q: got %v %v, want %v %v", text, o, ok, want, wantOK)
	}
}

// P9: only the texts of operations are read.
func TestTextsOfNoOperations(t *testing.T) {
	for _, text := range []string{
		"", " ", "\n", "knit", "knit >", "knit > f0", "knit > f0 1 1", "knit > f0 1 f0", "knit f0 1", "knit > 1", "knit > > f0 1", "knit > 1 f0", "knit f0 > 1", "> knit f0 1",
		"knit >f0 1", "knit> f0 1", "knit > f0\t1", "knit > f0 1\n", "\tknit > f0 1", "knit > f0 1\r", "knit\u00a0> f0 1", "knit >  f0 1", " knit > f0 1", "knit > f0 1 ", "knit  > f0 1", "knit > f0  1",
		"knit + f0 1", "knit - f0 1", "knit >> f0 1", "knit = f0 1", "knit 1 f0 1", "knit -1 f0 1", "knit right f0 1", "knit v f0 1", "knit ＞ f0 1", "knit \xff f0 1", "knit >\x00 f0 1",
		"knit > f24 1", "knit > f-1 1", "knit > f00 1", "knit > f01 1", "knit > f+1 1", "knit > F0 1", "knit > c0 1", "knit > f 1", "knit > 0 1", "knit > 0f 1", "knit > f0x 1", "knit > f1000000000 1", "knit > ff0 1",
		"knit > f0 0", "knit > f0 5", "knit > f0 -1", "knit > f0 +1", "knit > f0 01", "knit > f0 1.0", "knit > f0 10", "knit > f0 x",
		"Knit > f0 1", "KNIT > f0 1", "kni > f0 1", "knits > f0 1", "stitch > f0 1", "purl > f0 1", "1 > f0 1", "width 4",
		"xfer", "xfer f0", "xfer f0 f1", "xfer b1 b1", "xfer f0 b0 1", "xfer f0  b0", "xfer > f0 b0", "xfer f0 b24", "xfer f24 b0", "xfer f0,b0", "xfer f0 b0 b0",
		"split f0 b0 1", "split > f0 1", "split > f0 f1 1", "split > f0 b0", "split > f0 b0 0", "split > b0 b0 1", "split > f0 b0 1 ", "split > f0 b0 1 0",
		"drop", "drop ", "drop f0 b0", "drop > f0", "drop f0 1", "drop 0", "drop f24",
		"rack", "rack ", "rack 4", "rack -4", "rack +1", "rack -0", "rack 00", "rack 01", "rack x", "rack 1 1", "rack f0", "rack > 1", "rack 1000000000", "rack --1",
		"in", "in >", "in 1", "in > 0", "in > 5", "in > f0 1", "in > 1 1", "in < -1", "in 1 >",
		"out", "out 0", "out 5", "out > 1", "out 1 1", "out f0", "out 01", "out -1",
	} {
		is(t, fmt.Sprintf("ReadOp of %q", text), result(impl.ReadOp(text)), result(impl.Op{}, false))
		isReadLikeByHand(t, text)
	}
	long := strings.Repeat("knit > f0 1 ", 10000)
	is(t, "a long text", result(impl.ReadOp(long)), result(impl.Op{}, false))
}

// changedTexts returns texts with one byte less, one byte more, and another byte; and with two bytes or words exchanged.
func changedTexts(text string) []string {
	list := []string{text + text, text + " " + text, text + "\n" + text}
	for i := range len(text) + 1 {
		for _, c := range []byte("01234569+-><=fbFknitrxo \t\n\x00\xff") {
			list = append(list, text[:i]+string(rune(c))+text[i:], text[:i]+string([]byte{c})+text[i:])
			if i < len(text) {
				list = append(list, text[:i]+string([]byte{c})+text[i+1:])
			}
		}
		if i < len(text) {
			list = append(list, text[:i], text[i:], text[:i]+text[i+1:])
		}
		if i+1 < len(text) {
			list = append(list, text[:i]+text[i+1:i+2]+text[i:i+1]+text[i+2:])
		}
	}
	words := strings.Split(text, " ")
	for i := range words {
		for k := range i {
			other := slices.Clone(words)
			other[i], other[k] = other[k], other[i]
			list = append(list, strings.Join(other, " "))
		}
		list = append(list, strings.Join(slices.Delete(slices.Clone(words), i, i+1), " "), strings.Join(slices.Insert(slices.Clone(words), i, words[i]), " "))
	}
	return list
}

// P9: a text that differs a little is read only if it is the text of another operation.
func TestTextsThatDifferALittle(t *testing.T) {
	for i, o := range allOps() {
		if i%97 == 0 || i < 8 || o.Kind >= impl.OpRack {
			for _, text := range changedTexts(opTextByHand(o)) {
				isReadLikeByHand(t, text)
			}
		}
	}
	for _, o := range someOps() {
		for _, text := range changedTexts(opTextByHand(o)) {
			isReadLikeByHand(t, text)
		}
	}
}

// Each field of each kind is read from words of all other fields, too.
func TestWordsOfOtherFields(t *testing.T) {
	words := []string{"", ">", "<", "f1", "b1", "b2", "1", "-1", "0", "knit"}
	for _, first := range strings.Fields("knit tuck miss xfer split drop rack in out width") {
		for _, a := range words {
			for _, b := range words {
				for _, c := range words {
					for _, d := range words {
						text := strings.TrimRight(strings.Join([]string{first, a, b, c, d}, " "), " ")
						isReadLikeByHand(t, text)
					}
				}
			}
		}
	}
}

func programTextByHand(width int64, ops []impl.Op) string {
	text := fmt.Sprintf("width %d\n", width)
	for _, o := range ops {
		text += opTextByHand(o) + "\n"
	}
	return text
}

// readProgramByHand cuts off one line after the other.
func readProgramByHand(s string) []any {
	if strings.Count(s, "\n") > 1501 {
		return result(0, []impl.Op{}, 0, impl.ErrFull)
	}
	var width int64
	ops := []impl.Op{}
	for number := 1; ; number++ {
		line, rest, ended := strings.Cut(s, "\n")
		if !ended && line == "" && number > 1 {
			return result(width, ops, 0, impl.OK)
		}
		o, ok := opsByText()[line]
		if number == 1 {
			width, ok = widthsByText()[line], true
		} else {
			ops = append(ops, o)
		}
		if !ended || !ok || max(o.From.At, o.To.At) >= width {
			return result(0, []impl.Op{}, number, impl.ErrSyntax)
		}
		s = rest
	}
}

func widthsByText() map[string]int64 {
	widths := map[string]int64{}
	for width := int64(1); width <= 24; width++ {
		widths["width "+strconv.Itoa(int(width))] = width
	}
	return widths
}

// isProgramLikeByHand compares what is read from a text with what is read by hand.
func isProgramLikeByHand(t *testing.T, text string) {
	t.Helper()
	want := fmt.Sprint(readProgramByHand(text))
	if got := fmt.Sprint(result(impl.ReadProgram(text))); got != want {
		t.Errorf("ReadProgram of %.200q: got %.200s, want %.200s", text, got, want)
	}
}

// failsAtLine checks a text that is no program.
func failsAtLine(t *testing.T, text string, line, code int64) {
	t.Helper()
	is(t, fmt.Sprintf("ReadProgram of %.60q", text), result(impl.ReadProgram(text)), result(0, []impl.Op{}, line, code))
	is(t, "by hand", readProgramByHand(text), result(0, []impl.Op{}, line, code))
}

// isReadBack checks that a program is restored from its text.
func isReadBack(t *testing.T, width int64, ops []impl.Op) {
	t.Helper()
	text := impl.ProgramText(width, ops)
	is(t, "ProgramText", text, programTextByHand(width, ops))
	back, list, line, code := impl.ReadProgram(text)
	if back != width || !slices.Equal(list, ops) || line != 0 || code != impl.OK {
		t.Errorf("ReadProgram of %.200q: got %v %.200v %v %v", text, back, list, line, code)
	}
}

// P9: a program is restored from its text.
func TestProgramsAreReadBack(t *testing.T) {
	for width := int64(1); width <= 24; width++ {
		isReadBack(t, width, nil)
		isReadBack(t, width, opsOfWidth(width, someOps()))
		isReadBack(t, width, []impl.Op{knitOp(1, onFront(width-1), 1), dropOp(onBack(width - 1)), xferOp(onFront(width-1), onBack(0)), xferOp(onBack(0), onFront(width-1))})
		d := dice(width)
		isReadBack(t, width, d.ops(width, 60))
	}
	list := allOps()
	for i := 0; i < len(list); i += 1500 {
		isReadBack(t, 24, list[i:min(i+1500, len(list))])
	}
	is(t, "no operations", impl.ProgramText(7, nil), "width 7\n")
}

// opsOfWidth returns those operations that are valid for a width.
func opsOfWidth(width int64, ops []impl.Op) []impl.Op {
	return slices.DeleteFunc(slices.Clone(ops), func(o impl.Op) bool { return o.From.At >= width || o.To.At >= width })
}

// ops throws operations that are valid for a width; not all of them can be executed.
func (d *dice) ops(width int64, count int) []impl.Op {
	var list []impl.Op
	m := impl.Machine{Width: width}
	for len(list) < count {
		o := d.op(m)
		if isOpByHand(o) && o.From.At < width && o.To.At < width {
			list = append(list, o)
		}
		if o.Kind == impl.OpRack && isOpByHand(o) {
			m.Rack = o.Rack
		}
	}
	return list
}

func TestTextsOfNoPrograms(t *testing.T) {
	for _, c := range []struct {
		text string
		line int64
	}{
		{"", 1}, {" ", 1}, {"\n", 1}, {"\n\n", 1}, {"width 4", 1}, {"width 4\n\n", 2}, {"width 4\n ", 2}, {"width 4\nrack 1\n\n", 3}, {"\nwidth 4\n", 1}, {"width 4\r\n", 1}, {"rack 1\n", 1}, {"rack 1\nwidth 4\n", 1},
		{"width 0\n", 1}, {"width 25\n", 1}, {"width -1\n", 1}, {"width +4\n", 1}, {"width 04\n", 1}, {"width 4 \n", 1}, {" width 4\n", 1}, {"width  4\n", 1}, {"width\n", 1}, {"width \n", 1}, {"width x\n", 1}, {"Width 4\n", 1}, {"width 4 4\n", 1}, {"width4\n", 1}, {"4\n", 1}, {"width 1000000000\n", 1}, {"width -0\n", 1}, {"height 4\n", 1}, {"widths 4\n", 1},
		{"width 4\nrack 1", 2}, {"width 4\nrack 1\nrack 2", 3}, {"width 4\nwidth 4\n", 2}, {"width 4\nrack 1\n ", 3}, {"width 4\nrack 1\nx", 3}, {"width 4\nrack 1\n\nrack 1\n", 3},
		{"width 4\nknit > f4 1\n", 2}, {"width 4\nxfer f3 b4\n", 2}, {"width 4\nxfer f4 b3\n", 2}, {"width 4\nsplit > f3 b4 1\n", 2}, {"width 1\nrack 1\ndrop b1\n", 3}, {"width 24\ndrop b24\n", 2},
		{"width 4\nrack  1\n", 2}, {"width 4\n rack 1\n", 2}, {"width 4\nrack 1 \n", 2}, {"width 4\nrack 1\r\n", 2}, {"width 4\nrack 01\n", 2}, {"width 4\nrack 4\n", 2}, {"width 4\nout 1 1\n", 2},
	} {
		failsAtLine(t, c.text, c.line, impl.ErrSyntax)
	}
}

func TestTheFirstOfTwoWrongLines(t *testing.T) {
	for _, c := range []struct {
		text string
		line int64
	}{
		{"width 0\nknit\n", 1}, {"width 4\nknit\nknit > f4 1\n", 2}, {"width 4\nknit > f4 1\nknit\n", 2}, {"width 4\nrack 0\nrack 4\nrack 0\nrack 5\nrack 0\n", 3}, {"width 4\nrack 4\nrack 1", 2}, {"width 4\nrack 1\nrack 4\nrack 1", 3}, {"width 25\nrack 1", 1}, {"x\nx", 1}, {"width 4\n\n\n", 2}, {"width 3\ndrop f0\ndrop f3\ndrop f24\n", 3},
	} {
		failsAtLine(t, c.text, c.line, impl.ErrSyntax)
	}
}

func TestProgramsOfMaxOpsOperations(t *testing.T) {
	ops := slices.Repeat([]impl.Op{rackOp(1), knitOp(1, onFront(2), 1), xferOp(onBack(0), onFront(1))}, 500)
	isReadBack(t, 3, ops)
	text := programTextByHand(3, ops)
	tooLong := programTextByHand(3, append(slices.Clone(ops), rackOp(0)))
	failsAtLine(t, tooLong, 0, impl.ErrFull)
	failsAtLine(t, text+"\n", 0, impl.ErrFull)
	failsAtLine(t, text+"rack 0", 1502, impl.ErrSyntax)
	failsAtLine(t, text+" ", 1502, impl.ErrSyntax)
	failsAtLine(t, strings.TrimSuffix(text, "\n"), 1501, impl.ErrSyntax)
	failsAtLine(t, strings.TrimSuffix(text, "\n")+" \n", 1501, impl.ErrSyntax)
	failsAtLine(t, "x"+text, 1, impl.ErrSyntax)
	failsAtLine(t, "x"+tooLong, 0, impl.ErrFull)
	failsAtLine(t, strings.Repeat("\n", 1501), 1, impl.ErrSyntax)
	failsAtLine(t, strings.Repeat("\n", 1502), 0, impl.ErrFull)
	failsAtLine(t, strings.Repeat("\n", 100000), 0, impl.ErrFull)
	failsAtLine(t, strings.Repeat("rack 0", 10000), 1, impl.ErrSyntax)
	is(t, "one operation more", impl.ProgramText(3, append(slices.Clone(ops), rackOp(0))), "")
}

// P9: only the texts of programs are read.
func TestProgramsThatDifferALittle(t *testing.T) {
	texts := []string{"width 4\n", "width 24\nknit > f23 1\n", "width 12\nin > 1\nknit > f0 1\nxfer f0 b0\nrack -1\nsplit < b1 f0 2\ndrop f11\nout 3\n"}
	for _, text := range texts {
		isProgramLikeByHand(t, text)
		for _, changed := range changedTexts(text) {
			isProgramLikeByHand(t, changed)
		}
		lines := strings.SplitAfter(text, "\n")
		for i := range lines {
			for k := range lines {
				other := slices.Clone(lines)
				other[i], other[k] = other[k], other[i]
				isProgramLikeByHand(t, strings.Join(other, ""))
				isProgramLikeByHand(t, strings.Join(lines[min(i, k):max(i, k)], ""))
			}
		}
	}
	for width := -2; width <= 30; width++ {
		for at := range int64(26) {
			isProgramLikeByHand(t, fmt.Sprintf("width %d\nrack 0\ndrop b%d\n", width, at))
			isProgramLikeByHand(t, fmt.Sprintf("width %d\nxfer f%d b0\nxfer f0 b%d\n", width, at, at))
		}
	}
}

// program is a list of operations and a width for which it may be valid or not.
type program struct {
	name  string
	width int64
	ops   []impl.Op
}

// notPrograms are operations that are not valid for their width.
func notPrograms() []program {
	list := []program{
		{"MaxOps + 1 operations", 24, slices.Repeat([]impl.Op{rackOp(1)}, 1501)},
		{"needle not below the width", 4, []impl.Op{rackOp(1), knitOp(1, onFront(4), 1)}},
		{"last needle not below the width", 4, []impl.Op{xferOp(onFront(3), onBack(4)), rackOp(1)}},
		{"first needle not below the width", 4, []impl.Op{rackOp(1), xferOp(onFront(4), onBack(3)), rackOp(1)}},
		{"first needle of a split", 1, []impl.Op{splitOp(1, onFront(1), onBack(0), 1)}},
		{"last needle of a split", 1, []impl.Op{splitOp(1, onFront(0), onBack(1), 1)}},
	}
	for _, width := range []int64{math.MinInt64, -1, 0, 25, math.MaxInt64} {
		list = append(list, program{fmt.Sprint("width ", width), width, nil}, program{fmt.Sprint("width ", width), width, []impl.Op{rackOp(1)}})
	}
	return append(list, programsOfNotOps(24)...)
}

// programsOfNotOps have one operation each that is not valid for any width.
func programsOfNotOps(width int64) []program {
	var list []program
	for _, o := range notOps() {
		for _, ops := range [][]impl.Op{{o}, {o, rackOp(1)}, {rackOp(1), o, rackOp(1)}, {rackOp(1), o}} {
			list = append(list, program{fmt.Sprint("operations ", ops), width, ops})
		}
	}
	return list
}

func TestInvalidPrograms(t *testing.T) {
	for _, p := range notPrograms() {
		is(t, "ProgramText of "+p.name, impl.ProgramText(p.width, p.ops), "")
		is(t, "CheckProgram of "+p.name, result(impl.CheckProgram(p.width, p.ops)), result(0, impl.ErrInvalid))
		is(t, "MirrorProgram of "+p.name, result(impl.MirrorProgram(p.width, p.ops)), result([]impl.Op{}, impl.ErrInvalid))
		for _, by := range []int64{0, 1, -1, 30, math.MinInt64, math.MaxInt64} {
			is(t, "ShiftProgram of "+p.name, result(impl.ShiftProgram(p.width, p.ops, by)), result([]impl.Op{}, impl.ErrInvalid))
		}
	}
	for _, p := range append(programsOfNotOps(24), notPrograms()[0]) {
		is(t, "counts of "+p.name, result(impl.KindCounts(p.ops) == nil, impl.CarriersUsed(p.ops) == nil, impl.LeastWidth(p.ops)), "[true true 0]")
	}
}

// checkByHand executes one operation after the other by hand.
func checkByHand(width int64, ops []impl.Op) []any {
	m := impl.Machine{Width: width, Front: make([][]int64, width), Back: make([][]int64, width), Carriers: make([]impl.Carrier, 4)}
	for i, o := range ops {
		next, code := stepByHand(m, o)
		if code != impl.OK {
			return result(i, code)
		}
		m = next
	}
	return result(len(ops), impl.OK)
}

func TestCheckProgram(t *testing.T) {
	good := []impl.Op{inOp(1, 1), knitOp(1, onFront(0), 1), knitOp(1, onFront(1), 1), xferOp(onFront(0), onBack(0)), rackOp(1), dropOp(onBack(0)), outOp(1)}
	is(t, "all of them", result(impl.CheckProgram(4, good)), "[7 0]")
	is(t, "none", result(impl.CheckProgram(4, nil)), "[0 0]")
	for _, c := range []struct {
		fails impl.Op
		code  int64
	}{
		{outOp(2), impl.ErrCarrier}, {missOp(1, onFront(1), 3), impl.ErrCarrier}, {dropOp(onBack(3)), impl.ErrEmpty}, {xferOp(onFront(3), onBack(0)), impl.ErrRack},
	} {
		for i := range len(good) + 1 {
			ops := slices.Insert(slices.Clone(good), i, c.fails)
			is(t, fmt.Sprint("CheckProgram of ", ops), result(impl.CheckProgram(4, ops)), result(i, c.code))
			is(t, "by hand", checkByHand(4, ops), result(i, c.code))
		}
	}
	is(t, "the first one of two", result(impl.CheckProgram(4, []impl.Op{rackOp(1), dropOp(onFront(0)), outOp(1)})), result(1, impl.ErrEmpty))
	is(t, "full", result(impl.CheckProgram(2, slices.Concat(stackOps(onFront(0), 4), []impl.Op{inOp(1, 1), tuckOp(1, onFront(0), 1)}))), result(7, impl.ErrFull))
}

func TestCheckProgramOfManyPrograms(t *testing.T) {
	for _, width := range []int64{1, 3, 24} {
		for seed := range 40 {
			d := dice(seed)
			ops := append(d.executableOps(t, width, seed*3), d.ops(width, 10)...)
			for n := 0; n <= len(ops); n += 1 + seed/4 {
				is(t, "CheckProgram", result(impl.CheckProgram(width, ops[:n])), checkByHand(width, ops[:n]))
			}
		}
	}
}

// executableOps throws operations that can be executed.
func (d *dice) executableOps(t *testing.T, width int64, count int) []impl.Op {
	t.Helper()
	var list []impl.Op
	m := newMachine(t, width)
	for len(list) < count {
		o := d.op(m)
		if next, code := impl.StepMachine(m, o); code == impl.OK {
			m, list = next, append(list, o)
		}
	}
	return list
}

func TestKindCountsAndCarriers(t *testing.T) {
	is(t, "no operations", result(impl.KindCounts(nil), impl.CarriersUsed(nil), impl.LeastWidth(nil)), "[[0 0 0 0 0 0 0 0 0] [] 1]")
	is(t, "no counts are nil", impl.KindCounts(nil) == nil, false)
	is(t, "some operations", result(impl.KindCounts(someOps()), impl.CarriersUsed(someOps()), impl.LeastWidth(someOps())), "[[2 2 2 2 2 2 3 2 2] [1 2 3 4] 24]")
	is(t, "without carriers", impl.CarriersUsed([]impl.Op{xferOp(onFront(1), onBack(1)), dropOp(onBack(1)), rackOp(2)}), "[]")
	for _, c := range []impl.Op{knitOp(1, onFront(1), 3), tuckOp(-1, onFront(1), 3), missOp(1, onFront(1), 3), splitOp(1, onFront(1), onBack(0), 3), inOp(1, 3), outOp(3)} {
		is(t, fmt.Sprint("carriers of ", c), impl.CarriersUsed([]impl.Op{outOp(4), c, rackOp(2), outOp(1), c, inOp(1, 4)}), "[1 3 4]")
	}
	for o, want := range map[impl.Op]int64{
		rackOp(3): 1, outOp(4): 1, inOp(-1, 4): 1, dropOp(onFront(0)): 1, dropOp(onBack(1)): 2, knitOp(1, onFront(23), 1): 24, missOp(1, onBack(4), 1): 5,
		xferOp(onFront(3), onBack(5)): 6, xferOp(onFront(5), onBack(3)): 6, splitOp(1, onBack(2), onFront(7), 1): 8, splitOp(1, onBack(7), onFront(2), 1): 8,
	} {
		is(t, fmt.Sprint("LeastWidth of ", o), impl.LeastWidth([]impl.Op{o}), want)
		is(t, fmt.Sprint("LeastWidth of ", o), impl.LeastWidth([]impl.Op{rackOp(1), o, dropOp(onFront(0))}), want)
	}
}

func TestCountsOfManyPrograms(t *testing.T) {
	for seed := range 60 {
		d := dice(seed)
		width := 1 + d.below(24)
		ops := d.ops(width, seed)
		counts, carriers := make([]int, 9), []int64{}
		for _, o := range ops {
			counts[o.Kind-1]++
			if o.Carrier != 0 && !slices.Contains(carriers, o.Carrier) {
				carriers = append(carriers, o.Carrier)
			}
		}
		slices.Sort(carriers)
		is(t, "KindCounts and CarriersUsed", result(impl.KindCounts(ops), impl.CarriersUsed(ops)), result(counts, carriers))
		least := impl.LeastWidth(ops)
		is(t, "valid for the least width", result(impl.ProgramText(least, ops) != "", least == 1 || impl.ProgramText(least-1, ops) == ""), "[true true]")
	}
	most := slices.Repeat([]impl.Op{outOp(2)}, 1500)
	is(t, "MaxOps operations", result(impl.KindCounts(most), impl.CarriersUsed(most), impl.LeastWidth(most)), "[[0 0 0 0 0 0 0 0 1500] [2] 1]")
}

// isShiftedByHand compares with each needle that an operation names, moved by hand.
func isShiftedByHand(t *testing.T, width int64, ops []impl.Op, by int64) {
	t.Helper()
	want, wantCode := []impl.Op{}, int64(impl.OK)
	for _, o := range ops {
		// Numbers of needles are small, so that nothing overflows here.
		step := min(max(by, -100), 100)
		if o.From.Bed != 0 {
			o.From.At += step
		}
		if o.To.Bed != 0 {
			o.To.At += step
		}
		if min(o.From.At, o.To.At) < 0 || max(o.From.At, o.To.At) >= width {
			want, wantCode = []impl.Op{}, impl.ErrRange
			break
		}
		want = append(want, o)
	}
	is(t, fmt.Sprint("ShiftProgram of ", width, ops, by), result(impl.ShiftProgram(width, ops, by)), result(want, wantCode))
}

func TestShiftProgram(t *testing.T) {
	far := []int64{math.MinInt64, math.MinInt64 + 5, math.MaxInt64 - 23, math.MaxInt64 - 5, math.MaxInt64}
	lists := [][]impl.Op{nil, {rackOp(1), inOp(1, 1), outOp(1)}, {dropOp(onFront(0))}, {dropOp(onBack(4))}, {xferOp(onFront(1), onBack(3))}, {rackOp(-1), splitOp(1, onBack(3), onFront(1), 2), outOp(2)}, {dropOp(onFront(0)), dropOp(onFront(4))}, {knitOp(1, onFront(2), 1), rackOp(2), tuckOp(-1, onBack(2), 1), missOp(1, onFront(1), 1)}}
	for _, ops := range lists {
		for _, width := range []int64{5, 6, 24} {
			for by := int64(-25); by <= 25; by++ {
				isShiftedByHand(t, width, ops, by)
			}
			for _, by := range far {
				isShiftedByHand(t, width, ops, by)
			}
		}
	}
	ends := []impl.Op{inOp(1, 1), knitOp(1, onFront(2), 1), xferOp(onFront(2), onBack(3)), rackOp(1)}
	is(t, "to the left end", result(impl.ShiftProgram(6, ends, -2)), result([]impl.Op{inOp(1, 1), knitOp(1, onFront(0), 1), xferOp(onFront(0), onBack(1)), rackOp(1)}, impl.OK))
	is(t, "one beyond", result(impl.ShiftProgram(6, ends, -3)), result([]impl.Op{}, impl.ErrRange))
	is(t, "to the right end", result(impl.ShiftProgram(6, ends, 2)), result([]impl.Op{inOp(1, 1), knitOp(1, onFront(4), 1), xferOp(onFront(4), onBack(5)), rackOp(1)}, impl.OK))
	is(t, "one beyond", result(impl.ShiftProgram(6, ends, 3)), result([]impl.Op{}, impl.ErrRange))
	is(t, "without needles", result(impl.ShiftProgram(1, []impl.Op{rackOp(3), outOp(1)}, math.MaxInt64)), result([]impl.Op{rackOp(3), outOp(1)}, impl.OK))
}

// P9: a program that is moved is moved back.
func TestShiftThereAndBack(t *testing.T) {
	for seed := range 60 {
		d := dice(seed)
		ops := d.ops(8, 30)
		for by := int64(0); by <= 16; by++ {
			isShiftedByHand(t, 24, ops, by)
			there, code := impl.ShiftProgram(24, ops, by)
			is(t, "there", code, impl.OK)
			is(t, "back", result(impl.ShiftProgram(24, there, -by)), result(ops, impl.OK))
		}
	}
}

func TestMirrorProgram(t *testing.T) {
	is(t, "example", result(impl.MirrorProgram(4, []impl.Op{knitOp(1, onFront(0), 1)})), result([]impl.Op{knitOp(-1, onFront(3), 1)}, impl.OK))
	is(t, "no operations", result(impl.MirrorProgram(4, nil)), "[[] 0]")
	for o, want := range map[impl.Op]impl.Op{
		tuckOp(-1, onBack(4), 2):              tuckOp(1, onBack(0), 2),
		missOp(1, onBack(2), 3):               missOp(-1, onBack(2), 3),
		xferOp(onFront(1), onBack(4)):         xferOp(onFront(3), onBack(0)),
		splitOp(-1, onBack(3), onFront(1), 4): splitOp(1, onBack(1), onFront(3), 4),
		dropOp(onFront(0)):                    dropOp(onFront(4)),
		rackOp(3):                             rackOp(-3),
		rackOp(0):                             rackOp(0),
		inOp(1, 1):                            inOp(-1, 1),
		outOp(2):                              outOp(2),
	} {
		is(t, fmt.Sprint("mirror image of ", o), result(impl.MirrorProgram(5, []impl.Op{o})), result([]impl.Op{want}, impl.OK))
		is(t, fmt.Sprint("mirror image of ", want), result(impl.MirrorProgram(5, []impl.Op{want})), result([]impl.Op{o}, impl.OK))
	}
	for width := int64(1); width <= 24; width++ {
		for at := range width {
			is(t, "needles", result(impl.MirrorProgram(width, []impl.Op{dropOp(onBack(at))})), result([]impl.Op{dropOp(onBack(width - 1 - at))}, impl.OK))
		}
	}
}

// mirroredByHand returns the state that a mirror shows. Loops that are on one needle stay in their order, from the front to the back.
func mirroredByHand(m impl.Machine) impl.Machine {
	m = copyOfMachine(m)
	m.Rack = -m.Rack
	slices.Reverse(m.Front)
	slices.Reverse(m.Back)
	for i := range m.Carriers {
		if m.Carriers[i].In {
			m.Carriers[i].At = m.Width - m.Carriers[i].At
		}
	}
	for i := range m.Loops {
		m.Loops[i].At = m.Width - 1 - m.Loops[i].At
		m.Loops[i].Dir = -m.Loops[i].Dir
	}
	return m
}

// isMirroredByHand compares the execution of a program with that of its mirror image, and returns the state.
func isMirroredByHand(t *testing.T, width int64, ops []impl.Op) impl.Machine {
	t.Helper()
	mirrored, mirrorCode := impl.MirrorProgram(width, ops)
	is(t, "MirrorProgram", mirrorCode, impl.OK)
	is(t, "mirrored twice", result(impl.MirrorProgram(width, mirrored)), result(ops, impl.OK))
	m, n, code := impl.RunMachine(width, ops)
	other, count, otherCode := impl.RunMachine(width, mirrored)
	is(t, "as many operations and the same error", result(count, otherCode), result(n, code))
	if !isSameByHand(other, mirroredByHand(m)) {
		t.Errorf("the mirror image of %v leads to %v, and not to the mirror image of %v", ops, other, m)
	}
	return m
}

// P9: the mirror image of a program leads to the mirror image of the machine, in the order of loops on a needle, too.
func TestMirrorImagesOfPrograms(t *testing.T) {
	stacks := slices.Concat(stackOps(onBack(1), 1), stackOps(onFront(1), 2), []impl.Op{xferOp(onFront(1), onBack(1)), rackOp(2), inOp(-1, 2), tuckOp(-1, onBack(1), 2)})
	is(t, "loops on a needle", isMirroredByHand(t, 5, stacks).Back[1], "[1 2 0 3]")
	mirrored, _ := impl.MirrorProgram(5, stacks)
	is(t, "loops on the needle of the mirror image", machineAfter(t, 5, mirrored).Back[3], "[1 2 0 3]")
	stacked := 0
	for _, width := range []int64{1, 2, 5, 24} {
		for seed := range 20 {
			d := dice(seed)
			m := isMirroredByHand(t, width, d.executableOps(t, width, 150))
			for _, loops := range slices.Concat(m.Front, m.Back) {
				if len(loops) > 1 {
					stacked++
				}
			}
			isMirroredByHand(t, width, append(d.executableOps(t, width, seed), d.ops(width, 20)...))
		}
	}
	is(t, "needles with several loops", stacked > 100, true)
}
