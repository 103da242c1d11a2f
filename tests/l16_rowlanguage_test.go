package tests

import (
	"fmt"
	"math"
	"regexp"
	"slices"
	"strconv"
	"strings"
	"testing"

	"loop.example/g00856/impl"
)

// stitchTimes and groupOf make single pieces, valid or not.
func stitchTimes(kind, times int64) impl.Piece { return impl.Piece{Kind: kind, Times: times} }

func groupOf(times, length int64) impl.Piece {
	return impl.Piece{Kind: impl.PcGroup, Times: times, Length: length}
}

var pieceTokens = regexp.MustCompile(`[kpodetsxyXY]\d*|\(|\)\*\d*`)

func numberOr(digits string, usual int64) int64 {
	if digits == "" {
		return usual
	}
	n, err := strconv.ParseInt(digits, 10, 64)
	if err != nil {
		panic(err)
	}
	return n
}

// piecesIn reads a text with balanced brackets. Its numbers need not be those of valid pieces.
func piecesIn(text string) []impl.Piece {
	list, groups := []impl.Piece{}, []int{}
	for _, token := range pieceTokens.FindAllString(text, -1) {
		switch token[0] {
		case '(':
			groups = append(groups, len(list))
			list = append(list, groupOf(0, 0))
		case ')':
			at := groups[len(groups)-1]
			groups = groups[:len(groups)-1]
			list[at] = groupOf(numberOr(token[2:], 0), int64(len(list)-1-at))
		default:
			list = append(list, stitchTimes(int64(strings.Index(symbolsByHand, token[:1])+1), numberOr(token[1:], 1)))
		}
	}
	return list
}

// arePiecesByHand compares each piece with the groups before it.
func arePiecesByHand(list []impl.Piece) bool {
	if len(list) > 24 {
		return false
	}
	ends, open := make([]int64, len(list)), 0
	for i, p := range list {
		at, isGroup := int64(i), p.Kind == 12
		if p.Times < 0 || p.Times > 16 || p.Length < 0 || p.Length > int64(len(list)-1-i) || isGroup != (p.Length > 0) {
			return false
		}
		if !isGroup && (p.Kind < 1 || p.Kind > 11 || p.Times == 0) {
			return false
		}
		ends[i] = at + p.Length
		groups := 0
		for k := range i {
			if ends[k] >= at {
				groups++
				if ends[i] > ends[k] {
					return false
				}
			}
		}
		if isGroup && p.Times == 0 {
			open += 1 + groups
		}
		if groups > 3 || open > 1 {
			return false
		}
	}
	return true
}

// piecesTextByHand writes the brackets of valid pieces where groups begin and end.
func piecesTextByHand(list []impl.Piece) string {
	text := ""
	for i, p := range list {
		if i > 0 && list[i-1].Kind != 12 {
			text += " "
		}
		if p.Kind == 12 {
			text += "("
			continue
		}
		text += symbolsByHand[p.Kind-1 : p.Kind]
		if p.Times > 1 {
			text += fmt.Sprint(p.Times)
		}
		for k := i - 1; k >= 0; k-- {
			if list[k].Kind == 12 && int64(k)+list[k].Length == int64(i) {
				text += ")*" + strings.TrimPrefix(fmt.Sprint(list[k].Times), "0")
			}
		}
	}
	return text
}

// piecesPattern matches the texts of pieces, of which only the number and that of open groups may be wrong.
func piecesPattern() *regexp.Regexp {
	stitch, listOf := `[kpodetsxyXY](?:[2-9]|1[0-6])?`, func(piece string) string { return fmt.Sprintf(`(?:%s)(?: (?:%s))*`, piece, piece) }
	inside := stitch
	for range 2 {
		inside = fmt.Sprintf(`%s|\(%s\)\*(?:[1-9]|1[0-6])`, stitch, listOf(inside))
	}
	return regexp.MustCompile(fmt.Sprintf(`^(?:%s)?$`, listOf(fmt.Sprintf(`%s|\(%s\)\*(?:[1-9]|1[0-6])?`, stitch, listOf(inside)))))
}

var (
	textOfPieces   = piecesPattern()
	pieceStarts    = regexp.MustCompile(`[kpodetsxyXY(]`)
	openGroupsEnds = regexp.MustCompile(`\*( |$)`)
)

func isTextOfPieces(s string) bool {
	return textOfPieces.MatchString(s) && len(pieceStarts.FindAllString(s, -1)) <= 24 && len(openGroupsEnds.FindAllString(s, -1)) <= 1
}

// isReadLikePieces checks how a text is read.
func isReadLikePieces(t *testing.T, s string) bool {
	t.Helper()
	list, ok := impl.ReadPieces(s)
	if want := isTextOfPieces(s); ok != want {
		t.Errorf("ReadPieces %q: got %v %t, want %t", s, list, ok, want)
		return want
	}
	if !ok && len(list) > 0 {
		t.Errorf("ReadPieces %q: got %v with false", s, list)
	}
	if ok && (!slices.Equal(list, piecesIn(s)) || !impl.ValidPieces(list) || impl.PiecesText(list) != s) {
		t.Errorf("ReadPieces %q: got %v, which has the text %q", s, list, impl.PiecesText(list))
	}
	return ok
}

// isListOfPieces checks validity, text and reading of a list, and that nothing is done with it if it is not valid.
func isListOfPieces(t *testing.T, list []impl.Piece) bool {
	t.Helper()
	valid, text := arePiecesByHand(list), ""
	if valid {
		text = piecesTextByHand(list)
	}
	if got := impl.ValidPieces(list); got != valid {
		t.Errorf("ValidPieces %v: got %t", list, got)
	}
	if got := impl.PiecesText(list); got != text {
		t.Errorf("PiecesText %v: got %q, want %q", list, got, text)
	}
	if valid {
		read, ok := impl.ReadPieces(text)
		if !ok || !slices.Equal(read, list) {
			t.Errorf("ReadPieces %q: got %v %t, want %v", text, read, ok, list)
		}
		return true
	}
	never, each, ok := impl.NeedOf(list)
	if never != 0 || each != 0 || ok {
		t.Errorf("NeedOf %v: got %d %d %t", list, never, each, ok)
	}
	for _, columns := range []int64{math.MinInt64, -1, 0, 1, 2, 8, 9, math.MaxInt64} {
		if stitches, code := impl.ExpandPieces(list, columns); len(stitches) > 0 || code != impl.ErrInvalid {
			t.Errorf("ExpandPieces %v %d: got %v %d", list, columns, stitches, code)
		}
	}
	return false
}

func TestPieceConstants(t *testing.T) {
	is(t, "limits", result(impl.MaxPieces, impl.MaxTimes, impl.MaxDepth, impl.PcGroup), "[24 16 3 12]")
}

func TestExamplesOfRowTexts(t *testing.T) {
	list, ok := impl.ReadPieces("k2 (p k)*3 o d")
	is(t, "instructions", result(list, ok), "[[{1 2 0} {12 3 2} {2 1 0} {1 1 0} {3 1 0} {4 1 0}] true]")
	is(t, "their text", impl.PiecesText(list), "k2 (p k)*3 o d")
	is(t, "their need", result(impl.NeedOf(list)), "[10 0 true]")
	five, code := impl.ExpandRow("k (p k)*", 5)
	is(t, "five columns", result(impl.StitchesText(five), code), "[kpkpk 0]")
	is(t, "four columns", result(impl.ExpandRow("k (p k)*", 4)), "[[] 10]")
	is(t, "short text", impl.ShortRow(kindsIn(t, "kpkpkpk")), "(k p)*3 k")
}

// validTexts are the texts of valid pieces that reach limits, or nearly.
func validTexts() []string {
	kinds := strings.Join(strings.Split(symbolsByHand, ""), " ")
	nested := "(((k16)*16)*16)*16"
	return []string{
		"", "k", "Y16", "k2", "k9", "k10", "k15", "k16", kinds, kinds + " " + kinds + " k k", strings.TrimSpace(strings.Repeat("k ", 24)), strings.TrimSpace(strings.Repeat("k16 ", 24)), "(k)*", "(k)*1", "(k)*9", "(k)*10", "(k)*16", "(k16)*16",
		"k (p)* o", "(p)* o", "k (p)*", "(k)*2 (p)* (o)*3", "((k)*2)*", "(((k)*2)*2)*", "(((k)*2)*2)*2", "(((k p2)*1 o)*3 d (e)*2)* t", "((k)*1)*1", "(k (k)*2 k)*2 k", "(k (p (o)*2)*2)*2 (((k)*2)*2)*2", "(((k k)*2 k)*2 k)*2 k", "(k (k)*3)*",
		nested, strings.Join(slices.Repeat([]string{nested}, 6), " "), "(" + strings.TrimSpace(strings.Repeat("k ", 23)) + ")*", "((" + strings.TrimSpace(strings.Repeat("k ", 22)) + ")*2)*", "(k)*2" + strings.Repeat(" (k)*2", 11), "(k)*" + strings.Repeat(" (k)*2", 11),
	}
}

func TestValidPiecesAndTheirTexts(t *testing.T) {
	for _, text := range validTexts() {
		list := piecesIn(text)
		is(t, "ValidPieces "+text, isListOfPieces(t, list), true)
		is(t, "PiecesText "+text, impl.PiecesText(list), text)
		is(t, "ReadPieces "+text, isReadLikePieces(t, text), true)
	}
	for kind := int64(1); kind <= 11; kind++ {
		for times := int64(1); times <= 16; times++ {
			is(t, "valid stitch", isListOfPieces(t, []impl.Piece{stitchTimes(kind, times)}), true)
			is(t, "valid group", isListOfPieces(t, []impl.Piece{groupOf(times, 1), stitchTimes(kind, times)}), true)
		}
	}
	is(t, "no pieces", result(impl.ValidPieces(nil), impl.ValidPieces([]impl.Piece{}), impl.PiecesText(nil) == "", isReadLikePieces(t, "")), "[true true true true]")
}

// isNotValid checks a list that is not valid, and that the same list is valid with another piece at one place.
func isNotValid(t *testing.T, list []impl.Piece, at int, fine impl.Piece) {
	t.Helper()
	is(t, fmt.Sprint("ValidPieces ", list), isListOfPieces(t, list), false)
	other := slices.Clone(list)
	other[at] = fine
	is(t, fmt.Sprint("ValidPieces ", other), isListOfPieces(t, other), true)
}

// Each condition apart, for stitches and groups at all depths.
func TestPiecesWithOneWrongField(t *testing.T) {
	greatest, least := int64(math.MaxInt64), int64(math.MinInt64)
	for _, text := range []string{"k", "k p", "p k2 o", "(k)*2", "k (k p)*3 o", "(p (k)*2)*2 d", "(((k)*2)*2)*2", "(k)*", "t (x (k)*2)* e", "((k o)*16)* k"} {
		list := piecesIn(text)
		for at, fine := range list {
			wrong := []impl.Piece{{}, {Kind: fine.Kind, Times: 17, Length: fine.Length}, {Kind: fine.Kind, Times: -1, Length: fine.Length}, {Kind: fine.Kind, Times: greatest, Length: fine.Length}, {Kind: fine.Kind, Times: least, Length: fine.Length}, {Kind: fine.Kind, Times: 1<<32 + 1, Length: fine.Length}}
			for _, kind := range []int64{least, -12, -1, 0, 13, 24, 256 + 1, 1<<32 + 12, greatest} {
				wrong = append(wrong, impl.Piece{Kind: kind, Times: fine.Times, Length: fine.Length})
			}
			lengths := []int64{least, least + 1, -1, int64(len(list) - at), int64(len(list)-at) + 1, 24, 1 << 32, greatest - 1, greatest}
			if fine.Kind == impl.PcGroup {
				lengths = append(lengths, 0)
			} else {
				wrong = append(wrong, stitchTimes(fine.Kind, 0))
				lengths = append(lengths, 1, 2)
			}
			for _, length := range lengths {
				wrong = append(wrong, impl.Piece{Kind: fine.Kind, Times: fine.Times, Length: length})
			}
			for _, p := range wrong {
				other := slices.Clone(list)
				other[at] = p
				isNotValid(t, other, at, fine)
			}
		}
	}
}

func TestGroupsThatEndTooLate(t *testing.T) {
	k := stitchTimes(1, 1)
	for _, c := range []struct {
		list []impl.Piece
		at   int
		fine int64
	}{
		{[]impl.Piece{groupOf(2, 2), groupOf(2, 2), k, k}, 1, 1}, {[]impl.Piece{groupOf(2, 2), k, groupOf(2, 1), k}, 0, 3}, {[]impl.Piece{groupOf(2, 3), groupOf(2, 2), groupOf(2, 2), k, k}, 2, 1},
		{[]impl.Piece{k, groupOf(0, 3), k, groupOf(3, 2), k, k}, 3, 1}, {[]impl.Piece{groupOf(2, 1), groupOf(2, 1), k}, 0, 2}, {[]impl.Piece{groupOf(2, 5), groupOf(2, 2), k, groupOf(2, 2), k, k}, 1, 1},
	} {
		isNotValid(t, c.list, c.at, groupOf(c.list[c.at].Times, c.fine))
	}
	is(t, "a group behind which there is nothing", isListOfPieces(t, []impl.Piece{k, groupOf(2, 1)}), false)
}

func TestPiecesBeyondLimits(t *testing.T) {
	k := stitchTimes(1, 1)
	for _, n := range []int{23, 24, 25, 48, 5000} {
		is(t, fmt.Sprint(n, " stitches"), isListOfPieces(t, slices.Repeat([]impl.Piece{k}, n)), n <= 24)
		is(t, fmt.Sprint(n, " pieces with an open group"), isListOfPieces(t, append([]impl.Piece{groupOf(0, int64(n-1))}, slices.Repeat([]impl.Piece{k}, n-1)...)), n <= 24)
	}
	for depth := range 12 {
		list := append(slices.Clone(chainOfGroups(2, depth)), k)
		is(t, fmt.Sprint("depth ", depth), isListOfPieces(t, list), depth <= 3)
		is(t, fmt.Sprint("depth ", depth, " behind others"), isListOfPieces(t, append(piecesIn("(((k)*2 o)*3)* t"), list...)), depth <= 3)
		open := slices.Clone(list)
		open[0].Times = 0
		is(t, fmt.Sprint("depth ", depth, " in an open group"), isListOfPieces(t, open), 0 < depth && depth <= 3)
	}
	is(t, "a group without pieces at the greatest depth", isListOfPieces(t, chainOfGroups(2, 4)), false)
	for _, text := range []string{"(k)* (p)*", "(k)* o (p)*", "((k)*)*", "((k)*)*2", "(k (p)*)*2", "(k ((p)*)*2)*2", "(((k)*)*2)*2", "(k)* (p)* (o)*", "((k)*)* (p)*", "(k (p)* (o)*)*2"} {
		is(t, "open groups "+text, isListOfPieces(t, piecesIn(text)), false)
		isReadLikePieces(t, text)
	}
}

// chainOfGroups are groups one in another, without the piece in the last one.
func chainOfGroups(times int64, depth int) []impl.Piece {
	list := []impl.Piece{}
	for length := depth; length > 0; length-- {
		list = append(list, groupOf(times, int64(length)))
	}
	return list
}

// P17: all short lists of a few pieces, most of which are not valid.
func TestAllShortListsOfPieces(t *testing.T) {
	choices := []impl.Piece{stitchTimes(1, 1), groupOf(0, 1), groupOf(0, 2), groupOf(2, 1), groupOf(2, 2), groupOf(1, 3), groupOf(2, 4), {Kind: 1, Times: 1, Length: 1}, stitchTimes(2, 0)}
	valid, all := 0, 0
	for list := range listsOver(choices, 5) {
		all++
		if isListOfPieces(t, list) {
			valid++
		}
	}
	is(t, "enough lists", result(all > 60000, valid > 100), "[true true]")
}

// listsOver are all lists of at most so many of some things.
func listsOver[T any](things []T, length int) func(yield func([]T) bool) {
	return func(yield func([]T) bool) {
		var extend func(list []T) bool
		extend = func(list []T) bool {
			if !yield(slices.Clone(list)) {
				return false
			}
			if len(list) == length {
				return true
			}
			for _, x := range things {
				if !extend(append(slices.Clone(list), x)) {
					return false
				}
			}
			return true
		}
		extend([]T{})
	}
}

// piecesText throws the text of pieces that so many groups contain, whose numbers and brackets are valid.
func (d *dice) piecesText(groups int, greatest int64) string {
	texts := []string{}
	for range 1 + d.below(3) {
		if groups < 3 && d.below(4) == 0 {
			texts = append(texts, fmt.Sprintf("(%s)*%d", d.piecesText(groups+1, greatest), 1+d.below(greatest)))
			continue
		}
		symbol := string("kpodetsxyXYkkpoo"[d.below(16)])
		if times := 1 + d.below(greatest); times > 1 && d.below(2) == 0 {
			symbol += fmt.Sprint(times)
		}
		texts = append(texts, symbol)
	}
	return strings.Join(texts, " ")
}

// rowInstructions throws the text of at most 24 valid pieces, most of them with an open group.
func (d *dice) rowInstructions(greatest int64) string {
	for {
		parts := []string{}
		if d.below(2) == 0 {
			parts = append(parts, d.piecesText(0, greatest))
		}
		if d.below(4) > 0 {
			parts = append(parts, "("+d.piecesText(1, greatest)+")*")
		}
		if d.below(2) == 0 {
			parts = append(parts, d.piecesText(0, greatest))
		}
		if text := strings.Join(parts, " "); isTextOfPieces(text) {
			return text
		}
	}
}

// P17: lists are restored from their texts, and lists that differ a little are those of other texts, or of none.
func TestManyListsOfPieces(t *testing.T) {
	valid, all := 0, 0
	for seed := range 400 {
		d := dice(seed)
		list := piecesIn(d.rowInstructions(16))
		is(t, fmt.Sprint("valid ", list), isListOfPieces(t, list), true)
		for range 40 {
			other := slices.Clone(list)
			if len(other) == 0 {
				break
			}
			switch at := int(d.below(int64(len(list)))); d.below(5) {
			case 0:
				other[at].Kind = d.below(14)
			case 1:
				other[at].Times = d.below(19) - 1
			case 2:
				other[at].Length = d.below(6) - 1
			case 3:
				other = slices.Delete(other, at, at+1)
			default:
				other = slices.Insert(other, at, other[d.below(int64(len(list)))])
			}
			all++
			if isListOfPieces(t, other) {
				valid++
			}
		}
	}
	is(t, "enough lists", result(valid > 1000, all-valid > 1000), "[true true]")
}

// Each of these texts nearly is the text of pieces.
func TestTextsThatAreNoPieces(t *testing.T) {
	for _, s := range []string{
		" ", "  ", "k  p", " k", "k ", "  k", "k  ", "k p ", " k p", "( k)*2", "(k )*2", "( k )*2", "(k  p)*2", "(k)*2 ", " (k)*2", "(k) *2", "(k)* 2", "(k)*2  k", "k  (k)*2", "( )*2", "( )*", "k\tp", "k\np", "k\n", "\nk", "k\rp", "k\u00a0p",
		"k1", "k0", "k-1", "k+2", "k02", "k002", "k01", "k00", "k17", "k016", "k99", "k100", "k160", "k1 6", "k 2", "2k", "2", "16", "k2 2", "k999999999", "k1000000000", "k4294967298", "k18446744073709551618", "k" + strings.Repeat("0", 50) + "2", "k2.", "k2k", "k٢", "k２",
		"(k)*0", "(k)*00", "(k)*01", "(k)*02", "(k)*17", "(k)*-2", "(k)*+2", "(k)*100", "(k)*1000000000", "(k)*4294967298", "(k1)*2", "(k0)*2", "(k)*2k", "(k)*2p2",
		"()*2", "()*", "()", "k ()*2", "(()*2)*2", "(()*2 k)*2", "(k ()*2)*2", "(", ")", "*", ")*", ")*2", "(k", "(k p", "k)", "k)*", "k)*2", "(k)*2)*2", "((k)*2", "((k)*2 p", "(k)*2 )*2", "(k)*2 (", "(k)*2 )", "((k)*2)*2)*2", "k (p", "k p)*2", ")k(*2", "((k)*2", "(k)*2)",
		"(k)", "(k)2", "(k) p", "((k))*2", "((k))", "(k)2*", "(k)**", "(k)**2", "(k)*2*", "k*", "k*2", "*2", "k *2", "(k*)2", "(k*2)", "(k)*(p)*2", "(k)×2", "[k]*2", "{k}*2", "(k)*n", "(k)*k",
		"k(p)*2", "(p)*2k", "(k)*2(p)*2", "k2(p)*2", "(k(p)*2)*2", "((p)*2k)*2", "(k)*p", "((k)*2(p)*2)*2", "kp", "kk", "k2p", "kpk", "(kp)*2", "(k p)*2kp", "k,p", "k;p", "k.p", "k-p", "k+p",
		"K", "P", "q", "l", "z", "Z", "g", "knit", "k p q", "K2", "k P", "kp(o)*", "\x0c", "\x0c2", "12", "c",
		"\xff", "k\xff", "\xffk", "k \xff", "k2\xff", "(\xff)*2", "(k)*\xff", "(k)*2\xff", "k\xffp", "\xc3\x28", "é", "к", "ｋ", "k\u0301", "\u212a", "\ufffd", "k\x00", "\x00", "\x00k", "𝐤",
		"((((k)*2)*2)*2)*2", "((((k)*2)*2)*2)*", "(((((k)*2)*2)*2)*2)*2", "k ((((k)*2)*2)*2)*2", "(k)* (p)*", "((k)*)*", "((k)*)*2", "((k)* p)*2", "((k)*2 (p)*)*2",
		strings.TrimSpace(strings.Repeat("k ", 25)), "(" + strings.TrimSpace(strings.Repeat("k ", 24)) + ")*", strings.TrimSpace(strings.Repeat("(((k16)*16)*16)*16 ", 7)), strings.TrimSpace(strings.Repeat("(((k16)*16)*16)*16 ", 6)) + " k", strings.TrimSpace(strings.Repeat("(k)*2 ", 13)),
	} {
		is(t, fmt.Sprintf("pattern %q", s), isTextOfPieces(s), false)
		isReadLikePieces(t, s)
	}
}

// Texts that are longer than any valid one are not read, whatever they consist of, and no recursion follows them.
func TestTextsThatAreTooLong(t *testing.T) {
	for _, part := range []string{"k", "k ", " ", "(", ")", "*", ")*2", "(k)*2 ", "k16 ", "2", "\xff", "\x00", "(k", "k)*"} {
		for _, count := range []int{113, 114, 144, 145, 150, 5000, 1 << 20} {
			s := strings.Repeat(part, count)
			is(t, fmt.Sprintf("%d times %q", count, part), result(impl.ReadPieces(s)), "[[] false]")
			is(t, fmt.Sprintf("a stitch and %d times %q", count, part), result(impl.ExpandRow("k "+strings.TrimSpace(s), 1)), "[[] 11]")
		}
	}
	const deep = 20_000_000
	is(t, "many brackets", result(impl.ReadPieces(strings.Repeat("(", deep))), "[[] false]")
	is(t, "many brackets that are closed", result(impl.ReadPieces(strings.Repeat("(", deep)+"k"+strings.Repeat(")*2", deep))), "[[] false]")
	for depth := 1; depth < 200; depth++ {
		isReadLikePieces(t, strings.Repeat("(", depth)+"k"+strings.Repeat(")*2", depth))
		isReadLikePieces(t, strings.Repeat("(", depth)+"k"+strings.Repeat(")*", depth))
		isReadLikePieces(t, strings.Repeat("(", depth))
	}
}

// P17: all short texts over the bytes of the language.
func TestAllShortTextsOfPieces(t *testing.T) {
	read, all := 0, 0
	for text := range listsOver([]byte("k ()*12"), 6) {
		all++
		if isReadLikePieces(t, string(text)) {
			read++
		}
	}
	is(t, "enough texts", result(all > 130000, read > 30), "[true true]")
	for c := range 256 {
		for _, s := range []string{string([]byte{byte(c)}), string(rune(c))} {
			for _, text := range []string{s, "k" + s, s + "k", "k " + s, "k" + s + "p", "(" + s + ")*2", "(k)*" + s, "(k)" + s + "2", s + "k)*2", "(k)*2" + s, "(k)*2" + s + "k"} {
				isReadLikePieces(t, text)
			}
		}
	}
	for n := range 200 {
		for _, digits := range []string{fmt.Sprint(n), fmt.Sprintf("%02d", n), fmt.Sprintf("%03d", n), fmt.Sprint(-n)} {
			isReadLikePieces(t, "k"+digits)
			isReadLikePieces(t, "(k p)*"+digits+" k")
		}
	}
}

// P17: a text that differs a little is read only if it is the text of other pieces.
func TestTextsOfPiecesThatDifferALittle(t *testing.T) {
	for _, text := range []string{"k2 (p k)*3 o d", "k (p k)*", "(((k)*2 X)*16)* y12", "(k)*1 (p (o)*10)*", strings.TrimSpace(strings.Repeat("k ", 24))} {
		for _, s := range changedTexts(text) {
			isReadLikePieces(t, s)
		}
		for i := range len(text) + 1 {
			for _, c := range []string{"(", ")", "*", ")*", "(k", "k)*", "(k)*", "k ", " k", "7", "16", "17", "()*", "(o)* ", "Y"} {
				isReadLikePieces(t, text[:i]+c+text[i:])
				for k := i; k <= min(i+3, len(text)); k++ {
					isReadLikePieces(t, text[:i]+c+text[k:])
				}
			}
		}
	}
}

var (
	repeatedStitch = regexp.MustCompile(`([kpodetsxyXY])(\d+)`)
	innerGroup     = regexp.MustCompile(`\(([kpodetsxyXY]*)\)\*(\d*)`)
)

// symbolsMade writes out all repeats of a valid text; the open group is made open times.
func symbolsMade(text string, open int64) string {
	text = repeatedStitch.ReplaceAllStringFunc(text, func(s string) string { return strings.Repeat(s[:1], int(numberOr(s[1:], 1))) })
	text = strings.ReplaceAll(text, " ", "")
	for strings.Contains(text, "(") {
		text = innerGroup.ReplaceAllStringFunc(text, func(s string) string {
			end := strings.Index(s, ")")
			return strings.Repeat(s[1:end], int(numberOr(s[end+2:], open)))
		})
	}
	return text
}

// needByHand counts the columns of the symbols that a valid text makes.
func needByHand(text string) (int, int, bool) {
	never, _ := columnsByHand(symbolsMade(text, 0))
	once, _ := columnsByHand(symbolsMade(text, 1))
	return never, once - never, true
}

// expandedByHand tries all numbers of times, one after the other.
func expandedByHand(text string, columns int64) (string, int64) {
	if columns < 1 || columns > 8 {
		return "", impl.ErrRange
	}
	for times := range int64(9) {
		symbols := symbolsMade(text, times)
		if taken, _ := columnsByHand(symbols); int64(taken) != columns {
			continue
		}
		if len(symbols) > 16 {
			return "", impl.ErrFull
		}
		return symbols, impl.OK
	}
	return "", impl.ErrStitches
}

// isExpanded checks what becomes of the pieces with a valid text for some columns.
func isExpanded(t *testing.T, text string, columns int64) int64 {
	t.Helper()
	symbols, code := expandedByHand(text, columns)
	for name, got := range map[string][]any{"ExpandPieces": result(impl.ExpandPieces(piecesIn(text), columns)), "ExpandRow": result(impl.ExpandRow(text, columns))} {
		is(t, fmt.Sprintf("%s %q %d", name, text, columns), got, result(kindsIn(t, symbols), code))
	}
	if code == impl.OK {
		stitches, _ := impl.ExpandRow(text, columns)
		is(t, fmt.Sprintf("columns of %q", text), impl.TakenBy(stitches), columns)
	}
	return code
}

// expansion is what becomes of a text for some columns.
type expansion struct {
	text    string
	columns int64
	symbols string
	code    int64
}

// expandsTo compares with symbols that the tests write, and not only with those that they compute.
func expandsTo(t *testing.T, list ...expansion) {
	t.Helper()
	for _, x := range list {
		is(t, fmt.Sprintf("ExpandRow %q %d", x.text, x.columns), result(impl.ExpandRow(x.text, x.columns)), result(kindsIn(t, x.symbols), x.code))
		isExpanded(t, x.text, x.columns)
	}
}

func columnsOutside() []int64 {
	return []int64{math.MinInt64, math.MinInt64 + 1, -8, -1, 0, 9, 10, 1<<32 + 1, math.MaxInt64 - 1, math.MaxInt64}
}

func TestNeedOfPieces(t *testing.T) {
	for _, c := range []struct {
		text        string
		never, each int
	}{
		{"", 0, 0}, {"k", 1, 0}, {"o", 0, 0}, {"o16", 0, 0}, {"k16", 16, 0}, {"X16", 64, 0}, {"k p o d e t s x y X Y", 20, 0}, {"k2 (p k)*3 o d", 10, 0}, {"(k)*1", 1, 0}, {"(k2)*3", 6, 0}, {"(k2 (d3 o)*4)*5", 130, 0}, {"((k2)*3)*4", 24, 0}, {"(((k2)*3)*4)*5 d2", 124, 0},
		{"(k)*", 0, 1}, {"(o)*", 0, 0}, {"k (p k)*", 1, 2}, {"(k2)*", 0, 2}, {"d2 (k3)*", 4, 3}, {"(k)* p3", 3, 1}, {"k (X2 Y)* (p2)*3", 7, 12}, {"((k2)*3 o)*", 0, 6}, {"(((k2)*3 d)*4 o2)*", 0, 32}, {"(((k2)*3 d)*4 o2)* (((k2)*3 d)*4 o2)*2", 64, 32}, {"k3 ((o)*16 o16)*", 3, 0},
		{"(((X16)*16)*16)*16", 262144, 0}, {"(((X16)*16)*16)*", 0, 16384}, {strings.TrimSpace(strings.Repeat("(((X16)*16)*16)*16 ", 6)), 1572864, 0},
	} {
		is(t, "NeedOf "+c.text, result(impl.NeedOf(piecesIn(c.text))), result(c.never, c.each, true))
		is(t, "need by hand of "+c.text, result(needByHand(c.text)), result(c.never, c.each, true))
	}
	is(t, "no pieces", result(impl.NeedOf(nil)), "[0 0 true]")
	for _, text := range []string{"k17", "(k)*17", "(k)* (p)*", "((k)*)*2", "((((k)*2)*2)*2)*2", strings.Repeat("k ", 25)} {
		is(t, "NeedOf "+text, result(impl.NeedOf(piecesIn(text))), "[0 0 false]")
	}
}

func TestOpenGroups(t *testing.T) {
	expandsTo(t, []expansion{
		{"k (p k)*", 1, "k", impl.OK}, {"k (p k)*", 2, "", impl.ErrStitches}, {"k (p k)*", 3, "kpk", impl.OK}, {"k (p k)*", 4, "", impl.ErrStitches}, {"k (p k)*", 5, "kpkpk", impl.OK}, {"k (p k)*", 7, "kpkpkpk", impl.OK}, {"k (p k)*", 8, "", impl.ErrStitches},
		{"(k)*", 1, "k", impl.OK}, {"(k)*", 8, "kkkkkkkk", impl.OK}, {"(X)*", 4, "X", impl.OK}, {"(X)*", 8, "XX", impl.OK}, {"(X)*", 7, "", impl.ErrStitches}, {"(X)*", 3, "", impl.ErrStitches}, {"(X)*", 5, "", impl.ErrStitches}, {"k2 (X)*", 2, "kk", impl.OK}, {"k2 (X)*", 6, "kkX", impl.OK}, {"k2 (X)*", 5, "", impl.ErrStitches},
		{"k (p)* d", 3, "kd", impl.OK}, {"k (p)* d", 4, "kpd", impl.OK}, {"k (p)* d", 8, "kpppppd", impl.OK}, {"k (p)* d", 2, "", impl.ErrStitches}, {"k5 (p)*", 4, "", impl.ErrStitches}, {"k8 (p)*", 8, "kkkkkkkk", impl.OK}, {"k8 (p)*", 7, "", impl.ErrStitches}, {"k9 (p)*", 8, "", impl.ErrStitches},
		{"(k (p)*2 o)* s", 1, "s", impl.OK}, {"(k (p)*2 o)* s", 4, "kppos", impl.OK}, {"(k (p)*2 o)* s", 7, "kppokppos", impl.OK}, {"(k (p)*2 o)* s", 6, "", impl.ErrStitches}, {"((k)*3 p)*", 8, "kkkpkkkp", impl.OK}, {"(k9)*", 8, "", impl.ErrStitches}, {"k (p8)*", 8, "", impl.ErrStitches}, {"(k8)*", 8, "kkkkkkkk", impl.OK},
		{"k (o)*", 1, "k", impl.OK}, {"k (o)*", 2, "", impl.ErrStitches}, {"(o)*", 1, "", impl.ErrStitches}, {"(o)* k2", 2, "kk", impl.OK}, {"(o16)* k2", 2, "kk", impl.OK}, {"(o16)* k2", 1, "", impl.ErrStitches}, {"k (((o16)*16)*16)*", 1, "k", impl.OK}, {"k (((o16)*16)*16)*", 2, "", impl.ErrStitches}, {"k ((k o16)*16)*", 1, "k", impl.OK}, {"k (((X16)*16)*16)*", 1, "k", impl.OK}, {"k (((X16)*16)*16)*", 5, "", impl.ErrStitches},
		{"", 1, "", impl.ErrStitches}, {"o", 1, "", impl.ErrStitches}, {"k", 1, "k", impl.OK}, {"k", 2, "", impl.ErrStitches}, {"k2", 1, "", impl.ErrStitches}, {"k8", 8, "kkkkkkkk", impl.OK}, {"(k)*1", 1, "k", impl.OK}, {"(k)*8", 8, "kkkkkkkk", impl.OK}, {"((d o)*2)*2", 8, "dodododo", impl.OK}, {"(((k p)*2 o)*1 X)*1", 8, "kpkpoX", impl.OK},
	}...)
}

func TestColumnsOutsideTheLimits(t *testing.T) {
	for _, columns := range columnsOutside() {
		for _, text := range []string{"", "k", "k9", "k10", "(k)*", "(X)*", "o", "o16 o16", "k (o16)*", "k9 (o)*", "k (((o16)*16)*16)*16"} {
			is(t, fmt.Sprintf("ExpandRow %q %d", text, columns), isExpanded(t, text, columns), impl.ErrRange)
		}
		for _, text := range []string{"k1", " ", "k  p", "(k", "(k)* (p)*", "k17"} {
			is(t, fmt.Sprintf("ExpandRow %q %d", text, columns), result(impl.ExpandRow(text, columns)), "[[] 11]")
		}
		is(t, fmt.Sprint("ExpandPieces ", columns), result(impl.ExpandPieces(piecesIn("k17"), columns)), "[[] 1]")
	}
	for columns := int64(1); columns <= 8; columns++ {
		symbols := strings.Repeat("k", int(columns))
		expandsTo(t, expansion{"(k)*", columns, symbols, impl.OK}, expansion{runsByHand(symbols), columns, symbols, impl.OK})
		is(t, fmt.Sprint("no text ", columns), result(impl.ExpandRow("k1", columns)), "[[] 11]")
		is(t, fmt.Sprint("no pieces ", columns), result(impl.ExpandPieces(nil, columns)), "[[] 10]")
	}
}

// ErrStitches comes before ErrFull, and stitches are counted and not made where there are too many.
func TestTooManyStitches(t *testing.T) {
	expandsTo(t, []expansion{
		{"o15 k", 1, strings.Repeat("o", 15) + "k", impl.OK}, {"o16 k", 1, "", impl.ErrFull}, {"o8 k8", 8, "ooooooookkkkkkkk", impl.OK}, {"o9 k8", 8, "", impl.ErrFull}, {"(o)*15 k", 1, strings.Repeat("o", 15) + "k", impl.OK}, {"(o)*16 k", 1, "", impl.ErrFull}, {"(o k)*", 8, "okokokokokokokok", impl.OK}, {"(o k)* o", 8, "", impl.ErrFull}, {"(o k)* o", 7, "okokokokokokoko", impl.OK},
		{"(o2 k)*", 8, "", impl.ErrFull}, {"(o2 k)*", 5, "ookookookookook", impl.OK}, {"(o2 k)*", 6, "", impl.ErrFull}, {"(o16 k)*", 1, "", impl.ErrFull}, {"(o15 k)*", 1, strings.Repeat("o", 15) + "k", impl.OK}, {"(o15 k)*", 2, "", impl.ErrFull}, {"o16 k (p)*", 1, "", impl.ErrFull}, {"(o3 d)*4", 8, "ooodooodooodoood", impl.OK}, {"(o3 d)*4 o", 8, "", impl.ErrFull},
		{"(((o16)*16)*16)*16 k", 1, "", impl.ErrFull}, {"(((o16)*16)*16)* k", 1, "k", impl.OK}, {"k ((o)*4)*4", 1, "", impl.ErrFull}, {"k ((o)*3)*5", 1, "k" + strings.Repeat("o", 15), impl.OK}, {"k ((o2)*2)*4", 1, "", impl.ErrFull}, {"k (((o16)*16)*16)*16 (((o16)*16)*16)*16 (((o16)*16)*16)*16 (((o16)*16)*16)*16 (((o16)*16)*16)*16", 1, "", impl.ErrFull},
		{"o16 k", 2, "", impl.ErrStitches}, {"o16 o16", 1, "", impl.ErrStitches}, {"o16 o (d)*", 1, "", impl.ErrStitches}, {"(((o16)*16)*16)*16 k", 2, "", impl.ErrStitches}, {"k16 k", 8, "", impl.ErrStitches}, {"(o16 d)*", 3, "", impl.ErrStitches},
	}...)
}

// P17: many lists are expanded for all numbers of columns, and every code comes up.
func TestManyExpandedRows(t *testing.T) {
	codes := map[int64]int{}
	for seed := range 3000 {
		d := dice(seed)
		text := d.rowInstructions(1 + int64(seed%4))
		is(t, "NeedOf "+text, result(impl.NeedOf(piecesIn(text))), result(needByHand(text)))
		for columns := int64(-1); columns <= 10; columns++ {
			codes[isExpanded(t, text, columns)]++
		}
	}
	is(t, "enough of each code", result(codes[impl.OK] > 1000, codes[impl.ErrRange] > 1000, codes[impl.ErrStitches] > 1000, codes[impl.ErrFull] > 50, len(codes)), "[true true true true 4]")
}

// runsByHand is the text of symbols without groups.
func runsByHand(symbols string) string {
	texts := []string{}
	for rest := symbols; rest != ""; {
		n := len(rest) - len(strings.TrimLeft(rest, rest[:1]))
		text := rest[:1]
		if n > 1 {
			text += fmt.Sprint(n)
		}
		texts = append(texts, text)
		rest = rest[n:]
	}
	return strings.Join(texts, " ")
}

// shortByHand compares the texts for all parts of symbols that consist of equal parts.
func shortByHand(symbols string) string {
	best := runsByHand(symbols)
	for to := range len(symbols) + 1 {
		for from := range to {
			for n := 2; n <= to-from; n++ {
				part := symbols[from : from+(to-from)/n]
				if strings.Repeat(part, n) != symbols[from:to] {
					continue
				}
				text := strings.TrimSpace(fmt.Sprintf("%s (%s)*%d %s", runsByHand(symbols[:from]), runsByHand(part), n, runsByHand(symbols[to:])))
				if len(text) < len(best) || len(text) == len(best) && text < best {
					best = text
				}
			}
		}
	}
	return best
}

// isWritten checks the pieces and both texts of stitches, and that these are restored from the texts.
func isWritten(t *testing.T, symbols string) {
	t.Helper()
	list := kindsIn(t, symbols)
	plain, short := impl.RowText(list), impl.ShortRow(list)
	is(t, "CompressRow "+symbols, impl.CompressRow(list), piecesIn(runsByHand(symbols)))
	is(t, "RowText "+symbols, plain, runsByHand(symbols))
	is(t, "ShortRow "+symbols, short, shortByHand(symbols))
	is(t, "text no longer than the other one "+symbols, len(short) <= len(plain), true)
	columns, _ := columnsByHand(symbols)
	for _, text := range []string{plain, short} {
		is(t, "written out "+text, symbolsMade(text, 0), symbols)
		want := result(list, impl.OK)
		if columns < 1 || columns > 8 {
			want = result([]int64{}, impl.ErrRange)
		}
		is(t, "ExpandRow "+text, result(impl.ExpandRow(text, int64(columns))), want)
		is(t, "PiecesText of ReadPieces "+text, isReadLikePieces(t, text), true)
	}
}

func TestCompressedRows(t *testing.T) {
	is(t, "no stitches", result(impl.CompressRow(nil), impl.CompressRow([]int64{})), "[[] []]")
	is(t, "three and two", impl.CompressRow(kindsIn(t, "kkkpp")), "[{1 3 0} {2 2 0}]")
	is(t, "a stitch again", impl.CompressRow(kindsIn(t, "kpkk")), "[{1 1 0} {2 1 0} {1 2 0}]")
	for n := 1; n <= 16; n++ {
		for kind := int64(1); kind <= 11; kind++ {
			is(t, fmt.Sprint(n, " of ", kind), impl.CompressRow(copiesOf(kind, n)), []impl.Piece{stitchTimes(kind, int64(n))})
		}
		isWritten(t, strings.Repeat("k", n))
		isWritten(t, strings.Repeat("k", n-1)+"p"+strings.Repeat("k", 16-n))
	}
	is(t, "all kinds", impl.CompressRow(rising(12)[1:]), piecesIn("k p o d e t s x y X Y"))
	// The last list is so long that its parts are not to be compared.
	for _, list := range append(notStitches(), copiesOf(1, 1<<20)) {
		is(t, fmt.Sprint("no stitches ", list[:min(len(list), 17)]), fmt.Sprintf("%v %t %q %q", impl.CompressRow(list), impl.CompressRow(list) == nil, impl.RowText(list), impl.ShortRow(list)), `[] true "" ""`)
	}
}

func TestShortRows(t *testing.T) {
	for symbols, want := range map[string]string{
		"": "", "k": "k", "Y": "Y", "kk": "k2", "kkk": "k3", strings.Repeat("k", 9): "k9", strings.Repeat("k", 10): "k10", strings.Repeat("k", 16): "k16", strings.Repeat("X", 16): "X16", "kp": "k p", "kkp": "k2 p", "kpp": "k p2",
		"kpkp": "(k p)*2", "kpkpk": "(k p)*2 k", "kpkpkpk": "(k p)*3 k", "kpkpkp": "(k p)*3", strings.Repeat("kp", 8): "(k p)*8", "tkpkpk": "t (k p)*2 k", "tkpkp": "t (k p)*2", "kpkpt": "(k p)*2 t", "tkpkpt": "t (k p)*2 t", "kpkptsts": "(k p)*2 t s t s", "kptkptk": "(k p t)*2 k", "kpkpxkpkp": "(k p)*2 x k p k p",
		"pkkpkk": "(p k2)*2", "kkpkkp": "(k2 p)*2", "kkpkk": "k2 p k2", "kkppkkpp": "(k2 p2)*2", "kkpkkpkk": "(k2 p)*2 k2", "XpXpX": "(X p)*2 X", "pXpXp": "(p X)*2 p", "kpkpkk": "(k p)*2 k2", "kkpkp": "k2 p k p", "kkpkpkp": "k (k p)*3", "kpkpp": "k p k p2", "kpkpkpp": "(k p)*3 p", "XXpXpXp": "X (X p)*3", "kkkpkpkp": "k2 (k p)*3",
		"koookoookooo": "(k o3)*3", "kpdkpdkpdkpdkpdk": "(k p d)*5 k", "k" + strings.Repeat("pt", 7) + "k": "k (p t)*7 k", strings.Repeat("kpkd", 4): "(k p k d)*4", strings.Repeat("kpkpd", 3): "(k p k p d)*3", strings.Repeat("kpodetsx", 2): "(k p o d e t s x)*2",
		"kpodetsxyXYkpode": "k p o d e t s x y X Y k p o d e", "kpodetkpodet": "(k p o d e t)*2", "kpotttttttttttto": "k p o t12 o", "pkpk": "(p k)*2", "pkpkp": "(p k)*2 p", "ppkppkppkppkppkp": "(p2 k)*5 p",
	} {
		is(t, "ShortRow "+symbols, impl.ShortRow(kindsIn(t, symbols)), want)
		isWritten(t, symbols)
	}
}

// P17: all rows of few stitches of two and three kinds.
func TestTextsOfAllShortRows(t *testing.T) {
	for list := range listsOver([]byte("kp"), 10) {
		isWritten(t, string(list))
	}
	for list := range listsOver([]byte("kXo"), 6) {
		isWritten(t, string(list))
	}
}

// P17: long rows, many of which repeat a part.
func TestTextsOfManyRows(t *testing.T) {
	grouped := 0
	for seed := range 1500 {
		d := dice(seed)
		throw := func(length int64) string {
			text := ""
			for range length {
				text += string("kkpodetsxyXYkkp"[d.below(15)])
			}
			return text
		}
		symbols := throw(d.below(5)) + strings.Repeat(throw(1+d.below(6)), 1+int(d.below(7))) + throw(d.below(5))
		symbols = symbols[:min(len(symbols), 16)]
		isWritten(t, symbols)
		if strings.Contains(impl.ShortRow(kindsIn(t, symbols)), "(") {
			grouped++
		}
	}
	is(t, "enough groups", grouped > 300, true)
}
