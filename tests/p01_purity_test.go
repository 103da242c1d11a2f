package tests

import (
	"fmt"
	"math"
	"slices"
	"strings"
	"sync"
	"testing"

	"loop.example/g00856/impl"
)

// listCalls are calls of all functions that have slices as arguments.
func listCalls() map[string]func(a, b []int64) []any {
	return map[string]func(a, b []int64) []any{
		"ValidPermutation":    func(a, _ []int64) []any { return result(impl.ValidPermutation(a)) },
		"ComposePermutations": func(a, b []int64) []any { return result(impl.ComposePermutations(a, b)) },
		"InvertPermutation":   func(a, _ []int64) []any { return result(impl.InvertPermutation(a)) },
		"InversionsOf":        func(a, _ []int64) []any { return result(impl.InversionsOf(a)) },
		"DescentsOf":          func(a, _ []int64) []any { return result(impl.DescentsOf(a)) },
		"ReducedWord":         func(a, _ []int64) []any { return result(impl.ReducedWord(a)) },
		"PermutationOfWord":   func(a, b []int64) []any { return result(impl.PermutationOfWord(int64(len(b)), a)) },
		"MeetPermutations":    func(a, b []int64) []any { return result(impl.MeetPermutations(a, b)) },
		"JoinPermutations":    func(a, b []int64) []any { return result(impl.JoinPermutations(a, b)) },
		"RankOf":              func(a, _ []int64) []any { return result(impl.RankOf(a)) },
		"StartLetters":        func(a, _ []int64) []any { return result(impl.StartLetters(a)) },
		"FinishLetters":       func(a, _ []int64) []any { return result(impl.FinishLetters(a)) },
		"FlipPermutation":     func(a, _ []int64) []any { return result(impl.FlipPermutation(a)) },
		"PermutationBraid":    func(a, _ []int64) []any { return result(impl.PermutationBraid(a)) },
		"LeftWeighted":        func(a, b []int64) []any { return result(impl.LeftWeighted(a, b)) },
		"ValidFree":           func(a, b []int64) []any { return result(impl.ValidFree(freeSize(b), a)) },
		"FreeReduce":          func(a, b []int64) []any { return result(impl.FreeReduce(freeSize(b), a)) },
		"FreeInverse":         func(a, b []int64) []any { return result(impl.FreeInverse(freeSize(b), a)) },
		"FreeJoin":            func(a, b []int64) []any { return result(impl.FreeJoin(3, a, b)) },
		"FreeCore":            func(a, b []int64) []any { return result(impl.FreeCore(freeSize(b), a)) },
		"FreeText":            func(a, b []int64) []any { return result(impl.FreeText(freeSize(b), a)) },
		"StitchesText":        func(a, _ []int64) []any { return result(impl.StitchesText(a)) },
		"TakenBy":             func(a, _ []int64) []any { return result(impl.TakenBy(a)) },
		"MadeBy":              func(a, _ []int64) []any { return result(impl.MadeBy(a)) },
		"StacksAfter":         func(a, b []int64) []any { return result(impl.StacksAfter(a, b)) },
		"ValidRow":            func(a, _ []int64) []any { return result(impl.ValidRow(impl.Row{Dir: 1, Carrier: 1, Stitches: a})) },
		"CompressRow":         func(a, _ []int64) []any { return result(impl.CompressRow(a)) },
		"RowText":             func(a, _ []int64) []any { return result(impl.RowText(a)) },
		"ShortRow":            func(a, _ []int64) []any { return result(impl.ShortRow(a)) },
		"ValidSizes":          func(a, _ []int64) []any { return result(impl.ValidSizes(a)) },
		"ColumnAt":            func(a, b []int64) []any { return result(impl.ColumnAt(a, int64(len(b)))) },
		"FirstOf":             func(a, b []int64) []any { return result(impl.FirstOf(a, int64(len(b)))) },
		"YarnOrder":           func(a, _ []int64) []any { return result(impl.YarnOrder(impl.Row{Dir: -1, Carrier: 1, Stitches: a})) },
		"HandRow": func(a, b []int64) []any {
			return result(impl.HandRow(impl.Row{Dir: 1, Carrier: 1, Stitches: a}, b))
		},
		"RowLetters":         func(a, _ []int64) []any { return result(impl.RowLetters(impl.Row{Dir: 1, Carrier: 1, Stitches: a})) },
		"RowBraid":           func(a, b []int64) []any { return result(impl.RowBraid(impl.Row{Dir: 1, Carrier: 1, Stitches: a}, b)) },
		"RowOfLetters":       func(a, b []int64) []any { return result(impl.RowOfLetters(int64(len(b)), a, 1, 1)) },
		"ChartOfPermutation": func(a, b []int64) []any { return result(impl.ChartOfPermutation(a, int64(len(b)))) },
		"RowTargets":         func(a, _ []int64) []any { return result(impl.RowTargets(impl.Row{Dir: 1, Carrier: 1, Stitches: a})) },
		"RowSources":         func(a, _ []int64) []any { return result(impl.RowSources(impl.Row{Dir: 1, Carrier: 1, Stitches: a})) },
		"RowResults":         func(a, _ []int64) []any { return result(impl.RowResults(impl.Row{Dir: -1, Carrier: 1, Stitches: a})) },
		"NewColumns":         func(a, _ []int64) []any { return result(impl.NewColumns(impl.Row{Dir: 1, Carrier: 4, Stitches: a})) },
		"ValidPlaces":        func(a, _ []int64) []any { return result(impl.ValidPlaces(a)) },
		"PlanMoves":          func(a, b []int64) []any { return result(impl.PlanMoves(a, b)) },
		"ApplyMove":          func(a, b []int64) []any { return result(impl.ApplyMove(a, move(int64(len(a)), int64(len(b))))) },
		"MoveColumns":        func(a, b []int64) []any { return result(impl.MoveColumns(a, b)) },
		"PlaceColumns":       func(a, b []int64) []any { return result(impl.PlaceColumns(a, int64(len(b)))) },
		"CheckCrossing": func(a, b []int64) []any {
			return result(impl.CheckCrossing(a, b, moveAndBack(), braid(int64(len(a)))))
		},
	}
}

// moveAndBack are operations of a column on the front needle 1, which crosses no other one.
func moveAndBack() []impl.Op {
	return []impl.Op{xferOp(onFront(1), onBack(1)), rackOp(-1), xferOp(onBack(1), onFront(0)), xferOp(onFront(0), onBack(1)), rackOp(0), xferOp(onBack(1), onFront(1))}
}

// freeSize makes a number of generators of a list, from one that is too small to one that is too great.
func freeSize(list []int64) int64 { return min(int64(len(list)), 14) - 1 }

// numberCalls are calls of all functions that have only numbers and texts as arguments.
func numberCalls() map[string]func(n, k int64, s string) []any {
	return map[string]func(n, k int64, s string) []any{
		"CodeName":            func(n, _ int64, _ string) []any { return result(impl.CodeName(n)) },
		"IsName":              func(_, _ int64, s string) []any { return result(impl.IsName(s)) },
		"Decimal":             func(n, _ int64, _ string) []any { return result(impl.Decimal(n)) },
		"ReadDecimal":         func(_, _ int64, s string) []any { return result(impl.ReadDecimal(s)) },
		"ValidNeedle":         func(n, k int64, _ string) []any { return result(impl.ValidNeedle(impl.Needle{Bed: n, At: k})) },
		"OtherBed":            func(n, _ int64, _ string) []any { return result(impl.OtherBed(n)) },
		"NeedleText":          func(n, k int64, _ string) []any { return result(impl.NeedleText(impl.Needle{Bed: n, At: k})) },
		"ReadNeedle":          func(_, _ int64, s string) []any { return result(impl.ReadNeedle(s)) },
		"SplitWords":          func(_, _ int64, s string) []any { return result(impl.SplitWords(s)) },
		"IdentityPermutation": func(n, _ int64, _ string) []any { return result(impl.IdentityPermutation(n)) },
		"ReadBraid":           func(_, _ int64, s string) []any { return result(impl.ReadBraid(s)) },
		"HalfTwist":           func(n, _ int64, _ string) []any { return result(impl.HalfTwist(n)) },
		"PermutationAt":       func(n, k int64, _ string) []any { return result(impl.PermutationAt(n, k)) },
		"ReadFree":            func(n, _ int64, s string) []any { return result(impl.ReadFree(n, s)) },
		"NewMachine":          func(n, _ int64, _ string) []any { return result(impl.NewMachine(n)) },
		"ValidOp":             func(n, k int64, _ string) []any { return result(impl.ValidOp(impl.Op{Kind: n, Rack: k, Carrier: n})) },
		"OpText":              func(n, k int64, _ string) []any { return result(impl.OpText(impl.Op{Kind: n, Dir: k, Carrier: k})) },
		"ReadOp":              func(_, _ int64, s string) []any { return result(impl.ReadOp(s)) },
		"ReadProgram":         func(_, _ int64, s string) []any { return result(impl.ReadProgram(s)) },
		"ValidPass":           func(n, k int64, _ string) []any { return result(impl.ValidPass(passOfNumbers(n, k))) },
		"PassText":            func(n, k int64, _ string) []any { return result(impl.PassText(passOfNumbers(n, k))) },
		"EventText":           func(n, k int64, _ string) []any { return result(impl.EventText(eventOfNumbers(n, k))) },
		"ReadEvent":           func(_, _ int64, s string) []any { return result(impl.ReadEvent(s)) },
		"ColumnsTaken":        func(n, _ int64, _ string) []any { return result(impl.ColumnsTaken(n)) },
		"ColumnsMade":         func(n, _ int64, _ string) []any { return result(impl.ColumnsMade(n)) },
		"SymbolOf":            func(n, _ int64, _ string) []any { return result(impl.SymbolOf(n)) },
		"KindOf":              func(_, _ int64, s string) []any { return result(impl.KindOf(s)) },
		"MirrorStitch":        func(n, _ int64, _ string) []any { return result(impl.MirrorStitch(n)) },
		"ReadStitches":        func(_, _ int64, s string) []any { return result(impl.ReadStitches(s)) },
		"ReadChart":           func(_, _ int64, s string) []any { return result(impl.ReadChart(s)) },
		"ReadPieces":          func(_, _ int64, s string) []any { return result(impl.ReadPieces(s)) },
		"ExpandRow":           func(n, _ int64, s string) []any { return result(impl.ExpandRow(s, n)) },
		"HandCastOn":          func(n, k int64, _ string) []any { return result(impl.HandCastOn(n, k)) },
		"ReadColours":         func(_, _ int64, s string) []any { return result(impl.ReadColours(s)) },
		"NeedleOfColumn":      func(n, _ int64, _ string) []any { return result(impl.NeedleOfColumn(n)) },
		"ColumnOfNeedle":      func(n, _ int64, _ string) []any { return result(impl.ColumnOfNeedle(n)) },
		"MoveOps":             func(n, k int64, _ string) []any { return result(impl.MoveOps(move(n, k))) },
		"CrossColumns":        func(n, k int64, _ string) []any { return result(impl.CrossColumns(n, k > 0)) },
		"RackOps":             func(n, k int64, _ string) []any { return result(impl.RackOps(n, k)) },
		"SwapLetters":         func(n, k int64, _ string) []any { return result(impl.SwapLetters(n, k, 2, n > k)) },
	}
}

// braidCalls are calls of all functions that have braids as arguments.
func braidCalls() map[string]func(a, b impl.Braid, sizes []int64) []any {
	return map[string]func(a, b impl.Braid, sizes []int64) []any{
		"ValidBraid":       func(a, _ impl.Braid, _ []int64) []any { return result(impl.ValidBraid(a)) },
		"SameBraid":        func(a, b impl.Braid, _ []int64) []any { return result(impl.SameBraid(a, b)) },
		"ReduceBraid":      func(a, _ impl.Braid, _ []int64) []any { return result(impl.ReduceBraid(a)) },
		"InvertBraid":      func(a, _ impl.Braid, _ []int64) []any { return result(impl.InvertBraid(a)) },
		"JoinBraids":       func(a, b impl.Braid, _ []int64) []any { return result(impl.JoinBraids(a, b)) },
		"ExponentSum":      func(a, _ impl.Braid, _ []int64) []any { return result(impl.ExponentSum(a)) },
		"BraidPermutation": func(a, _ impl.Braid, _ []int64) []any { return result(impl.BraidPermutation(a)) },
		"MirrorBraid":      func(a, _ impl.Braid, _ []int64) []any { return result(impl.MirrorBraid(a)) },
		"DoubleBraid":      func(a, _ impl.Braid, sizes []int64) []any { return result(impl.DoubleBraid(a, sizes)) },
		"WidenBraid":       func(a, b impl.Braid, _ []int64) []any { return result(impl.WidenBraid(a, b.Strands, 0)) },
		"BraidText":        func(a, _ impl.Braid, _ []int64) []any { return result(impl.BraidText(a)) },
		"NormalForm":       func(a, _ impl.Braid, _ []int64) []any { return result(impl.NormalForm(a)) },
		"EqualBraids":      func(a, b impl.Braid, _ []int64) []any { return result(impl.EqualBraids(a, b)) },
		"IsTrivial":        func(a, _ impl.Braid, _ []int64) []any { return result(impl.IsTrivial(a)) },
		"ArtinAction":      func(a, _ impl.Braid, _ []int64) []any { return result(impl.ArtinAction(a)) },
		"ArtinEqual":       func(a, b impl.Braid, _ []int64) []any { return result(impl.ArtinEqual(a, b)) },
		"BraidEvents":      func(a, _ impl.Braid, _ []int64) []any { return result(impl.BraidEvents(a)) },
		"PackLetters":      func(a, _ impl.Braid, _ []int64) []any { return result(impl.PackLetters(a)) },
		"ChartOfBraid":     func(a, _ impl.Braid, sizes []int64) []any { return result(impl.ChartOfBraid(a, int64(len(sizes)))) },
		"IsHandle":         func(a, _ impl.Braid, sizes []int64) []any { return result(impl.IsHandle(a, handle(0, len(sizes)))) },
		"FirstHandle":      func(a, _ impl.Braid, _ []int64) []any { return result(impl.FirstHandle(a)) },
		"ReduceHandle":     func(a, _ impl.Braid, sizes []int64) []any { return result(impl.ReduceHandle(a, handle(0, len(sizes)))) },
		"HandleForm":       func(a, _ impl.Braid, sizes []int64) []any { return result(impl.HandleForm(a, int64(len(sizes)))) },
		"MainLetter":       func(a, _ impl.Braid, _ []int64) []any { return result(impl.MainLetter(a)) },
		"HandleTrivial":    func(a, _ impl.Braid, sizes []int64) []any { return result(impl.HandleTrivial(a, int64(len(sizes)))) },
		"HandleEqual":      func(a, b impl.Braid, sizes []int64) []any { return result(impl.HandleEqual(a, b, int64(len(sizes)*9))) },
		"SignOfBraid":      func(a, _ impl.Braid, sizes []int64) []any { return result(impl.SignOfBraid(a, int64(len(sizes)))) },
		"CrossOps":         func(a, _ impl.Braid, sizes []int64) []any { return result(impl.CrossOps(int64(len(sizes)), a)) },
		"ColumnBraid":      func(a, _ impl.Braid, sizes []int64) []any { return result(impl.ColumnBraid(a, sizes)) },
		"CheckCrossing": func(a, _ impl.Braid, sizes []int64) []any {
			return result(impl.CheckCrossing(everySecond(1, len(sizes)), sizes, moveAndBack(), a))
		},
		"CompareBraids": func(a, b impl.Braid, sizes []int64) []any {
			return result(impl.CompareBraids(a, b, int64(len(sizes)*9)))
		},
	}
}

// imagesCalls are calls of all functions that have images as arguments.
func imagesCalls() map[string]func(images [][]int64, word []int64) []any {
	return map[string]func(images [][]int64, word []int64) []any{
		"ApplyAction":       func(images [][]int64, word []int64) []any { return result(impl.ApplyAction(images, word)) },
		"IsAction":          func(images [][]int64, _ []int64) []any { return result(impl.IsAction(images)) },
		"ActionPermutation": func(images [][]int64, _ []int64) []any { return result(impl.ActionPermutation(images)) },
	}
}

// normalCalls are calls of all functions that have normal forms as arguments.
func normalCalls() map[string]func(a, b impl.NormalBraid) []any {
	return map[string]func(a, b impl.NormalBraid) []any{
		"ValidNormal":   func(a, _ impl.NormalBraid) []any { return result(impl.ValidNormal(a)) },
		"SameNormal":    func(a, b impl.NormalBraid) []any { return result(impl.SameNormal(a, b)) },
		"BraidOfNormal": func(a, _ impl.NormalBraid) []any { return result(impl.BraidOfNormal(a)) },
		"JoinNormals":   func(a, b impl.NormalBraid) []any { return result(impl.JoinNormals(a, b)) },
	}
}

// machineCalls are calls of all functions that have states of the machine as arguments.
func machineCalls() map[string]func(a, b impl.Machine, n impl.Needle, o impl.Op) []any {
	return map[string]func(a, b impl.Machine, n impl.Needle, o impl.Op) []any{
		"ValidMachine": func(a, _ impl.Machine, _ impl.Needle, _ impl.Op) []any { return result(impl.ValidMachine(a)) },
		"SameMachine":  func(a, b impl.Machine, _ impl.Needle, _ impl.Op) []any { return result(impl.SameMachine(a, b)) },
		"PlaceOf":      func(a, _ impl.Machine, n impl.Needle, _ impl.Op) []any { return result(impl.PlaceOf(a, n)) },
		"FacingOf":     func(a, _ impl.Machine, n impl.Needle, _ impl.Op) []any { return result(impl.FacingOf(a, n)) },
		"LoopsOn":      func(a, _ impl.Machine, n impl.Needle, _ impl.Op) []any { return result(impl.LoopsOn(a, n)) },
		"LiveLoops":    func(a, _ impl.Machine, _ impl.Needle, _ impl.Op) []any { return result(impl.LiveLoops(a)) },
		"StepMachine":  func(a, _ impl.Machine, _ impl.Needle, o impl.Op) []any { return result(impl.StepMachine(a, o)) },
		"OpEvents":     func(a, _ impl.Machine, _ impl.Needle, o impl.Op) []any { return result(impl.OpEvents(a, o)) },
		"RackEvents":   func(a, _ impl.Machine, _ impl.Needle, o impl.Op) []any { return result(impl.RackEvents(a, o.Rack)) },
	}
}

// fabricCalls are calls of all functions that have a state of the machine and at most one number as arguments.
func fabricCalls() map[string]func(m impl.Machine, n int64) []any {
	return map[string]func(m impl.Machine, n int64) []any{
		"LoopState":      func(m impl.Machine, n int64) []any { return result(impl.LoopState(m, n)) },
		"ChildrenOf":     func(m impl.Machine, n int64) []any { return result(impl.ChildrenOf(m, n)) },
		"YarnOf":         func(m impl.Machine, n int64) []any { return result(impl.YarnOf(m, n)) },
		"YarnNeighbours": func(m impl.Machine, n int64) []any { return result(impl.YarnNeighbours(m, n)) },
		"CourseOf":       func(m impl.Machine, n int64) []any { return result(impl.CourseOf(m, n)) },
		"WaleOf":         func(m impl.Machine, n int64) []any { return result(impl.WaleOf(m, n)) },
		"WalesOf":        func(m impl.Machine, _ int64) []any { return result(impl.WalesOf(m)) },
		"FabricCounts":   func(m impl.Machine, _ int64) []any { return result(impl.FabricCounts(m)) },
		"LoopsText":      func(m impl.Machine, _ int64) []any { return result(impl.LoopsText(m)) },
		"Undone":         func(m impl.Machine, _ int64) []any { return result(impl.Undone(m)) },
		"IsSecure":       func(m impl.Machine, _ int64) []any { return result(impl.IsSecure(m)) },
		"RunOf":          func(m impl.Machine, n int64) []any { return result(impl.RunOf(m, n)) },
		"LadderOf":       func(m impl.Machine, n int64) []any { return result(impl.LadderOf(m, n)) },
		"WeakLoops":      func(m impl.Machine, _ int64) []any { return result(impl.WeakLoops(m)) },
		"Unknit":         func(m impl.Machine, _ int64) []any { return result(impl.Unknit(m)) },
		"UnknitTo":       func(m impl.Machine, n int64) []any { return result(impl.UnknitTo(m, n)) },
	}
}

// eventsCalls are calls of all functions that have lists of events as arguments.
func eventsCalls() map[string]func(a, b []impl.Event, strands int64) []any {
	return map[string]func(a, b []impl.Event, strands int64) []any{
		"ValidEvents":     func(a, _ []impl.Event, _ int64) []any { return result(impl.ValidEvents(a)) },
		"SameEvents":      func(a, b []impl.Event, _ int64) []any { return result(impl.SameEvents(a, b)) },
		"StrandsOf":       func(a, _ []impl.Event, _ int64) []any { return result(impl.StrandsOf(a)) },
		"StitchesOf":      func(a, _ []impl.Event, _ int64) []any { return result(impl.StitchesOf(a)) },
		"CrossingBraid":   func(a, _ []impl.Event, strands int64) []any { return result(impl.CrossingBraid(strands, a)) },
		"BlocksOf":        func(a, _ []impl.Event, _ int64) []any { return result(impl.BlocksOf(a)) },
		"SameFabric":      func(a, b []impl.Event, _ int64) []any { return result(impl.SameFabric(a, b)) },
		"FirstDifference": func(a, b []impl.Event, _ int64) []any { return result(impl.FirstDifference(a, b)) },
		"MirrorEvents":    func(a, _ []impl.Event, _ int64) []any { return result(impl.MirrorEvents(a)) },
		"ReduceEvents":    func(a, _ []impl.Event, _ int64) []any { return result(impl.ReduceEvents(a)) },
		"FabricText":      func(a, _ []impl.Event, _ int64) []any { return result(impl.FabricText(a)) },
		"EventCounts":     func(a, _ []impl.Event, _ int64) []any { return result(impl.EventCounts(a)) },
	}
}

// blocksCalls are calls of all functions that have blocks as arguments. EqualBlocks is called for the blocks with the same numbers.
func blocksCalls() map[string]func(a, b []impl.Block) []any {
	return map[string]func(a, b []impl.Block) []any{
		"EventsOfBlocks": func(a, _ []impl.Block) []any { return result(impl.EventsOfBlocks(a)) },
		"SameBlocks":     func(a, b []impl.Block) []any { return result(impl.SameBlocks(a, b)) },
		"EqualBlocks": func(a, b []impl.Block) []any {
			values := []any{}
			for i := range min(len(a), len(b)) {
				values = append(values, impl.EqualBlocks(a[i], b[i]))
			}
			return values
		},
	}
}

// chartCalls are calls of all functions that have charts as arguments.
func chartCalls() map[string]func(a, b impl.Chart, n int64) []any {
	return map[string]func(a, b impl.Chart, n int64) []any{
		"ValidChart":   func(a, _ impl.Chart, _ int64) []any { return result(impl.ValidChart(a)) },
		"SameChart":    func(a, b impl.Chart, _ int64) []any { return result(impl.SameChart(a, b)) },
		"ColumnsAfter": func(a, _ impl.Chart, _ int64) []any { return result(impl.ColumnsAfter(a)) },
		"StacksOf":     func(a, _ impl.Chart, _ int64) []any { return result(impl.StacksOf(a)) },
		"ChartText":    func(a, _ impl.Chart, _ int64) []any { return result(impl.ChartText(a)) },
		"MirrorChart":  func(a, _ impl.Chart, _ int64) []any { return result(impl.MirrorChart(a)) },
		"StackCharts":  func(a, b impl.Chart, _ int64) []any { return result(impl.StackCharts(a, b)) },
		"RepeatChart":  func(a, _ impl.Chart, n int64) []any { return result(impl.RepeatChart(a, n)) },
		"BesideCharts": func(a, b impl.Chart, _ int64) []any { return result(impl.BesideCharts(a, b)) },
		"HandKnit":     func(a, _ impl.Chart, _ int64) []any { return result(impl.HandKnit(a)) },
		"IsCable":      func(a, _ impl.Chart, _ int64) []any { return result(impl.IsCable(a)) },
		"CableBraid":   func(a, _ impl.Chart, _ int64) []any { return result(impl.CableBraid(a)) },
		"SameCable":    func(a, b impl.Chart, _ int64) []any { return result(impl.SameCable(a, b)) },
		"LayoutWidth":  func(a, _ impl.Chart, _ int64) []any { return result(impl.LayoutWidth(a)) },
	}
}

// piecesCalls are calls of all functions that have lists of pieces as arguments.
func piecesCalls() map[string]func(list []impl.Piece, columns int64) []any {
	return map[string]func(list []impl.Piece, columns int64) []any{
		"ValidPieces":  func(list []impl.Piece, _ int64) []any { return result(impl.ValidPieces(list)) },
		"PiecesText":   func(list []impl.Piece, _ int64) []any { return result(impl.PiecesText(list)) },
		"NeedOf":       func(list []impl.Piece, _ int64) []any { return result(impl.NeedOf(list)) },
		"ExpandPieces": func(list []impl.Piece, columns int64) []any { return result(impl.ExpandPieces(list, columns)) },
	}
}

// coloursCalls are calls of all functions that have colour charts as arguments.
func coloursCalls() map[string]func(a, b impl.ColourChart, most int64) []any {
	return map[string]func(a, b impl.ColourChart, most int64) []any{
		"ValidColours":   func(a, _ impl.ColourChart, _ int64) []any { return result(impl.ValidColours(a)) },
		"SameColours":    func(a, b impl.ColourChart, _ int64) []any { return result(impl.SameColours(a, b)) },
		"ColoursText":    func(a, _ impl.ColourChart, _ int64) []any { return result(impl.ColoursText(a)) },
		"CountColours":   func(a, _ impl.ColourChart, _ int64) []any { return result(impl.CountColours(a)) },
		"FloatsOf":       func(a, _ impl.ColourChart, _ int64) []any { return result(impl.FloatsOf(a)) },
		"LongestFloat":   func(a, _ impl.ColourChart, _ int64) []any { return result(impl.LongestFloat(a)) },
		"ChartOfColours": func(a, _ impl.ColourChart, _ int64) []any { return result(impl.ChartOfColours(a)) },
		"CatchFloats":    func(a, _ impl.ColourChart, most int64) []any { return result(impl.CatchFloats(a, most)) },
		"MirrorColours":  func(a, _ impl.ColourChart, _ int64) []any { return result(impl.MirrorColours(a)) },
	}
}

func eventOfNumbers(n, k int64) impl.Event {
	return impl.Event{Kind: n, Place: k, Count: n, Bed: k, Carrier: k, Dir: k}
}

func passOfNumbers(n, k int64) impl.Pass {
	return impl.Pass{Kind: n, Dir: k, Carrier: k, Rack: k, First: k, Count: n}
}

// opsCalls are calls of all functions that have lists of operations as arguments.
func opsCalls() map[string]func(ops []impl.Op, width, k int64) []any {
	return map[string]func(ops []impl.Op, width, k int64) []any{
		"RunMachine":    func(ops []impl.Op, width, _ int64) []any { return result(impl.RunMachine(width, ops)) },
		"ProgramText":   func(ops []impl.Op, width, _ int64) []any { return result(impl.ProgramText(width, ops)) },
		"CheckProgram":  func(ops []impl.Op, width, _ int64) []any { return result(impl.CheckProgram(width, ops)) },
		"KindCounts":    func(ops []impl.Op, _, _ int64) []any { return result(impl.KindCounts(ops)) },
		"CarriersUsed":  func(ops []impl.Op, _, _ int64) []any { return result(impl.CarriersUsed(ops)) },
		"LeastWidth":    func(ops []impl.Op, _, _ int64) []any { return result(impl.LeastWidth(ops)) },
		"ShiftProgram":  func(ops []impl.Op, width, k int64) []any { return result(impl.ShiftProgram(width, ops, k)) },
		"MirrorProgram": func(ops []impl.Op, width, _ int64) []any { return result(impl.MirrorProgram(width, ops)) },
		"PassesOf":      func(ops []impl.Op, _, _ int64) []any { return result(impl.PassesOf(ops)) },
		"CountPasses":   func(ops []impl.Op, _, _ int64) []any { return result(impl.CountPasses(ops)) },
		"PassOf":        func(ops []impl.Op, _, k int64) []any { return result(impl.PassOf(ops, k)) },
		"SpanOf":        func(ops []impl.Op, width, k int64) []any { return result(impl.SpanOf(ops, passOfNumbers(width, k))) },
		"ReturnsOf":     func(ops []impl.Op, _, _ int64) []any { return result(impl.ReturnsOf(ops)) },
		"SortTransfers": func(ops []impl.Op, _, _ int64) []any { return result(impl.SortTransfers(ops)) },
		"TraceOf":       func(ops []impl.Op, width, _ int64) []any { return result(impl.TraceOf(width, ops)) },
		"CheckCrossing": func(ops []impl.Op, _, _ int64) []any {
			return result(impl.CheckCrossing([]int64{1, 3}, []int64{2, 1}, ops, braid(2)))
		},
	}
}

// scribble overwrites all that a result holds, so that memory shared with it shows.
func scribble(values []any) {
	for _, v := range values {
		switch list := v.(type) {
		case []int64:
			list = list[:cap(list)]
			for i := range list {
				list[i] = -9
			}
		case []string:
			list = list[:cap(list)]
			for i := range list {
				list[i] = "scribble"
			}
		case impl.Braid:
			scribble(result(list.Word))
		case impl.NormalBraid:
			scribble(result(list.Factors))
		case impl.Machine:
			scribbleMachine(list)
		case []impl.Op:
			for i := range list[:cap(list)] {
				list[:cap(list)][i] = rackOp(spareMark)
			}
		case []impl.Event:
			for i := range list[:cap(list)] {
				list[:cap(list)][i] = impl.Event{Kind: spareMark}
			}
		case []impl.Block:
			for i, b := range list[:cap(list)] {
				scribbleBlock(b)
				list[:cap(list)][i] = impl.Block{Braid: impl.Braid{Strands: spareMark}}
			}
		case []impl.Piece:
			for i := range list[:cap(list)] {
				list[:cap(list)][i] = stitchTimes(spareMark, spareMark)
			}
		case []impl.Pass:
			for i := range list[:cap(list)] {
				list[:cap(list)][i] = impl.Pass{Kind: spareMark}
			}
		case impl.Row:
			scribble(result(list.Stitches))
		case impl.Chart:
			for i, r := range list.Rows[:cap(list.Rows)] {
				scribble(result(r.Stitches))
				list.Rows[:cap(list.Rows)][i] = impl.Row{Dir: spareMark}
			}
		case impl.ColourChart:
			scribble(result(list.Rows))
		case []impl.Float:
			for i := range list[:cap(list)] {
				list[:cap(list)][i] = impl.Float{Row: spareMark}
			}
		case []impl.Move:
			for i := range list[:cap(list)] {
				list[:cap(list)][i] = move(spareMark, spareMark)
			}
		case [][]int64:
			for i := range list[:cap(list)] {
				scribble(result(list[:cap(list)][i]))
				list[:cap(list)][i] = []int64{-9}
			}
		}
	}
}

// isPure checks that a call returns the same again and again, also after all that its first result holds has been overwritten.
func isPure(t *testing.T, name string, call func() []any) {
	t.Helper()
	first := call()
	text := fmt.Sprint(first)
	second := call()
	scribble(first)
	is(t, name, second, text)
	is(t, name, call(), text)
}

// P1, for arguments that are slices.
func TestListsAreNeitherChangedNorShared(t *testing.T) {
	lists := [][]int64{nil, {}, {0}, {0, 0, 0}, {0, 1}, {1, 0}, {0, 1, 2}, {2, 0, 1}, {1, 2, 0}, {3, 0, 2, 1}, rising(12), falling(12), make([]int64, 1000)}
	lists = append(lists, notPermutations()...)
	lists = append(lists, []int64{1, 2, -1}, []int64{1, 2, -2, -1}, []int64{2, -2, 1, -2, -1}, []int64{1, -1}, []int64{1, 1, 1, 2}, []int64{3, 1, 6, 8}, []int64{1, 4}, copiesOf(1, 8), copiesOf(3, 17), []int64{1, 3}, []int64{2, 1, 3}, []int64{8, 7}, []int64{5, 6}, []int64{8, 9, 1, 5, 3}, []int64{1, 3, 5, 7}, []int64{1, 5, 5, 7}, []int64{1, 3, 3, 9}, []int64{1, 4, 5, 23}, []int64{1, 5, 9}, []int64{3, 3, 3})
	for name, call := range listCalls() {
		for _, a := range lists {
			for _, b := range lists {
				x, y := withSpare(a), withSpare(b)
				isPure(t, name, func() []any { return call(x, y) })
				if !isUntouched(x, a) || !isUntouched(y, b) {
					t.Errorf("%s: changed or shared %v or %v", name, a, b)
				}
			}
		}
	}
}

// P1, for arguments that are braids.
func TestBraidsAreNeitherChangedNorShared(t *testing.T) {
	braids := append(notBraids(), braid(0), braid(1), braid(3), braid(4, 1, -2, 3), braid(4, 1, 2, -2, -1), braid(4, 1, -1, 2), braid(12, 11), repeated(4, 3, 40), braid(4, 1, 2, 3, -1, 2, -3))
	lists := [][]int64{nil, {1}, {0, 0, 0}, {1, 1, 1, 1}, {2, 1, 0, 1}, {4, 4, 4, 4}, {1, 5, 1, 1}, slices.Repeat([]int64{1}, 12)}
	for name, call := range braidCalls() {
		for _, a := range braids {
			for _, b := range braids {
				for _, sizes := range lists {
					isPureBraidCall(t, name, call, a, b, sizes)
				}
			}
		}
	}
}

func isPureBraidCall(t *testing.T, name string, call func(a, b impl.Braid, sizes []int64) []any, a, b impl.Braid, sizes []int64) {
	t.Helper()
	x, y, z := withSpare(a.Word), withSpare(b.Word), withSpare(sizes)
	isPure(t, name, func() []any { return call(braid(a.Strands, x...), braid(b.Strands, y...), z) })
	if !isUntouched(x, a.Word) || !isUntouched(y, b.Word) || !isUntouched(z, sizes) {
		t.Errorf("%s: changed or shared %v, %v or %v", name, a, b, sizes)
	}
}

func rowsWithSpare(rows [][]int64) [][]int64 {
	list := make([][]int64, 0, len(rows)+1)
	for _, row := range rows {
		list = append(list, withSpare(row))
	}
	return append(list, []int64{spareMark})[:len(rows)]
}

func areRowsUntouched(list, original [][]int64) bool {
	whole := list[:len(original)+1]
	return slices.EqualFunc(list, original, isUntouched) && slices.Equal(whole[len(original)], []int64{spareMark})
}

// shareMemory reports whether a change of one row shows in another one.
func shareMemory(rows [][]int64) bool {
	for i := range rows {
		for k := range rows[i] {
			before := rows[i][k]
			others := fmt.Sprint(rows[:i], rows[i+1:])
			rows[i][k] = -9
			if fmt.Sprint(rows[:i], rows[i+1:]) != others {
				return true
			}
			rows[i][k] = before
		}
	}
	return false
}

// P1, for arguments that are normal forms.
func TestNormalsAreNeitherChangedNorShared(t *testing.T) {
	forms := append(someNormals(), notNormals()...)
	for name, call := range normalCalls() {
		for _, a := range forms {
			for _, b := range forms {
				x, y := a, b
				x.Factors, y.Factors = rowsWithSpare(a.Factors), rowsWithSpare(b.Factors)
				isPure(t, name, func() []any { return call(x, y) })
				if !areRowsUntouched(x.Factors, a.Factors) || !areRowsUntouched(y.Factors, b.Factors) {
					t.Errorf("%s: changed or shared %v or %v", name, a, b)
				}
			}
		}
	}
}

// P1, for arguments that are images.
func TestImagesAreNeitherChangedNorShared(t *testing.T) {
	lists := append(notImages(), nil, [][]int64{{1}}, [][]int64{{2, -1, 1}, {-2}}, [][]int64{{1, 2, -1}, {1}}, [][]int64{{1}, {3}, {-3, 2, 3}}, [][]int64{{}, nil}, [][]int64{copiesOf(1, 20000), {2}})
	for name, call := range imagesCalls() {
		for _, images := range lists {
			for _, word := range [][]int64{nil, {1}, {1, 2}, {2, -1, 1, -2}, {3, 2, 1}, {-1, -1}} {
				x, y := rowsWithSpare(images), withSpare(word)
				isPure(t, name, func() []any { return call(x, y) })
				if !areRowsUntouched(x, images) || !isUntouched(y, word) {
					t.Errorf("%s: changed or shared %v or %v", name, images, word)
				}
			}
		}
	}
}

func machineWithSpare(m impl.Machine) impl.Machine {
	m.Front, m.Back, m.Dropped = rowsWithSpare(m.Front), rowsWithSpare(m.Back), withSpare(m.Dropped)
	m.Carriers = append(slices.Clone(m.Carriers), impl.Carrier{At: spareMark})[:len(m.Carriers)]
	loops := slices.Clone(m.Loops)
	for i := range loops {
		loops[i].Parents = withSpare(loops[i].Parents)
	}
	m.Loops = append(loops, impl.Info{Kind: spareMark})[:len(m.Loops)]
	return m
}

// isMachineUntouched reports whether a state made by machineWithSpare still is what it was.
func isMachineUntouched(m, original impl.Machine) bool {
	for i, loop := range m.Loops {
		if !isUntouched(loop.Parents, original.Loops[i].Parents) {
			return false
		}
	}
	return isSameByHand(m, original) && areRowsUntouched(m.Front, original.Front) && areRowsUntouched(m.Back, original.Back) && isUntouched(m.Dropped, original.Dropped) &&
		m.Carriers[:len(m.Carriers)+1][len(m.Carriers)] == impl.Carrier{At: spareMark} && m.Loops[:len(m.Loops)+1][len(m.Loops)].Kind == spareMark
}

// P1, for arguments that are states of the machine.
func TestMachinesAreNeitherChangedNorShared(t *testing.T) {
	machines := append(notMachines(t), newMachine(t, 1), newMachine(t, 24), richMachine(t))
	for _, c := range harmlessChanges() {
		machines = append(machines, changed(richMachine(t), c))
	}
	for name, call := range machineCalls() {
		for i, m := range machines {
			other := machines[(i+1)%len(machines)]
			for k, o := range append(someOps(), opsOfRichMachine()...) {
				n := append(allNeedles(), needlesOutside()...)[k]
				isPureMachineCall(t, name, call, m, other, n, o)
			}
		}
	}
}

func isPureMachineCall(t *testing.T, name string, call func(a, b impl.Machine, n impl.Needle, o impl.Op) []any, a, b impl.Machine, n impl.Needle, o impl.Op) {
	t.Helper()
	x, y := machineWithSpare(a), machineWithSpare(b)
	isPure(t, name, func() []any { return call(x, y, n, o) })
	if !isMachineUntouched(x, a) || !isMachineUntouched(y, b) {
		t.Errorf("%s: changed or shared %v or %v", name, a, b)
	}
}

// P1, for arguments that are states of the machine, and a loop, a carrier or a number of loops.
func TestFabricsAreNeitherChangedNorShared(t *testing.T) {
	machines := slices.Concat(notMachines(t), someFabrics(t), []impl.Machine{stateGraph(t), chain(t, 300), mesh(t, 300), machineAfter(t, 4, swatchOps(4, 5))})
	for name, call := range fabricCalls() {
		for _, m := range machines {
			for _, n := range append(wrongLoops(m), 0, 1, 4, 5, int64(len(m.Loops))/2, int64(len(m.Loops))-3) {
				isPureFabricCall(t, name, call, m, n)
			}
		}
	}
}

func isPureFabricCall(t *testing.T, name string, call func(m impl.Machine, n int64) []any, m impl.Machine, n int64) {
	t.Helper()
	x := machineWithSpare(m)
	isPure(t, name, func() []any { return call(x, n) })
	if !isMachineUntouched(x, m) {
		t.Errorf("%s: changed or shared %v", name, m)
	}
}

// P1, for operations.
func TestOperationsAreNeitherChangedNorShared(t *testing.T) {
	ops := append(stackOps(onFront(1), 3), splitOp(1, onFront(1), onBack(1), 1), rackOp(1))
	spare := append(slices.Clone(ops), outOp(1))
	for width := int64(-1); width <= 25; width++ {
		for n := range ops {
			m, count, code := impl.RunMachine(width, spare[:n])
			text := fmt.Sprint(m, count, code)
			again, countAgain, codeAgain := impl.RunMachine(width, spare[:n])
			scribbleMachine(m)
			is(t, "RunMachine", fmt.Sprint(again, countAgain, codeAgain), text)
			is(t, "operations", spare, append(slices.Clone(ops), outOp(1)))
			is(t, "lists that share memory", shareMemory(listsOfMachine(again)), false)
		}
	}
}

// P1, for arguments that are lists of operations.
func TestListsOfOperationsAreNeitherChangedNorShared(t *testing.T) {
	lists := [][]impl.Op{nil, {}, {rackOp(1)}, notOps(), someOps(), opsOfRichMachine(), stackOps(onFront(1), 3), moveAndBack(), {xferOp(onFront(2), onBack(2)), xferOp(onFront(0), onBack(0)), xferOp(onFront(1), onBack(1))}, slices.Repeat([]impl.Op{dropOp(onBack(1))}, 1501)}
	for name, call := range opsCalls() {
		for _, ops := range lists {
			for _, width := range []int64{-1, 0, 1, 2, 3, 5, 24, 25} {
				for _, k := range []int64{math.MinInt64, -1, 0, 1, 2, 1500, math.MaxInt64} {
					isPureOpsCall(t, name, call, ops, width, k)
				}
			}
		}
	}
}

func isPureOpsCall(t *testing.T, name string, call func(ops []impl.Op, width, k int64) []any, ops []impl.Op, width, k int64) {
	t.Helper()
	marked := append(slices.Clone(ops), rackOp(spareMark), rackOp(spareMark))
	x := marked[:len(ops)]
	isPure(t, name, func() []any { return call(x, width, k) })
	if !slices.Equal(x, ops) || !slices.Equal(marked[len(ops):], []impl.Op{rackOp(spareMark), rackOp(spareMark)}) {
		t.Errorf("%s: changed or shared %v", name, ops)
	}
}

// P1, for arguments that are lists of events.
func TestEventsAreNeitherChangedNorShared(t *testing.T) {
	lists := [][]impl.Event{nil, {}, {{}}, notCrossings(), eventsFor(3), tucks(13), {tuck(0), tuck(1), cross(0, 1), split(1, 0, 2), drop(0, 3)}, {cross(0, 1), cross(1, -1), cross(0, 1)}, slices.Repeat([]impl.Event{cross(0, 1)}, 40), slices.Repeat([]impl.Event{cross(1, -1), {}}, 1001)}
	for seed := range 6 {
		d := dice(seed)
		lists = append(lists, d.fabricEvents(seed), d.mirrorableEvents(seed))
	}
	for name, call := range eventsCalls() {
		for i, a := range lists {
			for _, b := range [][]impl.Event{a, lists[(i+1)%len(lists)]} {
				for _, strands := range []int64{math.MinInt64, -1, 0, 1, 2, 3, 12, 13, math.MaxInt64} {
					isPureEventsCall(t, name, call, a, b, strands)
				}
			}
		}
	}
}

func isPureEventsCall(t *testing.T, name string, call func(a, b []impl.Event, strands int64) []any, a, b []impl.Event, strands int64) {
	t.Helper()
	mark := impl.Event{Kind: spareMark}
	marked, others := append(slices.Clone(a), mark, mark), append(slices.Clone(b), mark)
	x, y := marked[:len(a)], others[:len(b)]
	isPure(t, name, func() []any { return call(x, y, strands) })
	if !slices.Equal(marked, append(slices.Clone(a), mark, mark)) || !slices.Equal(others, append(slices.Clone(b), mark)) {
		t.Errorf("%s: changed or shared %v or %v", name, a, b)
	}
}

func blocksWithSpare(list []impl.Block) []impl.Block {
	marked := make([]impl.Block, 0, len(list)+1)
	for _, b := range list {
		stitches := append(slices.Clone(b.Stitches), impl.Event{Kind: spareMark})[:len(b.Stitches)]
		marked = append(marked, block(braid(b.Braid.Strands, withSpare(b.Braid.Word)...), stitches...))
	}
	return append(marked, block(braid(spareMark)))[:len(list)]
}

// areBlocksUntouched reports whether a list made by blocksWithSpare still is what it was.
func areBlocksUntouched(list, original []impl.Block) bool {
	for i, b := range list {
		stitches := b.Stitches[:len(b.Stitches)+1]
		if b.Braid.Strands != original[i].Braid.Strands || !isUntouched(b.Braid.Word, original[i].Braid.Word) ||
			!slices.Equal(b.Stitches, original[i].Stitches) || stitches[len(b.Stitches)] != (impl.Event{Kind: spareMark}) {
			return false
		}
	}
	return len(list) == len(original) && list[:len(list)+1][len(list)].Braid.Strands == spareMark
}

// P1, for arguments that are blocks.
func TestBlocksAreNeitherChangedNorShared(t *testing.T) {
	lists := [][]impl.Block{nil, {}, {{}}, {block(braid(0), tucks(3)...), block(braid(3, 1, -1, 2), knit(0, 2)), block(braid(2, 1))}, {block(braid(2, 5), cross(0, 1))}, slices.Repeat([]impl.Block{block(braid(0))}, 61), {block(braid(0), slices.Repeat(append(tucks(2), drop(0, 2)), 700)...)}}
	for _, b := range notBraids() {
		lists = append(lists, []impl.Block{block(braid(0), tucks(2)...), block(b, knit(0, 1))})
	}
	for seed := range 6 {
		d := dice(seed)
		lists = append(lists, d.blocks(seed))
	}
	for name, call := range blocksCalls() {
		for _, a := range lists {
			for _, b := range lists {
				x, y := blocksWithSpare(a), blocksWithSpare(b)
				isPure(t, name, func() []any { return call(x, y) })
				if !areBlocksUntouched(x, a) || !areBlocksUntouched(y, b) {
					t.Errorf("%s: changed or shared %v or %v", name, a, b)
				}
			}
		}
	}
}

func chartWithSpare(c impl.Chart) impl.Chart {
	rows := make([]impl.Row, 0, len(c.Rows)+1)
	for _, r := range c.Rows {
		rows = append(rows, impl.Row{Dir: r.Dir, Carrier: r.Carrier, Stitches: withSpare(r.Stitches)})
	}
	return impl.Chart{Columns: c.Columns, Rows: append(rows, impl.Row{Dir: spareMark})[:len(c.Rows)]}
}

// isChartUntouched reports whether a chart made by chartWithSpare still is what it was.
func isChartUntouched(c, original impl.Chart) bool {
	for i, r := range c.Rows {
		if r.Dir != original.Rows[i].Dir || r.Carrier != original.Rows[i].Carrier || !isUntouched(r.Stitches, original.Rows[i].Stitches) {
			return false
		}
	}
	return c.Rows[:len(c.Rows)+1][len(c.Rows)].Dir == spareMark
}

// P1, for arguments that are charts.
func TestChartsAreNeitherChangedNorShared(t *testing.T) {
	charts := append(notCharts(t)[:20], manyCharts(t, 24)...)
	charts = append(charts, chart(t, 4, "> 1 tttt"), chart(t, 4, "> 1 kkkk"), chart(t, 1, "> 1 k"), chart(t, 2, "> 1 tk"), chart(t, 3, "> 1 kxo"), chart(t, 4, "> 1 kdk"), chart(t, 4, "> 1 X", "< 2 xy"), chart(t, 4, "> 1 Y", "< 2 kyk"), impl.Chart{Columns: 1, Rows: make([]impl.Row, 1000)})
	for name, call := range chartCalls() {
		for _, a := range charts {
			for i, b := range charts {
				x, y := chartWithSpare(a), chartWithSpare(b)
				isPure(t, name, func() []any { return call(x, y, int64(i%10)) })
				if !isChartUntouched(x, a) || !isChartUntouched(y, b) {
					t.Errorf("%s: changed or shared %v or %v", name, a, b)
				}
			}
		}
	}
}

// P1, for arguments that are colour charts.
func TestColourChartsAreNeitherChangedNorShared(t *testing.T) {
	charts := append(notColours()[:40], manyColours(40)...)
	charts = append(charts, colours("12221", "11111"), colours("12341234", "43214321"), colours("34122342"), colours("21111112", "12222221"), colours("907", "x"), impl.ColourChart{Columns: 1, Rows: make([][]int64, 1000)})
	for name, call := range coloursCalls() {
		for i, a := range charts {
			for _, b := range []impl.ColourChart{a, charts[(i+1)%len(charts)]} {
				for _, most := range []int64{math.MinInt64, -1, 0, 1, 2, 8, 9, math.MaxInt64} {
					x, y := impl.ColourChart{Columns: a.Columns, Rows: rowsWithSpare(a.Rows)}, impl.ColourChart{Columns: b.Columns, Rows: rowsWithSpare(b.Rows)}
					isPure(t, name, func() []any { return call(x, y, most) })
					if !areRowsUntouched(x.Rows, a.Rows) || !areRowsUntouched(y.Rows, b.Rows) {
						t.Errorf("%s: changed or shared %v or %v", name, a, b)
					}
				}
			}
		}
	}
}

// P1, for arguments that are lists of pieces.
func TestPiecesAreNeitherChangedNorShared(t *testing.T) {
	lists := [][]impl.Piece{nil, {}, {{}}, chainOfGroups(2, 3), chainOfGroups(0, 5), {groupOf(0, math.MaxInt64), stitchTimes(1, 1)}, {groupOf(2, math.MinInt64)}, make([]impl.Piece, 1000), slices.Repeat([]impl.Piece{stitchTimes(1, 1)}, 25), piecesIn("k17"), piecesIn("(k)* (p)*")}
	for _, text := range append(validTexts(), "k (p k)*", "(o)* k", "k5 (d)* o", "o16 k", "(k)*") {
		lists = append(lists, piecesIn(text))
	}
	mark := stitchTimes(spareMark, spareMark)
	for name, call := range piecesCalls() {
		for _, list := range lists {
			for _, columns := range append(columnsOutside(), 1, 2, 3, 5, 8) {
				marked := append(slices.Clone(list), mark, mark)
				isPure(t, name, func() []any { return call(marked[:len(list)], columns) })
				if !slices.Equal(marked, append(slices.Clone(list), mark, mark)) {
					t.Errorf("%s: changed or shared %v", name, list)
				}
			}
		}
	}
}

// P1, for arguments that are moves.
func TestMovesAreNeitherChangedNorShared(t *testing.T) {
	mark := move(spareMark, spareMark)
	for _, list := range [][]impl.Move{nil, {}, {{}}, {move(1, 2)}, {move(1, 2), move(5, 2)}, notMoves(), make([]impl.Move, 1000), slices.Repeat([]impl.Move{move(3, 0)}, 1000)} {
		marked := append(slices.Clone(list), mark, mark)
		isPure(t, "MoveLength", func() []any { return result(impl.MoveLength(marked[:len(list)])) })
		if !slices.Equal(marked, append(slices.Clone(list), mark, mark)) {
			t.Errorf("MoveLength: changed or shared %v", list)
		}
	}
}

// One piece of memory may hold the stitches of several rows, also as the unused capacity of one another, and both charts.
func TestChartsThatShareMemory(t *testing.T) {
	memory := []int64{impl.StKnit, impl.StCross, impl.StPurl, impl.StOver, impl.StLeft}
	rows := []impl.Row{{Dir: 1, Carrier: 1, Stitches: memory[:2]}, {Dir: 1, Carrier: 1, Stitches: memory[1:3]}, {Dir: -1, Carrier: 1, Stitches: memory[1:3]}}
	c := impl.Chart{Columns: 3, Rows: rows[:2]}
	for name, made := range map[string][]any{
		"mirrored": result(impl.MirrorChart(c)), "stacked": result(impl.StackCharts(c, c)), "stacked on a part": result(impl.StackCharts(c, impl.Chart{Columns: 3, Rows: rows[1:]})),
		"repeated": result(impl.RepeatChart(c, 4)), "beside": result(impl.BesideCharts(c, c)), "stacks": result(impl.StacksOf(c)),
	} {
		is(t, name+" code", made[1], impl.OK)
		lists, ok := made[0].([][]int64)
		if made, isChart := made[0].(impl.Chart); isChart {
			lists, ok = listsOfChart(made), true
		}
		is(t, name+" shares memory", result(ok, shareMemory(lists)), "[true false]")
		scribble(made)
	}
	is(t, "memory", result(memory, rows), "[[1 8 2 3 4] [{1 1 [1 8]} {1 1 [8 2]} {-1 1 [8 2]}]]")
}

// One list may be the stacks and the stitches.
func TestStacksThatAreStitches(t *testing.T) {
	list := withSpare([]int64{1, 2, 1})
	is(t, "one list", result(impl.StacksAfter(list, list)), "[[1 1 1] 0]")
	is(t, "untouched", isUntouched(list, []int64{1, 2, 1}), true)
}

// One piece of memory may hold several lists of a state, also as the unused capacity of one another.
func TestMachinesThatShareMemory(t *testing.T) {
	memory := []int64{0, 1, 2, 3}
	m := newMachine(t, 2)
	m.Carriers[0] = impl.Carrier{In: true}
	addLoops(&m, 4)
	m.Front, m.Dropped = [][]int64{memory[:1], memory[1:2]}, memory[2:]
	m.Back = make([][]int64, 3)[:2]
	m.Loops[3].Parents, m.Loops[2].Parents = memory[:1], memory[1:2]
	want := copyOfMachine(m)
	for _, o := range []impl.Op{tuckOp(1, onFront(0), 1), knitOp(1, onFront(0), 1), splitOp(1, onFront(0), onBack(0), 1), xferOp(onFront(1), onBack(1)), dropOp(onFront(1)), dropOp(onFront(0))} {
		byHand, _ := stepByHand(want, o)
		next := stepOf(t, m, o)
		is(t, fmt.Sprint("StepMachine of ", o), isSameByHand(next, byHand), true)
		is(t, fmt.Sprint("lists that share memory after ", o), shareMemory(listsOfMachine(next)), false)
		is(t, "memory", result(memory, isSameByHand(m, want)), "[[0 1 2 3] true]")
	}
	rows := make([][]int64, 2)
	empty := impl.Machine{Width: 2, Front: rows, Back: rows, Carriers: make([]impl.Carrier, 4)}
	next := stepOf(t, stepOf(t, empty, inOp(1, 1)), knitOp(1, onFront(0), 1))
	is(t, "one list as both beds", result(next.Front, next.Back, rows), "[[[0] []] [[] []] [[] []]]")
}

// One piece of memory may hold all images and the word, also as the unused capacity of one another.
func TestImagesThatShareMemory(t *testing.T) {
	memory := []int64{1, 2, -1, 1, 1, 2, -1}
	images := [][]int64{memory[:3], memory[3:4]}
	is(t, "word of the same memory", result(impl.ApplyAction(images, memory[4:])), "[[1 2 1 -2 -1] 0]")
	is(t, "one word as the word and as an image", result(impl.ApplyAction(images, images[0])), "[[1 2 1 -2 -1] 0]")
	is(t, "one word as all images", result(impl.ApplyAction([][]int64{images[0], images[0]}, []int64{1, 2})), "[[1 2 2 -1] 0]")
	is(t, "one word twice", result(impl.FreeJoin(2, memory[:3], memory[:3])), "[[1 2 2 -1] 0]")
	is(t, "IsAction", impl.IsAction(images), true)
	is(t, "ActionPermutation", result(impl.ActionPermutation(images)), "[[1 0] true]")
	is(t, "memory", memory, "[1 2 -1 1 1 2 -1]")
}

// One list of factors may be that of both forms, and one permutation may be several factors.
func TestFactorsThatShareMemory(t *testing.T) {
	one := []int64{1, 0, 2}
	factors := [][]int64{one, one, one}
	for _, power := range []int64{-1, 0, 1} {
		a := normal(3, power, factors...)
		joined, code := impl.JoinNormals(a, a)
		want, wantCode := impl.JoinNormals(normal(3, power, []int64{1, 0, 2}, []int64{1, 0, 2}, []int64{1, 0, 2}), normal(3, power, []int64{1, 0, 2}, []int64{1, 0, 2}, []int64{1, 0, 2}))
		is(t, "joined", result(joined, code), result(want, wantCode))
		is(t, "code", code, impl.OK)
		is(t, "factors share memory", shareMemory(joined.Factors), false)
		is(t, "untouched", factors, "[[1 0 2] [1 0 2] [1 0 2]]")
	}
	form, _ := impl.NormalForm(repeated(12, 1, 40))
	is(t, "factors of one letter", result(len(form.Factors), shareMemory(form.Factors)), "[40 false]")
}

// One piece of memory may hold both words, one behind the other, and the sizes.
func TestBraidsThatShareMemory(t *testing.T) {
	for name, call := range braidCalls() {
		memory := []int64{1, 2, 1, 2, 1, 2}
		first, second := braid(3, memory[:3]...), braid(3, memory[3:]...)
		is(t, name, call(first, first, memory[3:]), call(braid(3, 1, 2, 1), braid(3, 1, 2, 1), []int64{2, 1, 2}))
		is(t, name, call(first, second, memory[:3]), call(braid(3, 1, 2, 1), braid(3, 2, 1, 2), []int64{1, 2, 1}))
		is(t, name, memory, "[1 2 1 2 1 2]")
	}
}

// A list may be given twice in one call.
func TestOneListAsBothArguments(t *testing.T) {
	for name, call := range listCalls() {
		for _, p := range manyPermutations(12, 10) {
			x := withSpare(p)
			is(t, name, call(x, x), call(slices.Clone(p), slices.Clone(p)))
			is(t, name, isUntouched(x, p), true)
		}
	}
}

// P1, for numbers and texts.
func TestNumbersAndTexts(t *testing.T) {
	numbers := []int64{math.MinInt64, -1000000000, -1, 0, 1, 2, 3, 11, 12, 13, 23, 24, 1000000000, math.MaxInt64}
	texts := []string{"", " ", "\t", "-", "-0", "7", "007", "f1", "b 2", "rib", "\xff\xfe", "a b c", "2:", "3: 1 -2", "3: 3", "3:  1", "knit > f3 1", "rack 9", "width 4\nin > 1\nknit > f0 1\n", "width 4\nknit", "knit 2 1 f+1", "cross 0 -1", "split 0 1 b+1", "k", "kxo", "XY", "chart 3\n> 1 kxo\n", "chart 1\n> 1 k\n< 2 ot\n", "chart 3\n> 1 kx\n", "k (p k)*", "k2 (p o)*3 (d)*", "(k", "k1", "(((o16)*16)*16)*16 k", "12221\n11111\n", "1\n", "15\n", strings.Repeat("(", 5000), strings.Repeat("\n", 2000), strings.Repeat("9", 5000), strings.Repeat(" x", 5000)}
	for name, call := range numberCalls() {
		for _, n := range numbers {
			for i, s := range texts {
				k := numbers[i%len(numbers)]
				first := call(n, k, s)
				text := fmt.Sprint(first)
				scribble(first)
				is(t, name, call(n, k, s), text)
			}
		}
	}
}

// P1: the names of codes do not depend on which call comes first.
func TestCallsAtTheSameTime(t *testing.T) {
	var group sync.WaitGroup
	names := make([]string, 64)
	for i := range names {
		group.Go(func() { names[i] = impl.CodeName(int64(i % 13)) })
	}
	group.Wait()
	for i, name := range names {
		is(t, "CodeName", name, impl.CodeName(int64(i%13)))
		is(t, "named", name != "", true)
	}
}
