package tests

import (
	"maps"
	"testing"

	"loop.example/g01296/impl"
)

// args are arguments of any function, which takes what it needs of them.
type args struct {
	c, d        impl.Cut
	cuts        []impl.Cut
	code, other [][]int
	net         impl.Net
	puzzle      impl.Puzzle
	clue        impl.Clue
	desk        impl.Desk
	numbers     []int
	m, n, k     int
	s           string
}

type call func(a args) []any

// callsOfChapter1 has a call for each function of the chapter; the last result tells whether it succeeds.
func callsOfChapter1() map[string]call {
	return map[string]call{
		"IsCut":          func(a args) []any { return list(impl.IsCut(a.c), impl.IsCut(a.c)) },
		"OneSquare":      func(a args) []any { return list(impl.OneSquare(a.m)) },
		"CutOf":          func(a args) []any { return list(impl.CutOf(a.c.Width, a.c.Height, a.c.Squares)) },
		"CutOf numbers":  func(a args) []any { return list(impl.CutOf(a.m, a.n, a.c.Squares)) },
		"SidesOf":        func(a args) []any { return list(impl.SidesOf(a.c)) },
		"IsPerfect":      func(a args) []any { return list(impl.IsPerfect(a.c)) },
		"SquareAt":       func(a args) []any { return list(impl.SquareAt(a.c, a.m, a.n)) },
		"SquaresBeside":  func(a args) []any { return list(impl.SquaresBeside(a.c, a.m)) },
		"SquaresAtEdges": func(a args) []any { return list(impl.SquaresAtEdges(a.c)) },
		"CrossesOf":      func(a args) []any { return list(impl.CrossesOf(a.c)) },
		"LongestLine":    func(a args) []any { return list(impl.LongestLine(a.c)) },
		"IsSimple":       func(a args) []any { return list(impl.IsSimple(a.c)) },
		"PartsOf":        func(a args) []any { return list(impl.PartsOf(a.c)) },
		"TurnCut":        func(a args) []any { return list(impl.TurnCut(a.c)) },
		"MirrorCut":      func(a args) []any { return list(impl.MirrorCut(a.c)) },
		"GrowCut":        func(a args) []any { return list(impl.GrowCut(a.c, a.m)) },
		"LowCut":         func(a args) []any { return list(impl.LowCut(a.c)) },
		"FirstTurn":      func(a args) []any { return list(impl.FirstTurn(a.c)) },
		"CutText":        func(a args) []any { return list(impl.CutText(a.c)) },
		"ParseCut":       func(a args) []any { return list(impl.ParseCut(a.s)) },
	}
}

func callsOfChapter2() map[string]call {
	return map[string]call{
		"CodeOf":        func(a args) []any { return list(impl.CodeOf(a.c)) },
		"CutOfCode":     func(a args) []any { return list(impl.CutOfCode(a.code)) },
		"CutOfSides":    func(a args) []any { return list(impl.CutOfSides(a.m, a.numbers)) },
		"IsCutCode":     func(a args) []any { return list(impl.IsCutCode(a.code), impl.IsCutCode(a.code)) },
		"WidthOfCode":   func(a args) []any { return list(impl.WidthOfCode(a.code)) },
		"OrderOfCode":   func(a args) []any { return list(impl.OrderOfCode(a.code)) },
		"TurnCode":      func(a args) []any { return list(impl.TurnCode(a.code)) },
		"MirrorCode":    func(a args) []any { return list(impl.MirrorCode(a.code)) },
		"GrowCode":      func(a args) []any { return list(impl.GrowCode(a.code, a.m)) },
		"FirstCode":     func(a args) []any { return list(impl.FirstCode(a.c)) },
		"LevelsOf":      func(a args) []any { return list(impl.LevelsOf(a.c)) },
		"GroupOfSquare": func(a args) []any { return list(impl.GroupOfSquare(a.c, a.m)) },
		"CompareCodes":  func(a args) []any { return list(impl.CompareCodes(a.code, a.other)) },
		"CodeText":      func(a args) []any { return list(impl.CodeText(a.code)) },
		"ParseCode":     func(a args) []any { return list(impl.ParseCode(a.s)) },
	}
}

func callsOfChapter3() map[string]call {
	return map[string]call{
		"IsNet":        func(a args) []any { return list(impl.IsNet(a.net), impl.IsNet(a.net)) },
		"LinesOf":      func(a args) []any { return list(impl.LinesOf(a.c)) },
		"NetOfCut":     func(a args) []any { return list(impl.NetOfCut(a.c)) },
		"TreesOf":      func(a args) []any { return list(impl.TreesOf(a.net)) },
		"JoinedTrees":  func(a args) []any { return list(impl.JoinedTrees(a.net)) },
		"PotentialsOf": func(a args) []any { return list(impl.PotentialsOf(a.net)) },
		"CurrentsOf":   func(a args) []any { return list(impl.CurrentsOf(a.net)) },
		"LowCurrents":  func(a args) []any { return list(impl.LowCurrents(a.net)) },
		"RatioOfNet":   func(a args) []any { return list(impl.RatioOfNet(a.net)) },
		"IsFlow":       func(a args) []any { return list(impl.IsFlow(a.net, a.numbers)) },
		"IsBalanced":   func(a args) []any { return list(impl.IsBalanced(a.net, a.numbers)) },
		"AddWire":      func(a args) []any { return list(impl.AddWire(a.net, impl.Wire{From: a.m, To: a.n})) },
		"DropWire":     func(a args) []any { return list(impl.DropWire(a.net, a.m)) },
		"BackNet":      func(a args) []any { return list(impl.BackNet(a.net)) },
		"NetText":      func(a args) []any { return list(impl.NetText(a.net)) },
		"ParseNet":     func(a args) []any { return list(impl.ParseNet(a.s)) },
	}
}

func callsOfChapter4() map[string]call {
	return map[string]call{
		"RatioOfCut":       func(a args) []any { return list(impl.RatioOfCut(a.c)) },
		"QuotientsOf":      func(a args) []any { return list(impl.QuotientsOf(a.m, a.n)) },
		"CountGreedy":      func(a args) []any { return list(impl.CountGreedy(a.m, a.n)) },
		"GreedyCut":        func(a args) []any { return list(impl.GreedyCut(a.m, a.n)) },
		"RatioOfQuotients": func(a args) []any { return list(impl.RatioOfQuotients(a.numbers)) },
		"WordOfRatio":      func(a args) []any { return list(impl.WordOfRatio(a.m, a.n)) },
		"RatioOfWord":      func(a args) []any { return list(impl.RatioOfWord(a.s)) },
		"CutOfWord":        func(a args) []any { return list(impl.CutOfWord(a.s)) },
		"TurnedWord":       func(a args) []any { return list(impl.TurnedWord(a.s)) },
		"SidesOfWord":      func(a args) []any { return list(impl.SidesOfWord(a.s)) },
		"CountRatios":      func(a args) []any { return list(impl.CountRatios(a.m)) },
		"RatiosOf":         func(a args) []any { return list(impl.RatiosOf(a.m)) },
		"GreatestRatio":    func(a args) []any { return list(impl.GreatestRatio(a.m)) },
		"RankOfRatio":      func(a args) []any { return list(impl.RankOfRatio(a.m, a.n)) },
		"RatioOfRank":      func(a args) []any { return list(impl.RatioOfRank(a.m, a.n)) },
		"IsSquareRatio":    func(a args) []any { return list(impl.IsSquareRatio(a.m, a.n, a.k)) },
	}
}

func callsOfChapter5() map[string]call {
	return map[string]call{
		"FewestSquares":     func(a args) []any { return list(impl.FewestSquares(a.m, a.n)) },
		"FirstFewest":       func(a args) []any { return list(impl.FirstFewest(a.m, a.n)) },
		"CountFewest":       func(a args) []any { return list(impl.CountFewest(a.m, a.n)) },
		"CountFewestTurns":  func(a args) []any { return list(impl.CountFewestTurns(a.m, a.n)) },
		"FewestTurns":       func(a args) []any { return list(impl.FewestTurns(a.m, a.n)) },
		"CountSimpleFewest": func(a args) []any { return list(impl.CountSimpleFewest(a.m, a.n)) },
		"SidesOfFewest":     func(a args) []any { return list(impl.SidesOfFewest(a.m, a.n)) },
		"FewestTable":       func(a args) []any { return list(impl.FewestTable(a.m)) },
		"FewestByLines":     func(a args) []any { return list(impl.FewestByLines(a.m, a.n)) },
		"CutByLines":        func(a args) []any { return list(impl.CutByLines(a.m, a.n)) },
		"LinedTable":        func(a args) []any { return list(impl.LinedTable(a.m)) },
		"LinesLose":         func(a args) []any { return list(impl.LinesLose(a.m, a.n)) },
		"GreedyLose":        func(a args) []any { return list(impl.GreedyLose(a.m, a.n)) },
		"IsFewest":          func(a args) []any { return list(impl.IsFewest(a.c)) },
	}
}

func callsOfChapter6() map[string]call {
	return map[string]call{
		"BesideCuts":    func(a args) []any { return list(impl.BesideCuts(a.c, a.d)) },
		"UnderCuts":     func(a args) []any { return list(impl.UnderCuts(a.c, a.d)) },
		"PutSquare":     func(a args) []any { return list(impl.PutSquare(a.c, a.m)) },
		"PartAcross":    func(a args) []any { return list(impl.PartAcross(a.c)) },
		"PartDown":      func(a args) []any { return list(impl.PartDown(a.c)) },
		"TakePart":      func(a args) []any { return list(impl.TakePart(a.c, a.numbers)) },
		"ReplaceSquare": func(a args) []any { return list(impl.ReplaceSquare(a.c, a.m, a.d)) },
		"SpiralCut":     func(a args) []any { return list(impl.SpiralCut(a.m)) },
		"IsByLines":     func(a args) []any { return list(impl.IsByLines(a.c)) },
		"TreeOfCut":     func(a args) []any { return list(impl.TreeOfCut(a.c)) },
		"CutOfTree":     func(a args) []any { return list(impl.CutOfTree(a.s)) },
		"LinesDown":     func(a args) []any { return list(impl.LinesDown(a.c)) },
		"LinesAcross":   func(a args) []any { return list(impl.LinesAcross(a.c)) },
		"RowOfSquares":  func(a args) []any { return list(impl.RowOfSquares(a.m)) },
		"JoinMany":      func(a args) []any { return list(impl.JoinMany(a.cuts)) },
	}
}

func callsOfChapter7() map[string]call {
	return map[string]call{
		"CountCuts":         func(a args) []any { return list(impl.CountCuts(a.m, a.n)) },
		"CutsBySquares":     func(a args) []any { return list(impl.CutsBySquares(a.m, a.n)) },
		"CutsWithMost":      func(a args) []any { return list(impl.CutsWithMost(a.m, a.n, a.k)) },
		"AllCuts":           func(a args) []any { return list(impl.AllCuts(a.m, a.n)) },
		"CutOfRank":         func(a args) []any { return list(impl.CutOfRank(a.m, a.n, a.k)) },
		"RankOfCut":         func(a args) []any { return list(impl.RankOfCut(a.c)) },
		"CountTurned":       func(a args) []any { return list(impl.CountTurned(a.m, a.n)) },
		"FirstTurns":        func(a args) []any { return list(impl.FirstTurns(a.m, a.n)) },
		"CountMirrored":     func(a args) []any { return list(impl.CountMirrored(a.m, a.n)) },
		"SideLists":         func(a args) []any { return list(impl.SideLists(a.m, a.n)) },
		"CountWithSides":    func(a args) []any { return list(impl.CountWithSides(a.m, a.n, a.numbers)) },
		"CountSimple":       func(a args) []any { return list(impl.CountSimple(a.m, a.n)) },
		"CountWithoutCross": func(a args) []any { return list(impl.CountWithoutCross(a.m, a.n)) },
		"MeanOfCuts":        func(a args) []any { return list(impl.MeanOfCuts(a.m, a.n)) },
	}
}

func callsOfChapter8() map[string]call {
	return map[string]call{
		"CountStrips":        func(a args) []any { return list(impl.CountStrips(a.m, a.n)) },
		"StripsBySquares":    func(a args) []any { return list(impl.StripsBySquares(a.m, a.n)) },
		"CountStripsWithout": func(a args) []any { return list(impl.CountStripsWithout(a.m, a.n, a.k)) },
		"SquaresOfSide":      func(a args) []any { return list(impl.SquaresOfSide(a.m, a.n, a.k)) },
		"MeanSquares":        func(a args) []any { return list(impl.MeanSquares(a.m, a.n)) },
		"FewestInStrip":      func(a args) []any { return list(impl.FewestInStrip(a.m, a.n)) },
		"AllStrips":          func(a args) []any { return list(impl.AllStrips(a.m, a.n)) },
		"FillSides":          func(a args) []any { return list(impl.FillSides(a.c)) },
		"CutOfFill":          func(a args) []any { return list(impl.CutOfFill(a.m, a.numbers)) },
		"RankOfStrip":        func(a args) []any { return list(impl.RankOfStrip(a.c)) },
		"StripOfRank":        func(a args) []any { return list(impl.StripOfRank(a.m, a.n, a.k)) },
		"CountWholeStrips":   func(a args) []any { return list(impl.CountWholeStrips(a.m, a.n)) },
		"IsWholeStrip":       func(a args) []any { return list(impl.IsWholeStrip(a.c)) },
		"StripsThrough":      func(a args) []any { return list(impl.StripsThrough(a.m, a.n, a.k)) },
	}
}

func callsOfChapter9() map[string]call {
	return map[string]call{
		"IsClue":         func(a args) []any { return list(impl.IsClue(a.m, a.n, a.clue), impl.IsClue(a.m, a.n, a.clue)) },
		"IsPuzzle":       func(a args) []any { return list(impl.IsPuzzle(a.puzzle), impl.IsPuzzle(a.puzzle)) },
		"DoesFit":        func(a args) []any { return list(impl.DoesFit(a.clue, a.c)) },
		"Solutions":      func(a args) []any { return list(impl.Solutions(a.puzzle)) },
		"CountSolutions": func(a args) []any { return list(impl.CountSolutions(a.puzzle)) },
		"FirstSolution":  func(a args) []any { return list(impl.FirstSolution(a.puzzle)) },
		"SureSides":      func(a args) []any { return list(impl.SureSides(a.puzzle)) },
		"IsSolved":       func(a args) []any { return list(impl.IsSolved(a.puzzle)) },
		"NeedlessClues":  func(a args) []any { return list(impl.NeedlessClues(a.puzzle)) },
		"DropClue":       func(a args) []any { return list(impl.DropClue(a.puzzle, a.m)) },
		"AddClue":        func(a args) []any { return list(impl.AddClue(a.puzzle, a.clue)) },
		"LeftByClues":    func(a args) []any { return list(impl.LeftByClues(a.puzzle)) },
		"BestClue":       func(a args) []any { return list(impl.BestClue(a.puzzle)) },
		"HarderPuzzle":   func(a args) []any { return list(impl.HarderPuzzle(a.puzzle)) },
		"MakePuzzle":     func(a args) []any { return list(impl.MakePuzzle(a.c, a.m, a.n)) },
		"PuzzleText":     func(a args) []any { return list(impl.PuzzleText(a.puzzle)) },
		"ParsePuzzle":    func(a args) []any { return list(impl.ParsePuzzle(a.s)) },
	}
}

func callsOfChapter10() map[string]call {
	return map[string]call{
		"FirstDesk":   func(a args) []any { return list(impl.FirstDesk(), true) },
		"IsDesk":      func(a args) []any { return list(impl.IsDesk(a.desk), impl.IsDesk(a.desk)) },
		"DeskLine":    func(a args) []any { return list(impl.DeskLine(a.desk, a.s)) },
		"RunScript":   func(a args) []any { return list(impl.RunScript(a.s)) },
		"DeskAfter":   func(a args) []any { return list(impl.DeskAfter(a.s)) },
		"FailedLines": func(a args) []any { return list(impl.FailedLines(a.s)) },
	}
}

func list(results ...any) []any {
	return results
}

func allCalls() map[string]call {
	calls := callsOfChapter1()
	maps.Copy(calls, callsOfChapter2())
	maps.Copy(calls, callsOfChapter3())
	maps.Copy(calls, callsOfChapter4())
	maps.Copy(calls, callsOfChapter5())
	maps.Copy(calls, callsOfChapter6())
	maps.Copy(calls, callsOfChapter7())
	maps.Copy(calls, callsOfChapter8())
	maps.Copy(calls, callsOfChapter9())
	maps.Copy(calls, callsOfChapter10())
	return calls
}

func TestPromise11CallsAreOfAllFunctions(t *testing.T) {
	counts := [...]int{len(callsOfChapter1()), len(callsOfChapter2()), len(callsOfChapter3()), len(callsOfChapter4()), len(callsOfChapter5()), len(callsOfChapter6()), len(callsOfChapter7()), len(callsOfChapter8()), len(callsOfChapter9()), len(callsOfChapter10())}
	if counts != [...]int{19 + 1, 15, 16, 16, 14, 15, 14, 14, 17, 6} {
		t.Error("calls", counts)
	}
}
