package tests

import (
	"math"
	"runtime"
	"slices"
	"testing"

	"loop.example/g01296/impl"
)

func TestExampleOfChapter5(t *testing.T) {
	for _, w := range [][3]int{{3, 2, 3}, {6, 5, 5}, {13, 11, 6}} {
		if n, ok := impl.FewestSquares(w[0], w[1]); !ok || n != w[2] {
			t.Error("fewest", w, n, ok)
		}
	}
	twoAboveThree := cut(6, 5, 0, 0, 3, 3, 0, 3, 0, 3, 2, 2, 3, 2, 4, 3, 2)
	if is, ok := impl.IsFewest(twoAboveThree); !ok || !is {
		t.Error("two of side 3 above three of side 2", is, ok)
	}
	if n, ok := impl.GreedyLose(6, 5); !ok || n != 1 {
		t.Error("greedy", n, ok)
	}
	if c, ok := impl.FirstFewest(3, 2); !ok || textOf(c) != "3x2;0,0,1;1,0,2;0,1,1" {
		t.Error("first", textOf(c), ok)
	}
	if n, ok := impl.CountFewest(3, 2); !ok || n != 2 {
		t.Error("count", n, ok)
	}
	if n, ok := impl.CountFewestTurns(3, 2); !ok || n != 1 {
		t.Error("turns", n, ok)
	}
}

// countsOfSizes are the functions of a width and a height, up to a limit, that return one number.
func countsOfSizes() map[string]func(width, height int) (int, bool) {
	return map[string]func(width, height int) (int, bool){
		"FewestSquares": impl.FewestSquares, "CountFewest": impl.CountFewest, "CountFewestTurns": impl.CountFewestTurns,
		"CountSimpleFewest": impl.CountSimpleFewest, "LinesLose": impl.LinesLose, "GreedyLose": impl.GreedyLose,
	}
}

// checkCounts makes a call for each size, and for sizes that a call is given and that it must fail for.
func checkCounts(t *testing.T, name string, want func(size [2]int, fewest []impl.Cut) int) {
	t.Helper()
	f := countsOfSizes()[name]
	for size, fewest := range allFewest() {
		if n, ok := f(size[0], size[1]); !ok || n != want(size, fewest) {
			t.Error(name, size, n, ok)
		}
	}
	for _, size := range noSizes(13) {
		if n, ok := f(size[0], size[1]); ok || n != 0 {
			t.Error(name, size, n, ok)
		}
	}
}

func TestFewestSquares(t *testing.T) {
	checkCounts(t, "FewestSquares", func(size [2]int, fewest []impl.Cut) int { return len(fewest[0].Squares) })
	for width, row := range knownFewest() {
		for height, count := range row {
			for _, size := range [][2]int{{width + 1, height + 1}, {height + 1, width + 1}} {
				if n, ok := impl.FewestSquares(size[0], size[1]); !ok || n != count {
					t.Error(size, n, ok)
				}
			}
		}
	}
	for side := 1; side <= 13; side++ {
		if n, ok := impl.FewestSquares(side, side); !ok || n != 1 {
			t.Error("a square", side, n, ok)
		}
		if n, ok := impl.FewestSquares(1, side); !ok || n != side {
			t.Error("a width of 1", side, n, ok)
		}
		if n, ok := impl.FewestSquares(side, 1); !ok || n != side {
			t.Error("a height of 1", side, n, ok)
		}
	}
}

func TestFirstFewest(t *testing.T) {
	for size, fewest := range allFewest() {
		if c, ok := impl.FirstFewest(size[0], size[1]); !ok || !same(c, fewest[0]) {
			t.Error(size, textOf(c), ok)
		}
	}
	for _, w := range []struct {
		width, height int
		text          string
	}{
		{1, 1, "1x1;0,0,1"}, {13, 13, "13x13;0,0,13"}, {4, 2, "4x2;0,0,2;2,0,2"}, {2, 3, "2x3;0,0,1;1,0,1;0,1,2"}, {6, 4, "6x4;0,0,2;2,0,4;0,2,2"},
		{1, 13, textOf(rowsOfOnes(1, 13))}, {13, 1, textOf(rowsOfOnes(13, 1))},
	} {
		if c, ok := impl.FirstFewest(w.width, w.height); !ok || textOf(c) != w.text {
			t.Error(w.width, w.height, textOf(c), ok)
		}
	}
	for _, size := range noSizes(13) {
		if c, ok := impl.FirstFewest(size[0], size[1]); ok || !zero(c) {
			t.Error(size, textOf(c), ok)
		}
	}
}

func TestCountFewest(t *testing.T) {
	checkCounts(t, "CountFewest", func(size [2]int, fewest []impl.Cut) int { return len(fewest) })
	for _, w := range [][3]int{{1, 1, 1}, {13, 13, 1}, {13, 1, 1}, {1, 13, 1}, {3, 2, 2}, {2, 3, 2}, {5, 2, 3}, {4, 2, 1}, {13, 2, 7}, {2, 13, 7}} {
		if n, ok := impl.CountFewest(w[0], w[1]); !ok || n != w[2] {
			t.Error(w, n, ok)
		}
	}
}

func TestCountFewestTurns(t *testing.T) {
	checkCounts(t, "CountFewestTurns", func(size [2]int, fewest []impl.Cut) int { return len(turnsByCells(fewest)) })
	for _, w := range [][3]int{{1, 1, 1}, {13, 13, 1}, {13, 1, 1}, {1, 13, 1}, {3, 2, 1}, {2, 3, 1}, {5, 2, 2}, {13, 2, 4}, {2, 13, 4}} {
		if n, ok := impl.CountFewestTurns(w[0], w[1]); !ok || n != w[2] {
			t.Error(w, n, ok)
		}
	}
}

func TestFewestTurns(t *testing.T) {
	for size, fewest := range allFewest() {
		list, ok := impl.FewestTurns(size[0], size[1])
		if !ok || !slices.EqualFunc(list, turnsByCells(fewest), same) {
			t.Error(size, list, ok)
		}
	}
	// Those that are higher than wide are turned.
	for _, size := range [][2]int{{5, 2}, {2, 5}} {
		want := []impl.Cut{cut(5, 2, 0, 0, 1, 1, 0, 2, 3, 0, 2, 0, 1, 1), cut(5, 2, 0, 0, 2, 2, 0, 1, 3, 0, 2, 2, 1, 1)}
		if list, ok := impl.FewestTurns(size[0], size[1]); !ok || !slices.EqualFunc(list, want, same) {
			t.Error(size, list, ok)
		}
	}
	for _, size := range noSizes(13) {
		if list, ok := impl.FewestTurns(size[0], size[1]); ok || len(list) > 0 {
			t.Error(size, list, ok)
		}
	}
}

func TestCountSimpleFewest(t *testing.T) {
	checkCounts(t, "CountSimpleFewest", func(size [2]int, fewest []impl.Cut) int {
		count := 0
		for _, c := range fewest {
			if g, _ := cellsOf(c); len(partsByCells(c, g)) == 0 {
				count++
			}
		}
		return count
	})
	// A cut of one square, or of two, has no part.
	for _, w := range [][3]int{{1, 1, 1}, {13, 13, 1}, {2, 1, 1}, {1, 2, 1}, {12, 6, 1}, {3, 2, 0}, {3, 1, 0}, {1, 13, 0}, {13, 1, 0}} {
		if n, ok := impl.CountSimpleFewest(w[0], w[1]); !ok || n != w[2] {
			t.Error(w, n, ok)
		}
	}
}

func TestSidesOfFewest(t *testing.T) {
	for size, fewest := range allFewest() {
		has := map[int]bool{}
		for _, c := range fewest {
			for _, s := range c.Squares {
				has[s.Side] = true
			}
		}
		var want []int
		for side := 1; side <= 13; side++ {
			if has[side] {
				want = append(want, side)
			}
		}
		if sides, ok := impl.SidesOfFewest(size[0], size[1]); !ok || !slices.Equal(sides, want) {
			t.Error(size, sides, ok)
		}
	}
	for _, w := range []struct {
		width, height int
		sides         []int
	}{
		{1, 1, []int{1}}, {13, 13, []int{13}}, {13, 1, []int{1}}, {1, 13, []int{1}}, {3, 2, []int{1, 2}}, {2, 3, []int{1, 2}}, {6, 5, []int{2, 3}}, {12, 8, []int{4, 8}},
	} {
		if sides, ok := impl.SidesOfFewest(w.width, w.height); !ok || !slices.Equal(sides, w.sides) {
			t.Error(w.width, w.height, sides, ok)
		}
	}
	for _, size := range noSizes(13) {
		if sides, ok := impl.SidesOfFewest(size[0], size[1]); ok || len(sides) > 0 {
			t.Error(size, sides, ok)
		}
	}
}

// noWidths are no numbers in 1 up to a limit.
func noWidths(most int) []int {
	return []int{math.MinInt, math.MinInt + 1, -1 << 32, -most, -1, 0, most + 1, most + 2, 1 << 31, 1<<32 + 1, 1 << 62, math.MaxInt - 1, math.MaxInt}
}

func TestFewestTable(t *testing.T) {
	for width := 1; width <= 9; width++ {
		if table, ok := impl.FewestTable(width); !ok || !slices.Equal(table, knownFewest()[width-1]) {
			t.Error(width, table, ok)
		}
	}
	for _, width := range append(noWidths(9), 12, 13, 14) {
		if table, ok := impl.FewestTable(width); ok || len(table) > 0 {
			t.Error(width, table, ok)
		}
	}
}

func TestFewestByLines(t *testing.T) {
	for size, count := range fewestLined() {
		if n, ok := impl.FewestByLines(size[0], size[1]); !ok || n != count {
			t.Error(size, n, ok)
		}
	}
	// A single number is not bounded by how many squares a cut can have.
	for _, w := range [][3]int{
		{1, 1, 1}, {60, 60, 1}, {60, 1, 60}, {1, 60, 60}, {31, 1, 31}, {1, 31, 31}, {30, 1, 30}, {59, 2, 31}, {60, 2, 30}, {60, 30, 2}, {13, 11, 8}, {11, 13, 8}, {13, 12, 7}, {6, 5, 5}, {14, 13, 7},
	} {
		if n, ok := impl.FewestByLines(w[0], w[1]); !ok || n != w[2] {
			t.Error(w, n, ok)
		}
	}
	for _, size := range noSizes(60) {
		if n, ok := impl.FewestByLines(size[0], size[1]); ok || n != 0 {
			t.Error(size, n, ok)
		}
	}
}

func TestCutByLines(t *testing.T) {
	for size, count := range fewestLined() {
		g := noCells(size[0], size[1])
		linedByCells(g, 0, 0, size[0], size[1], 0)
		want := impl.Cut{}
		if count <= 30 {
			want = cutOfCells(g)
		}
		if c, ok := impl.CutByLines(size[0], size[1]); ok != (count <= 30) || !same(c, want) {
			t.Error(size, textOf(c), ok)
		}
	}
	for _, w := range []struct {
		width, height int
		text          string
	}{
		{1, 1, "1x1;0,0,1"}, {60, 60, "60x60;0,0,60"}, {3, 2, "3x2;0,0,1;1,0,2;0,1,1"}, {2, 3, "2x3;0,0,1;1,0,1;0,1,2"}, {60, 30, "60x30;0,0,30;30,0,30"}, {30, 60, "30x60;0,0,30;0,30,30"},
		{5, 2, "5x2;0,0,1;1,0,2;3,0,2;0,1,1"}, {6, 5, "6x5;0,0,2;2,0,2;4,0,2;0,2,3;3,2,3"}, {5, 6, "5x6;0,0,2;2,0,3;0,2,2;2,3,3;0,4,2"},
	} {
		if c, ok := impl.CutByLines(w.width, w.height); !ok || textOf(c) != w.text {
			t.Error(w.width, w.height, textOf(c), ok)
		}
	}
	// These have just as many squares as a cut can have, and those one more, or many.
	for _, w := range [][2]int{{30, 1}, {1, 30}, {60, 2}, {2, 60}, {57, 2}} {
		if c, ok := impl.CutByLines(w[0], w[1]); !ok || len(c.Squares) != 30 || !impl.IsCut(c) {
			t.Error(w, textOf(c), ok)
		}
	}
	for _, w := range append(noSizes(60), [][2]int{{31, 1}, {1, 31}, {59, 2}, {2, 59}, {60, 1}, {1, 60}}...) {
		if c, ok := impl.CutByLines(w[0], w[1]); ok || !zero(c) {
			t.Error(w, textOf(c), ok)
		}
	}
}

func TestLinedTable(t *testing.T) {
	for width := 1; width <= 60; width++ {
		var want []int
		for height := 1; height <= width; height++ {
			want = append(want, fewestLined()[[2]int{width, height}])
		}
		if table, ok := impl.LinedTable(width); !ok || !slices.Equal(table, want) {
			t.Error(width, table, ok)
		}
	}
	for _, w := range [][]int{{1}, {2, 1}, {3, 3, 1}, {13, 8, 7, 7, 6, 6, 6, 6, 7, 7, 8, 7, 1}} {
		if table, ok := impl.LinedTable(len(w)); !ok || !slices.Equal(table, w) {
			t.Error(len(w), table, ok)
		}
	}
	for _, width := range noWidths(60) {
		if table, ok := impl.LinedTable(width); ok || len(table) > 0 {
			t.Error(width, table, ok)
		}
	}
}

func TestLinesLose(t *testing.T) {
	checkCounts(t, "LinesLose", func(size [2]int, fewest []impl.Cut) int { return fewestLined()[size] - len(fewest[0].Squares) })
	for _, w := range [][3]int{{13, 11, 2}, {11, 13, 2}, {13, 12, 0}, {13, 13, 0}, {1, 1, 0}, {13, 1, 0}, {1, 13, 0}, {6, 5, 0}} {
		if n, ok := impl.LinesLose(w[0], w[1]); !ok || n != w[2] {
			t.Error(w, n, ok)
		}
	}
}

func TestGreedyLose(t *testing.T) {
	checkCounts(t, "GreedyLose", func(size [2]int, fewest []impl.Cut) int {
		_, sides := greedyByCells(size[0], size[1])
		return len(sides) - len(fewest[0].Squares)
	})
	for _, w := range [][3]int{{6, 5, 1}, {5, 6, 1}, {13, 12, 6}, {12, 13, 6}, {13, 11, 2}, {11, 10, 5}, {13, 13, 0}, {1, 1, 0}, {13, 1, 0}, {1, 13, 0}} {
		if n, ok := impl.GreedyLose(w[0], w[1]); !ok || n != w[2] {
			t.Error(w, n, ok)
		}
	}
}

func TestIsFewest(t *testing.T) {
	check := func(c impl.Cut, want, fine bool) {
		t.Helper()
		if is, ok := impl.IsFewest(c); is != want || ok != fine {
			t.Error(textOf(c), is, ok)
		}
	}
	for _, c := range sampleCuts() {
		small := c.Width <= 13 && c.Height <= 13
		check(c, small && len(c.Squares) == len(allFewest()[[2]int{c.Width, c.Height}][0].Squares), small)
	}
	for _, list := range allFewest() {
		for _, c := range list {
			check(c, true, true)
		}
	}
	for _, c := range []impl.Cut{grown(one, 13), grown(three, 4), rowsOfOnes(13, 1), rowsOfOnes(1, 13), rowsOfOnes(2, 1)} {
		check(c, true, true)
	}
	greedy, _ := impl.GreedyCut(13, 12)
	for _, c := range []impl.Cut{four, grown(four, 6), rowsOfOnes(13, 2), rowsOfOnes(2, 13), rowsOfOnes(6, 5), greedy} {
		check(c, false, true)
	}
	for _, c := range append(noCuts(), grown(one, 14), grown(three, 5), grown(rowsOfOnes(1, 2), 7), rowsOfOnes(14, 1), rowsOfOnes(1, 14), nine, rowsOfOnes(30, 1), grown(one, 500)) {
		check(c, false, false)
	}
}

// TestFewestAreTheSameEachTime makes calls at the same time and one after the other: which goroutine is first must not be seen.
func TestFewestAreTheSameEachTime(t *testing.T) {
	sizes := [][2]int{{13, 11}, {11, 13}, {13, 5}, {9, 8}, {13, 10}, {12, 7}}
	lists := make(chan bool)
	for k := range 60 {
		go func() {
			size := sizes[k%len(sizes)]
			c, ok := impl.FirstFewest(size[0], size[1])
			count, fine := impl.CountFewest(size[0], size[1])
			fewest := allFewest()[size]
			lists <- ok && fine && same(c, fewest[0]) && count == len(fewest)
		}()
	}
	for range 60 {
		if !<-lists {
			t.Error("another result")
		}
	}
	defer runtime.GOMAXPROCS(runtime.GOMAXPROCS(1))
	for _, size := range sizes {
		if list, ok := impl.FewestTurns(size[0], size[1]); !ok || !slices.EqualFunc(list, turnsByCells(allFewest()[size]), same) {
			t.Error("with one processor", size, list, ok)
		}
	}
}

func TestGoroutinesOfSearchesEnd(t *testing.T) {
	before := runtime.NumGoroutine()
	for range 20 {
		impl.FewestSquares(13, 12)
		impl.FirstFewest(13, 11)
		impl.CountFewest(13, 13)
		impl.FewestTurns(1, 13)
		impl.FewestTable(9)
		impl.IsFewest(three)
		impl.SidesOfFewest(14, 13)
		impl.LinesLose(0, 0)
	}
	checkGoroutinesEnd(t, before)
}
