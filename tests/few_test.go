package tests

import (
	"math"
	"slices"
	"sync"
	"testing"

	"loop.example/g01296/impl"
)

// The functions of this file find by cells of side 1, trying one number of squares after the other, what the program must find of the fewest squares, and by trying all lines what it must find of cuts by lines.

// cutsWithin finds, in their order, all cuts of at most so many squares.
func cutsWithin(width, height, most int) []impl.Cut {
	var list []impl.Cut
	g := noCells(width, height)
	var fill func(count int)
	fill = func(count int) {
		x, y := firstFree(g)
		if y == height {
			list = append(list, cutOfCells(g))
			return
		}
		for side := 1; count < most && x+side <= width && y+side <= height && g[y][x+side-1] < 0; side++ {
			paint(g, x, y, side, count)
			fill(count + 1)
			paint(g, x, y, side, -1)
		}
	}
	fill(0)
	return list
}

// fewestOfSize begins with one square, so the first cuts that it finds are those with the fewest.
func fewestOfSize(width, height int) []impl.Cut {
	for most := 1; ; most++ {
		if list := cutsWithin(width, height, most); len(list) > 0 {
			return list
		}
	}
}

// allFewest has the cuts with the fewest squares for each width and height of chapter 5.
var allFewest = sync.OnceValue(func() map[[2]int][]impl.Cut {
	all := map[[2]int][]impl.Cut{}
	for width := 1; width <= 13; width++ {
		for height := 1; height <= 13; height++ {
			all[[2]int{width, height}] = fewestOfSize(width, height)
		}
	}
	return all
})

// turnsByCells has the first turn of each cut once.
func turnsByCells(cuts []impl.Cut) []impl.Cut {
	var list []impl.Cut
	for _, c := range cuts {
		g, _ := cellsOf(c)
		list = append(list, firstByCells(g))
	}
	slices.SortFunc(list, func(a, b impl.Cut) int { return slices.Compare(numbersOf(a), numbersOf(b)) })
	return slices.CompactFunc(list, same)
}

// isByLinesByCells tries all lines through all cells.
func isByLinesByCells(g cells) bool {
	if isOneByCells(g) {
		return len(g) == len(g[0])
	}
	for range 2 {
		for y := 1; y < len(g); y++ {
			// Squares that are above and below the line keep it from going through.
			if !meet(g[y-1], g[y]) && isByLinesByCells(g[:y]) && isByLinesByCells(g[y:]) {
				return true
			}
		}
		g = turnCells(g)
	}
	return false
}

func isOneByCells(g cells) bool {
	for _, row := range g {
		if row[0] != g[0][0] || lengthOfRun(row) < len(row) {
			return false
		}
	}
	return true
}

func meet(above, below []int) bool {
	for x, k := range above {
		if below[x] == k {
			return true
		}
	}
	return false
}

// fewestLined tells for all widths and heights of 60 and less how many squares cuts by lines have at least, by all lines at all places.
var fewestLined = sync.OnceValue(func() map[[2]int]int {
	all := map[[2]int]int{}
	for width := 1; width <= 60; width++ {
		for height := 1; height <= 60; height++ {
			counts := []int{width * height}
			if width == height {
				counts = []int{1}
			}
			for x := 1; x < width; x++ {
				counts = append(counts, all[[2]int{x, height}]+all[[2]int{width - x, height}])
			}
			for y := 1; y < height; y++ {
				counts = append(counts, all[[2]int{width, y}]+all[[2]int{width, height - y}])
			}
			all[[2]int{width, height}] = slices.Min(counts)
		}
	}
	return all
})

// linedByCells paints the cut by lines that the contract of CutByLines describes, from x, y on, with numbers from k on, and returns the next number.
func linedByCells(g cells, x, y, width, height, k int) int {
	all := fewestLined()
	most := all[[2]int{width, height}]
	for left := 1; width != height && 2*left <= width; left++ {
		if all[[2]int{left, height}]+all[[2]int{width - left, height}] == most {
			k = linedByCells(g, x, y, left, height, k)
			return linedByCells(g, x+left, y, width-left, height, k)
		}
	}
	for above := 1; width != height && 2*above <= height; above++ {
		if all[[2]int{width, above}]+all[[2]int{width, height - above}] == most {
			k = linedByCells(g, x, y, width, above, k)
			return linedByCells(g, x, y+above, width, height-above, k)
		}
	}
	paint(g, x, y, width, k)
	return k + 1
}

// noSizes are no widths and heights up to a limit, each for a reason of its own.
func noSizes(most int) [][2]int {
	list := [][2]int{{0, 0}, {-1, -1}, {most + 1, most + 1}, {most, most + 1}, {most + 1, most}, {math.MinInt, math.MaxInt}, {math.MaxInt, math.MinInt}}
	for _, n := range []int{math.MinInt, math.MinInt + 1, -1 << 32, -most, -1, 0, most + 1, 1 << 31, 1<<32 + 1, 1 << 62, math.MaxInt - 1, math.MaxInt} {
		list = append(list, [2]int{n, 1}, [2]int{1, n}, [2]int{n, 2}, [2]int{3, n}, [2]int{n, most}, [2]int{most, n}, [2]int{n, n})
	}
	return list
}

// knownFewest has a row for each width and, up to it, a number for each height.
func knownFewest() [][]int {
	return [][]int{
		{1},
		{2, 1},
		{3, 3, 1},
		{4, 2, 4, 1},
		{5, 4, 4, 5, 1},
		{6, 3, 2, 3, 5, 1},
		{7, 5, 5, 5, 5, 5, 1},
		{8, 4, 5, 2, 5, 4, 7, 1},
		{9, 6, 3, 6, 6, 3, 6, 7, 1},
		{10, 5, 6, 4, 2, 4, 6, 5, 6, 1},
		{11, 7, 6, 6, 6, 6, 6, 6, 7, 6, 1},
		{12, 6, 4, 3, 6, 2, 6, 3, 4, 5, 7, 1},
		{13, 8, 7, 7, 6, 6, 6, 6, 7, 7, 6, 7, 1},
	}
}

func TestFewestAreWhatTheyShouldBe(t *testing.T) {
	// How many squares a rectangle needs is known: that of 11 by 13 is the first one that lines alone do not fill so well.
	for width, row := range knownFewest() {
		for height, count := range row {
			list := allFewest()[[2]int{width + 1, height + 1}]
			if len(list[0].Squares) != count {
				t.Error(width+1, height+1, len(list[0].Squares), count)
			}
		}
	}
	for size, list := range allFewest() {
		if lined := fewestLined()[size]; lined < len(list[0].Squares) {
			t.Error(size, lined, textOf(list[0]))
		}
		if size[0]*size[1] > 30 {
			continue
		}
		var few []impl.Cut
		lined := 30
		for _, c := range cutsOfSize(size[0], size[1]) {
			if len(c.Squares) == len(list[0].Squares) {
				few = append(few, c)
			}
			if g, _ := cellsOf(c); isByLinesByCells(g) {
				lined = min(lined, len(c.Squares))
			}
		}
		if !slices.EqualFunc(few, list, same) || lined != fewestLined()[size] {
			t.Error("all cuts", size, len(few), len(list), lined)
		}
	}
	for _, c := range []impl.Cut{one, three, four, split, grown(through, 2), nine, grown(nine, 2)} {
		if g, _ := cellsOf(c); isByLinesByCells(g) != (len(c.Squares) < 9) {
			t.Error("by lines", textOf(c))
		}
	}
}
