package tests

import (
	"slices"
	"sync"
	"testing"

	"loop.example/g01296/impl"
)

// The functions of this file find by places of squares greater than 1, in any order, what the program must count by filling rectangles.

// cutsByPlaces takes or leaves each square greater than 1 at each place; cells that are free then are squares of 1. The cuts may have more squares than a cut of chapter 1.
func cutsByPlaces(width, height int) []impl.Cut {
	var places []impl.Square
	for side := min(width, height); side > 1; side-- {
		for x := range width - side + 1 {
			for y := range height - side + 1 {
				places = append(places, impl.Square{X: x, Y: y, Side: side})
			}
		}
	}
	var list []impl.Cut
	g := noCells(width, height)
	var choose func(k int)
	choose = func(k int) {
		if k == len(places) {
			list = append(list, cutWithOnes(g))
			return
		}
		choose(k + 1)
		if s := places[k]; isFree(g, s) {
			paint(g, s.X, s.Y, s.Side, k)
			choose(k + 1)
			paint(g, s.X, s.Y, s.Side, -1)
		}
	}
	choose(0)
	slices.SortFunc(list, inOrderOfCuts)
	return list
}

func isFree(g cells, s impl.Square) bool {
	for _, row := range g[s.Y : s.Y+s.Side] {
		for _, k := range row[s.X : s.X+s.Side] {
			if k >= 0 {
				return false
			}
		}
	}
	return true
}

// cutWithOnes makes a square of each cell that is free.
func cutWithOnes(g cells) impl.Cut {
	all := noCells(len(g[0]), len(g))
	ones := 0
	for y, row := range g {
		for x, k := range row {
			if k < 0 {
				ones++
				k = -ones
			}
			all[y][x] = k
		}
	}
	return cutOfCells(all)
}

func inOrderOfCuts(a, b impl.Cut) int {
	return slices.Compare(numbersOf(a), numbersOf(b))
}

// allCounted has all cuts, in order, for each width and height of chapter 7.
var allCounted = sync.OnceValue(func() map[[2]int][]impl.Cut {
	all := map[[2]int][]impl.Cut{}
	for width := 1; width <= 6; width++ {
		for height := 1; height <= 6; height++ {
			all[[2]int{width, height}] = cutsByPlaces(width, height)
		}
	}
	return all
})

// allListed has those of them whose product of width and height is so small that they are listed.
func allListed() map[[2]int][]impl.Cut {
	all := map[[2]int][]impl.Cut{}
	for size, cuts := range allCounted() {
		if size[0]*size[1] <= 16 {
			all[size] = cuts
		}
	}
	return all
}

// noListed are no widths and heights of cuts that are listed: the last ones may be counted.
func noListed() [][2]int {
	list := append(noSizes(6), [][2]int{{16, 1}, {1, 16}, {8, 2}, {2, 8}, {7, 2}, {2, 7}, {7, 1}, {1, 7}, {-4, -4}, {1 << 32, 1 << 32}, {1 << 62, 4}, {-1, -16}}...)
	for size := range allCounted() {
		if size[0]*size[1] > 16 {
			list = append(list, size)
		}
	}
	return list
}

// sidesByPlaces has the sides of a cut, the greatest ones first.
func sidesByPlaces(c impl.Cut) []int {
	var sides []int
	for side := 6; side > 0; side-- {
		for _, s := range c.Squares {
			if s.Side == side {
				sides = append(sides, side)
			}
		}
	}
	return sides
}

// countBy tells how many cuts are what is asked for.
func countBy(cuts []impl.Cut, is func(c impl.Cut) bool) int {
	count := 0
	for _, c := range cuts {
		if is(c) {
			count++
		}
	}
	return count
}

// knownCounts has a row for each width and, in it, the number of cuts for each height.
func knownCounts() [][]int {
	return [][]int{
		{1, 1, 1, 1, 1, 1},
		{1, 2, 3, 5, 8, 13},
		{1, 3, 6, 13, 28, 60},
		{1, 5, 13, 40, 117, 348},
		{1, 8, 28, 117, 472, 1916},
		{1, 13, 60, 348, 1916, 10668},
	}
}

func TestCountedAreWhatTheyShouldBe(t *testing.T) {
	for size, cuts := range allCounted() {
		if n := knownCounts()[size[0]-1][size[1]-1]; len(cuts) != n {
			t.Error(size, len(cuts), n)
		}
		for k, c := range cuts {
			if _, ok := cellsOf(c); !ok || k > 0 && inOrderOfCuts(cuts[k-1], c) >= 0 {
				t.Fatal(size, k, textOf(c), ok)
			}
		}
		if size[0]*size[1] <= 30 && !slices.EqualFunc(cuts, cutsOfSize(size[0], size[1]), same) {
			t.Error("by cells", size)
		}
	}
	if n := len(allListed()); n != 26 {
		t.Error("listed", n)
	}
}
