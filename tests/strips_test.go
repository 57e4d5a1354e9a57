package tests

import (
	"math"
	"slices"
	"sync"
	"testing"

	"loop.example/g01296/impl"
)

// The functions of this file find by whole columns of cells, and by places of squares in any order, what the program must find of strips by filling them.

// ends tells for each row of a strip how many cells of squares that begin before there are still, from a column on.
type ends [4]int

// tally tells how many squares of 1, 2, 3 and 4 there are.
type tally [4]int

func (t tally) squares() int {
	return t[0] + t[1] + t[2] + t[3]
}

// fillColumn fills all that is free of a column, from a row on, with squares that begin there, and notes each way to do it.
func fillColumn(height, row int, e ends, t tally, note func(e ends, t tally)) {
	if row == height {
		for r := range height {
			e[r]--
		}
		note(e, t)
		return
	}
	if e[row] > 0 {
		fillColumn(height, row+1, e, t, note)
		return
	}
	for side := 1; row+side <= height && e[row+side-1] == 0; side++ {
		f, u := e, t
		for r := row; r < row+side; r++ {
			f[r] = side
		}
		u[side-1]++
		fillColumn(height, row+side, f, u, note)
	}
}

// stripTallies has for each height and length of strips how many of them have the same squares.
var stripTallies = sync.OnceValue(func() map[[2]int]map[tally]int {
	all := map[[2]int]map[tally]int{}
	for height := 1; height <= 4; height++ {
		filled := map[ends]map[tally]int{{}: {{}: 1}}
		for length := 1; length <= 30; length++ {
			next := map[ends]map[tally]int{}
			for e, tallies := range filled {
				for t, ways := range tallies {
					fillColumn(height, 0, e, t, func(f ends, u tally) {
						if next[f] == nil {
							next[f] = map[tally]int{}
						}
						next[f][u] += ways
					})
				}
			}
			filled = next
			all[[2]int{height, length}] = filled[ends{}]
		}
	}
	return all
})

// sumOfTallies adds up what is told of the tallies of all strips.
func sumOfTallies(tallies map[tally]int, tell func(t tally) int) int {
	sum := 0
	for t, ways := range tallies {
		sum += ways * tell(t)
	}
	return sum
}

func countOfTallies(tallies map[tally]int) int {
	return sumOfTallies(tallies, func(tally) int { return 1 })
}

// fillSidesByCells reads the squares column by column.
func fillSidesByCells(c impl.Cut) []int {
	g, _ := cellsOf(c)
	seen := map[int]bool{}
	var sides []int
	for x := range c.Width {
		for y := range c.Height {
			if k := g[y][x]; !seen[k] {
				seen[k] = true
				sides = append(sides, lengthOfRun(g[y][x:]))
			}
		}
	}
	return sides
}

// filledByCells puts a square with each side at the first free cell, column by column, and returns the zero cut if these are no strip.
func filledByCells(height int, sides []int) impl.Cut {
	g := noCells(30, height)
	end := 0
	for k, side := range sides {
		at := 0
		for at < 30*height && g[at%height][at/height] >= 0 {
			at++
		}
		s := impl.Square{X: at / height, Y: at % height, Side: side}
		if side < 1 || s.X+side > 30 || s.Y+side > height || !isFree(g, s) {
			return impl.Cut{}
		}
		paint(g, s.X, s.Y, side, k)
		end = max(end, s.X+side)
	}
	g = columnsOf(g, 0, end)
	for _, row := range g {
		if len(row) == 0 || len(sides) > 30 || slices.Contains(row, -1) {
			return impl.Cut{}
		}
	}
	return cutOfCells(g)
}

// someStrips has, in order, all strips of some heights and lengths, those with more than 30 squares too.
var someStrips = sync.OnceValue(func() map[[2]int][]impl.Cut {
	all := map[[2]int][]impl.Cut{}
	for k, most := range []int{30, 17, 11, 8} {
		for length := 1; length <= most; length++ {
			list := cutsByPlaces(length, k+1)
			slices.SortFunc(list, func(a, b impl.Cut) int { return slices.Compare(fillSidesByCells(a), fillSidesByCells(b)) })
			all[[2]int{k + 1, length}] = list
		}
	}
	return all
})

// noStripSizes are no heights and lengths of strips, each for a reason of its own.
func noStripSizes() [][2]int {
	list := [][2]int{{0, 0}, {-1, -1}, {5, 5}, {5, 30}, {5, 31}, {4, 31}, {30, 4}, {31, 5}, {6, 1}, {-4, -30}, {-3, -3}, {math.MinInt, math.MaxInt}, {math.MaxInt, math.MinInt}, {math.MaxInt, math.MaxInt}, {math.MinInt, math.MinInt}}
	for _, height := range noWidths(4) {
		list = append(list, [2]int{height, 1}, [2]int{height, 3}, [2]int{height, 30})
	}
	for _, length := range noWidths(30) {
		list = append(list, [2]int{1, length}, [2]int{2, length}, [2]int{3, length}, [2]int{4, length})
	}
	return list
}

// rowOf puts cuts of one height beside each other.
func rowOf(cuts ...impl.Cut) impl.Cut {
	g := noCells(0, cuts[0].Height)
	squares := 0
	for _, c := range cuts {
		h, _ := cellsOf(c)
		for y, row := range h {
			for _, k := range row {
				g[y] = append(g[y], squares+k)
			}
		}
		squares += len(c.Squares)
	}
	return cutOfCells(g)
}

// rowOfSame puts a cut beside itself, so that it is there so many times.
func rowOfSame(c impl.Cut, times int) impl.Cut {
	return rowOf(slices.Repeat([]impl.Cut{c}, times)...)
}

// longStrips are strips of the greatest length, or of the greatest one that those of their kind have with no more squares than a cut.
func longStrips() []impl.Cut {
	return []impl.Cut{
		rowsOfOnes(30, 1), rowOfSame(grown(one, 2), 15), rowOf(rowOfSame(grown(one, 2), 14), four), rowOf(four, rowOfSame(grown(one, 2), 14)),
		rowOfSame(grown(one, 3), 10), rowOf(rowsOfOnes(1, 3), rowOfSame(grown(one, 3), 9), rowsOfOnes(1, 3)),
		rowOf(rowOfSame(grown(one, 4), 7), grown(rowsOfOnes(1, 2), 2)), rowOf(rowsOfOnes(2, 4), rowOfSame(grown(one, 4), 7)), rowOf(grown(rowsOfOnes(1, 2), 2), rowOfSame(grown(one, 4), 7)),
		staggered(27), staggered(26),
	}
}

// staggered has squares of 2, of which the lower ones begin 1 behind the upper ones: so it is whole.
func staggered(length int) impl.Cut {
	var upper, lower []impl.Square
	for x := 0; x+2 <= length; x += 2 {
		upper = append(upper, impl.Square{X: x, Y: 0, Side: 2})
	}
	for x := 1; x+2 <= length; x += 2 {
		lower = append(lower, impl.Square{X: x, Y: 2, Side: 2})
	}
	g := noCells(length, 4)
	for k, s := range append(upper, lower...) {
		paint(g, s.X, s.Y, 2, k)
	}
	return cutWithOnes(g)
}

// noStrips are cuts that are too high or too long, or no cuts at all.
func noStrips() []impl.Cut {
	return append(noCuts(), nine, through, rowsOfOnes(6, 5), rowsOfOnes(1, 5), rowsOfOnes(1, 30), rowsOfOnes(5, 5), rowsOfOnes(5, 6), grown(one, 5), grown(one, 30), grown(one, 31), grown(one, 500), grown(three, 3), grown(three, 100),
		rowOf(rowOfSame(grown(one, 2), 15), rowsOfOnes(1, 2)), rowOfSame(grown(one, 2), 16), rowOf(rowOfSame(grown(one, 3), 10), rowsOfOnes(1, 3)), rowOf(rowOfSame(grown(one, 4), 7), grown(rowsOfOnes(1, 2), 2), rowsOfOnes(1, 4)), rowOfSame(grown(one, 4), 8),
		rowOfSame(grown(one, 4), 30), rowOfSame(grown(one, 5), 6),
		// More squares than a cut has.
		rowsOfOnes(16, 2), rowsOfOnes(11, 3), rowsOfOnes(8, 4), rowsOfOnes(30, 4), rowsOfOnes(31, 1))
}

func TestStripsAreWhatTheyShouldBe(t *testing.T) {
	if len(stripTallies()) != 120 || len(someStrips()) != 30+17+11+8 {
		t.Error(len(stripTallies()), len(someStrips()))
	}
	for size, strips := range someStrips() {
		own := map[tally]int{}
		for k, c := range strips {
			var counts tally
			for _, s := range c.Squares {
				counts[s.Side-1]++
			}
			own[counts]++
			if _, ok := cellsOf(c); !ok || k > 0 && slices.Compare(fillSidesByCells(strips[k-1]), fillSidesByCells(c)) >= 0 {
				t.Fatal(size, k, textOf(c), ok)
			}
			if d := filledByCells(size[0], fillSidesByCells(c)); len(c.Squares) <= 30 && !same(c, d) {
				t.Fatal(size, k, textOf(c), textOf(d))
			}
		}
		for counts, n := range stripTallies()[size] {
			if own[counts] != n {
				t.Error(size, counts, n, own[counts])
			}
		}
		if n := countOfTallies(stripTallies()[size]); n != len(strips) {
			t.Error(size, n, len(strips))
		}
	}
	for size, tallies := range stripTallies() {
		for counts := range tallies {
			if counts[0]+4*counts[1]+9*counts[2]+16*counts[3] != size[0]*size[1] {
				t.Error(size, counts)
			}
		}
	}
	for _, c := range append(longStrips(), noStrips()[len(noCuts()):]...) {
		if _, ok := cellsOf(c); !ok {
			t.Error("no cut", textOf(c))
		}
	}
	for _, c := range longStrips() {
		if c.Height > 4 || c.Width > 30 || len(c.Squares) > 30 {
			t.Error("too long", textOf(c))
		}
	}
}
