package tests

import (
	"math"
	"slices"
	"testing"

	"loop.example/g01296/impl"
)

// cut makes a cut of the X, Y and Side of its squares.
func cut(width, height int, numbers ...int) impl.Cut {
	c := impl.Cut{Width: width, Height: height}
	for three := range slices.Chunk(numbers, 3) {
		c.Squares = append(c.Squares, impl.Square{X: three[0], Y: three[1], Side: three[2]})
	}
	return c
}

// rowsOfOnes makes a cut of squares of 1 by 1.
func rowsOfOnes(width, height int) impl.Cut {
	c := impl.Cut{Width: width, Height: height}
	for k := range width * height {
		c.Squares = append(c.Squares, impl.Square{X: k % width, Y: k / width, Side: 1})
	}
	return c
}

func grown(c impl.Cut, k int) impl.Cut {
	d := impl.Cut{Width: c.Width * k, Height: c.Height * k}
	for _, s := range c.Squares {
		d.Squares = append(d.Squares, impl.Square{X: s.X * k, Y: s.Y * k, Side: s.Side * k})
	}
	return d
}

var (
	one     = cut(1, 1, 0, 0, 1)
	three   = cut(3, 2, 0, 0, 2, 2, 0, 1, 2, 1, 1)
	four    = cut(2, 2, 0, 0, 1, 1, 0, 1, 0, 1, 1, 1, 1, 1)
	nine    = cut(33, 32, 0, 0, 18, 18, 0, 15, 18, 15, 7, 25, 15, 8, 0, 18, 14, 14, 18, 4, 14, 22, 10, 24, 22, 1, 24, 23, 9)
	split   = cut(4, 2, 0, 0, 1, 1, 0, 2, 3, 0, 1, 0, 1, 1, 3, 1, 1)
	through = cut(5, 5, 0, 0, 3, 3, 0, 2, 3, 2, 1, 4, 2, 1, 0, 3, 2, 2, 3, 2, 4, 3, 1, 4, 4, 1)
)

// cutsOfSize finds all cuts of at most 30 squares by filling the first free cell of the first row in all ways.
func cutsOfSize(width, height int) []impl.Cut {
	var list []impl.Cut
	g := noCells(width, height)
	squares := []impl.Square{}
	var fill func()
	fill = func() {
		x, y := firstFree(g)
		if y == height {
			if len(squares) <= 30 {
				list = append(list, impl.Cut{Width: width, Height: height, Squares: slices.Clone(squares)})
			}
			return
		}
		for side := 1; x+side <= width && y+side <= height && g[y][x+side-1] < 0; side++ {
			paint(g, x, y, side, len(squares))
			squares = append(squares, impl.Square{X: x, Y: y, Side: side})
			fill()
			squares = squares[:len(squares)-1]
			paint(g, x, y, side, -1)
		}
	}
	fill()
	return list
}

func firstFree(g cells) (int, int) {
	for y, row := range g {
		if x := slices.Index(row, -1); x >= 0 {
			return x, y
		}
	}
	return 0, len(g)
}

func paint(g cells, x, y, side, k int) {
	for v := y; v < y+side; v++ {
		for u := x; u < x+side; u++ {
			g[v][u] = k
		}
	}
}

// sampleCuts are all cuts up to 5 by 5, and greater ones with lines and crosses of many kinds.
func sampleCuts() []impl.Cut {
	list := []impl.Cut{nine, grown(split, 3), grown(through, 2), grown(one, 7), rowsOfOnes(6, 5), rowsOfOnes(30, 1), rowsOfOnes(1, 30)}
	for width := 1; width <= 5; width++ {
		for height := 1; height <= 5; height++ {
			list = append(list, cutsOfSize(width, height)...)
		}
	}
	return list
}

// noCuts are not valid, each for a reason of its own.
func noCuts() []impl.Cut {
	least, greatest := math.MinInt, math.MaxInt
	list := []impl.Cut{
		{},
		{Width: 1, Height: 1},
		{Width: 1, Height: 1, Squares: []impl.Square{}},
		cut(0, 0, 0, 0, 0),
		cut(0, 1, 0, 0, 1),
		cut(-1, -1, 0, 0, -1),
		cut(501, 501, 0, 0, 501),
		cut(501, 167, 0, 0, 167, 167, 0, 167, 334, 0, 167),
		cut(167, 501, 0, 0, 167, 0, 167, 167, 0, 334, 167),
		rowsOfOnes(31, 1),
		rowsOfOnes(1, 31),
		cut(3, 2, 0, 0, 2, 2, 0, 1),
		cut(3, 2, 0, 0, 2, 2, 1, 1, 2, 0, 1),
		cut(3, 2, 2, 0, 1, 0, 0, 2, 2, 1, 1),
		cut(2, 2, 0, 0, 1, 0, 1, 1, 1, 0, 1, 1, 1, 1),
		cut(3, 2, 0, 0, 2, 2, 0, 1, 1, 1, 1),
		cut(2, 1, 0, 0, 1, 0, 0, 1),
		cut(1, 1, 0, 0, 1, 0, 0, 1),
		cut(2, 1, 0, 0, 1, 1, 0, 1, 2, 0, 0),
		cut(2, 1, 0, 0, 1, 2, 0, 1),
		cut(2, 1, -1, 0, 1, 1, 0, 1),
		cut(1, 2, 0, -1, 1, 0, 1, 1),
		cut(1, 2, 0, 0, 1, 0, 2, 1),
		cut(2, 2, 0, 0, -2),
		cut(1, 1, 1, 1, -1),
		cut(4, 2, 0, 0, 1<<32, 0, 0, 2, 2, 0, 2),
	}
	for _, n := range []int{least, least + 1, -1, 501, 1 << 31, 1 << 32, 1 << 62, greatest - 1, greatest} {
		list = append(list,
			cut(n, 1, 0, 0, 1), cut(1, n, 0, 0, 1), cut(n, n, 0, 0, n),
			cut(1, 1, n, 0, 1), cut(1, 1, 0, n, 1), cut(1, 1, 0, 0, n), cut(1, 1, n, n, n),
			cut(3, 2, 0, 0, 2, 2, 0, 1, n, 1, 1), cut(3, 2, 0, 0, 2, 2, 0, 1, 2, n, 1), cut(3, 2, 0, 0, 2, 2, 0, 1, 2, 1, n))
	}
	return list
}

// noCodes are not valid, each for a reason of its own: at the end are lists whose first sums wrap around to small ones.
func noCodes() [][][]int {
	least, greatest := math.MinInt, math.MaxInt
	ones := slices.Repeat([]int{1}, 31)
	list := [][][]int{
		nil, {}, {nil}, {{}}, {nil, {1}}, {{1}, nil}, {{1}, {}, {1}}, {{}, {1}}, {{2, 1}, {}, {1}}, make([][]int, 31), make([][]int, 100000),
		{{0}}, {{1}, {0}}, {{1, 0}}, {{0, 1}}, {{-1}}, {{1, -1, 1}}, {{-1, 2}, {1}}, {{1, 1}, {-1}},
		{{501}}, {{251, 251}}, {{251}, {251}}, {{250, 250}, {250, 251}},
		{{2, 1}}, {{2, 1, 1}}, {{2}, {1}}, {{2, 1}, {2}}, {{1}, {1, 1}}, {{1}, {2}}, {{3}, {2, 1}}, {{2, 1}, {1}, {1}}, {{1, 2}, {2}},
		{{2}, {1}, {1}}, {{1, 1}, {1}, {1}}, {{1, 2, 1}, {1, 1}}, {{2, 1, 1}, {1}}, {{1, 1}, {2}, {1}},
		{{18, 14, 4}, {10}, {15, 7}, {1, 9}, {8}}, {{18, 14}, {4, 10}, {15, 7}, {1, 9, 8}}, {{18, 14}, {4, 10}, {15, 7}, {1, 9}},
		{ones}, slices.Collect(slices.Chunk(ones, 1)), {ones[:16], ones[:16]}, {slices.Repeat([]int{1}, 100000)}, {{1}, make([]int, 100000)},
		{{greatest, greatest, 3}}, {{least, least, 1}}, {{least, 1, greatest, 1}}, {{1 << 62, 1 << 62, 1 << 62, 1 << 62, 1}},
	}
	for _, n := range []int{least, least + 1, -1, 0, 501, 1 << 31, 1 << 32, 1 << 62, greatest - 1, greatest} {
		list = append(list, [][]int{{n}}, [][]int{{1, n}}, [][]int{{n, 1}}, [][]int{{1}, {n}}, [][]int{{2, 1}, {n}}, [][]int{{n}, {n}}, [][]int{{n, n}})
	}
	return list
}

// codesInOrder are in the order of codes: by their sides, then by their widths; their groups alone would order them otherwise.
func codesInOrder() [][][]int {
	return [][][]int{
		{{1}}, {{1}, {1}}, {{1, 1}}, {{1}, {1}, {1}}, {{1, 1, 1}},
		{{1}, {1}, {1}, {1}}, {{1, 1}, {1, 1}}, {{1, 1, 1, 1}}, {{1, 1}, {2}}, {{1, 2}, {1}},
		{{2}}, {{2}, {1, 1}}, {{2, 1}, {1}}, {{2}, {2}}, {{2, 2}},
		{{10}}, {{10}, {10}}, {{18, 14}, {4, 10}, {15, 7}, {1, 9}, {8}}, {{499}}, {{500}},
	}
}

// strangeInts are numbers around the limits and at the ends of what an int can be.
func strangeInts() []int {
	return []int{math.MinInt, math.MinInt + 1, -1 << 62, -1 << 32, -500, -1, 0, 1, 2, 3, 4, 5, 29, 30, 31, 249, 250, 251, 499, 500, 501, 1 << 31, 1 << 32, 1 << 62, 1<<62 + 1, math.MaxInt - 1, math.MaxInt}
}

// same holds two cuts against each other: no squares and nil are the same.
func same(a, b impl.Cut) bool {
	return a.Width == b.Width && a.Height == b.Height && slices.Equal(a.Squares, b.Squares)
}

func zero(c impl.Cut) bool {
	return same(c, impl.Cut{})
}

func TestSamplesAreWhatTheyShouldBe(t *testing.T) {
	for _, w := range []struct{ side, count int }{{1, 1}, {2, 2}, {3, 6}, {4, 40}, {5, 472}} {
		if n := len(cutsOfSize(w.side, w.side)); n != w.count {
			t.Errorf("%d by %d: %d cuts, not %d", w.side, w.side, n, w.count)
		}
	}
	for _, c := range sampleCuts() {
		if _, ok := cellsOf(c); !ok {
			t.Error("no cut", textOf(c))
		}
	}
}
