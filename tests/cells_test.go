package tests

import (
	"fmt"
	"slices"
	"strings"

	"loop.example/g01296/impl"
)

// The functions of this file find by cells of side 1 alone, without the program, what it must find by squares.

// cells tells for each cell, by y and then x, the square that it is in, or -1.
type cells [][]int

func noCells(width, height int) cells {
	g := make(cells, height)
	for y := range g {
		g[y] = slices.Repeat([]int{-1}, width)
	}
	return g
}

// cellsOf reports false if squares leave the rectangle, have a common cell, or leave one free.
func cellsOf(c impl.Cut) (cells, bool) {
	g := noCells(c.Width, c.Height)
	for i, s := range c.Squares {
		for y := s.Y; y < s.Y+s.Side; y++ {
			for x := s.X; x < s.X+s.Side; x++ {
				if y < 0 || y >= c.Height || x < 0 || x >= c.Width || g[y][x] >= 0 {
					return nil, false
				}
				g[y][x] = i
			}
		}
	}
	for _, row := range g {
		if slices.Contains(row, -1) {
			return nil, false
		}
	}
	return g, true
}

// cutOfCells reads the squares row by row, so that they come in the order of a cut.
func cutOfCells(g cells) impl.Cut {
	c := impl.Cut{Width: len(g[0]), Height: len(g)}
	seen := map[int]bool{}
	for y, row := range g {
		for x, k := range row {
			if seen[k] {
				continue
			}
			seen[k] = true
			c.Squares = append(c.Squares, impl.Square{X: x, Y: y, Side: lengthOfRun(row[x:])})
		}
	}
	return c
}

func turnCells(g cells) cells {
	t := noCells(len(g), len(g[0]))
	for y, row := range g {
		for x, k := range row {
			t[x][len(g)-1-y] = k
		}
	}
	return t
}

func mirrorCells(g cells) cells {
	m := noCells(len(g[0]), len(g))
	for y, row := range g {
		for x, k := range row {
			m[y][len(row)-1-x] = k
		}
	}
	return m
}

func besideByCells(g cells, k int) []int {
	var list []int
	note := func(a, b int) {
		if a == k && b != k {
			list = append(list, b)
		}
	}
	for range 4 {
		for _, row := range g {
			for x := 1; x < len(row); x++ {
				note(row[x-1], row[x])
			}
		}
		g = turnCells(g)
	}
	slices.Sort(list)
	return slices.Compact(list)
}

func edgesByCells(g cells) []int {
	counts := make([]int, 4)
	for _, edge := range []int{0, 3, 2, 1} { // a turn to the right brings the edge at the left above
		counts[edge] = len(slices.Compact(slices.Clone(g[0])))
		g = turnCells(g)
	}
	return counts
}

func crossesByCells(g cells) [][]int {
	var list [][]int
	for y := 1; y < len(g); y++ {
		for x := 1; x < len(g[y]); x++ {
			four := []int{g[y-1][x-1], g[y-1][x], g[y][x-1], g[y][x]}
			slices.Sort(four)
			if len(slices.Compact(four)) == 4 {
				list = append(list, []int{x, y})
			}
		}
	}
	return list
}

func longestByCells(g cells) int {
	longest := 0
	for range 2 {
		for y := 1; y < len(g); y++ {
			run := 0
			for x := range g[y] {
				run++
				if g[y-1][x] == g[y][x] {
					run = 0
				}
				longest = max(longest, run)
			}
		}
		g = turnCells(g)
	}
	return longest
}

func partsByCells(c impl.Cut, g cells) [][]int {
	var parts [][]int
	for y := range c.Height {
		for x := range c.Width {
			for below := y + 1; below <= c.Height; below++ {
				for right := x + 1; right <= c.Width; right++ {
					list := insideByCells(g, x, y, right, below)
					if len(list) >= 2 && len(list) < len(c.Squares) {
						parts = append(parts, list)
					}
				}
			}
		}
	}
	slices.SortFunc(parts, slices.Compare)
	return parts
}

// insideByCells returns nil if a square has cells both within and without the rectangle.
func insideByCells(g cells, x, y, right, below int) []int {
	in, out := map[int]bool{}, map[int]bool{}
	for v, row := range g {
		for u, k := range row {
			if y <= v && v < below && x <= u && u < right {
				in[k] = true
			} else {
				out[k] = true
			}
		}
	}
	var list []int
	for k := range in {
		if out[k] {
			return nil
		}
		list = append(list, k)
	}
	slices.Sort(list)
	return list
}

func firstByCells(g cells) impl.Cut {
	var best impl.Cut
	for range 4 {
		g = turnCells(g)
		for _, d := range []impl.Cut{cutOfCells(g), cutOfCells(mirrorCells(g))} {
			if d.Width >= d.Height && (best.Width == 0 || slices.Compare(numbersOf(d), numbersOf(best)) < 0) {
				best = d
			}
		}
	}
	return best
}

// codeByCells goes on with a group where the cell at the left of a square is of one that begins in the same row.
func codeByCells(g cells) [][]int {
	var code [][]int
	for y, row := range g {
		behind := false
		for x, k := range row {
			starts := y == 0 || g[y-1][x] != k
			if starts && (x == 0 || row[x-1] != k) {
				if !behind {
					code = append(code, nil)
				}
				last := len(code) - 1
				code[last] = append(code[last], lengthOfRun(row[x:]))
			}
			behind = starts
		}
	}
	return code
}

func lengthOfRun(row []int) int {
	length := 0
	for length < len(row) && row[length] == row[0] {
		length++
	}
	return length
}

func levelsByCells(g cells) []int {
	var levels []int
	for y, row := range g {
		for x, k := range row {
			if (y == 0 || g[y-1][x] != k) && !slices.Contains(levels, y) {
				levels = append(levels, y)
			}
		}
	}
	return levels
}

// cellsOfSides puts a square with each side at the first free cell, and reports false if these do not fill a rectangle.
func cellsOfSides(width int, sides []int) (cells, bool) {
	area := 0
	for _, side := range sides {
		area += side * side
	}
	if area%width != 0 {
		return nil, false
	}
	g := noCells(width, area/width)
	for k, side := range sides {
		x, y := firstFree(g)
		if x+side > width || y+side > len(g) {
			return nil, false
		}
		for u := x; u < x+side; u++ {
			if g[y][u] >= 0 {
				return nil, false
			}
		}
		paint(g, x, y, side, k)
	}
	return g, true
}

func numbersOf(c impl.Cut) []int {
	var list []int
	for _, s := range c.Squares {
		list = append(list, s.X, s.Y, s.Side)
	}
	return list
}

func textOf(c impl.Cut) string {
	text := fmt.Sprintf("%dx%d", c.Width, c.Height)
	for _, s := range c.Squares {
		text += fmt.Sprintf(";%d,%d,%d", s.X, s.Y, s.Side)
	}
	return text
}

func textOfCode(code [][]int) string {
	var text strings.Builder
	for _, group := range code {
		text.WriteString("(" + strings.ReplaceAll(strings.Trim(fmt.Sprint(group), "[]"), " ", ",") + ")")
	}
	return text.String()
}
