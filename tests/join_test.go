package tests

import (
	"slices"
	"strings"
	"sync"
	"testing"

	"loop.example/g01296/impl"
)

// The functions of this file find by cells of side 1 what the program must find of cuts that are joined and parted, and by trying all numbers how much they are grown.

func growCells(g cells, k int) cells {
	var grown cells
	for _, row := range g {
		var wide []int
		for _, n := range row {
			wide = append(wide, slices.Repeat([]int{n}, k)...)
		}
		for range k {
			grown = append(grown, slices.Clone(wide))
		}
	}
	return grown
}

// fitting returns how many times at least each of two lengths of a cut must be taken so that they are the same.
func fitting(a, b int) (int, int) {
	for all := 1; all <= 500*500; all++ {
		if all%a == 0 && all%b == 0 {
			return all / a, all / b
		}
	}
	return 0, 0
}

// besideCutsByCells returns the zero cut if there is none.
func besideCutsByCells(a, b impl.Cut) impl.Cut {
	timesA, timesB := fitting(a.Height, b.Height)
	if a.Height*timesA > 500 || a.Width*timesA+b.Width*timesB > 500 || len(a.Squares)+len(b.Squares) > 30 {
		return impl.Cut{}
	}
	g, _ := cellsOf(a)
	h, _ := cellsOf(b)
	g, h = growCells(g, timesA), growCells(h, timesB)
	for y, row := range h {
		for _, k := range row {
			g[y] = append(g[y], len(a.Squares)+k)
		}
	}
	return cutOfCells(g)
}

func underCutsByCells(a, b impl.Cut) impl.Cut {
	timesA, timesB := fitting(a.Width, b.Width)
	if a.Width*timesA > 500 || a.Height*timesA+b.Height*timesB > 500 || len(a.Squares)+len(b.Squares) > 30 {
		return impl.Cut{}
	}
	g, _ := cellsOf(a)
	h, _ := cellsOf(b)
	g = growCells(g, timesA)
	for _, row := range growCells(h, timesB) {
		for x := range row {
			row[x] += len(a.Squares)
		}
		g = append(g, row)
	}
	return cutOfCells(g)
}

// putByCells turns the cells until the edge is at the right, puts columns there, and turns them on until the edge is where it was.
func putByCells(g cells, edge, k int) cells {
	for range (5 - edge) % 4 {
		g = turnCells(g)
	}
	g = columnsOf(g, 0, len(g[0]))
	for y := range g {
		g[y] = append(g[y], slices.Repeat([]int{k}, len(g))...)
	}
	for range (3 + edge) % 4 {
		g = turnCells(g)
	}
	return g
}

// exchangedByCells exchanges X and Y.
func exchangedByCells(c impl.Cut) impl.Cut {
	if zero(c) {
		return c
	}
	g, _ := cellsOf(c)
	return cutOfCells(mirrorCells(turnCells(g)))
}

// columnsOf returns the columns from one on up to another one.
func columnsOf(g cells, from, to int) cells {
	var columns cells
	for _, row := range g {
		columns = append(columns, slices.Clone(row[from:to]))
	}
	return columns
}

func linesAcrossByCells(g cells) []int {
	var lines []int
	for y := 1; y < len(g); y++ {
		if !meet(g[y-1], g[y]) {
			lines = append(lines, y)
		}
	}
	return lines
}

// linesDownByCells turns the first column above, so that it is the first row.
func linesDownByCells(g cells) []int {
	return linesAcrossByCells(turnCells(g))
}

// takenByCells returns the zero cut unless the squares have just the cells of a rectangle.
func takenByCells(g cells, squares []int) impl.Cut {
	left, top, right, below, count := len(g[0]), len(g), 0, 0, 0
	for y, row := range g {
		for x, k := range row {
			if slices.Contains(squares, k) {
				left, top, right, below = min(left, x), min(top, y), max(right, x+1), max(below, y+1)
				count++
			}
		}
	}
	if count == 0 || count != (right-left)*(below-top) {
		return impl.Cut{}
	}
	return cutOfCells(columnsOf(g[top:below], left, right))
}

// replacedByCells paints the cells of d over those of the square k, and returns the zero cut if there is none.
func replacedByCells(c impl.Cut, k int, d impl.Cut) impl.Cut {
	s := c.Squares[k]
	timesC, timesD := fitting(s.Side, d.Width)
	if max(c.Width, c.Height)*timesC > 500 || len(c.Squares)-1+len(d.Squares) > 30 {
		return impl.Cut{}
	}
	g, _ := cellsOf(c)
	h, _ := cellsOf(d)
	g = growCells(g, timesC)
	for y, row := range growCells(h, timesD) {
		for x, n := range row {
			g[s.Y*timesC+y][s.X*timesC+x] = len(c.Squares) + n
		}
	}
	return cutOfCells(g)
}

// treeByCells returns the empty text if the cells are not by lines.
func treeByCells(g cells) string {
	if isOneByCells(g) {
		return "s"
	}
	var first, second string
	sign := "b"
	if down := linesDownByCells(g); len(down) > 0 {
		first, second = treeByCells(columnsOf(g, 0, down[0])), treeByCells(columnsOf(g, down[0], len(g[0])))
	} else if across := linesAcrossByCells(g); len(across) > 0 {
		sign = "u"
		first, second = treeByCells(g[:across[0]]), treeByCells(g[across[0]:])
	}
	if first == "" || second == "" {
		return ""
	}
	return sign + first + second
}

// treesUpTo has the cut of each text that is made as a tree is, of up to so many squares.
func treesUpTo(most int) map[string]impl.Cut {
	bySize := [][]string{nil, {"s"}}
	all := map[string]impl.Cut{"s": one}
	for size := 2; size <= most; size++ {
		var texts []string
		for left := 1; left < size; left++ {
			for _, a := range bySize[left] {
				for _, b := range bySize[size-left] {
					all["b"+a+b] = besideCutsByCells(all[a], all[b])
					all["u"+a+b] = underCutsByCells(all[a], all[b])
					texts = append(texts, "b"+a+b, "u"+a+b)
				}
			}
		}
		bySize = append(bySize, texts)
	}
	return all
}

var treesOfFive = sync.OnceValue(func() map[string]impl.Cut { return treesUpTo(5) })

// noTrees are no texts of trees, each for a reason of its own.
func noTrees() []string {
	return []string{
		"", "b", "u", "ss", "bs", "us", "sb", "su", "sbs", "ssb", "bsss", "bssu", "bsuss ", " bsuss", "bsu ss", "bssbss", "bbss", "uuss", "bubss", "S", "B", "Bss", "bSs", "bsS", "xss", "bxs", "bsx",
		"s\x00", "\x00", "\x00ss", "\xff", "bs\xff", "\xffss", "ü", "büs", "üss", "-", "(s)", "b(s)(s)", "b,s,s", "s\n", "\ns", "0", "1",
		// 60 signs are never a tree, as each tree has one `s` more than other signs.
		strings.Repeat("s", 60), strings.Repeat("bs", 30), strings.Repeat("b", 60), strings.Repeat("b", 30) + strings.Repeat("s", 30), strings.Repeat("u", 29) + strings.Repeat("s", 31),
		// 61 signs of a tree are one more than there may be.
		strings.Repeat("bs", 30) + "s", strings.Repeat("us", 30) + "s", strings.Repeat("b", 30) + strings.Repeat("s", 31),
		strings.Repeat("s", 100000), strings.Repeat("b", 100000), strings.Repeat("bs", 50000) + "s",
	}
}

// noLists are no lists of squares of a cut of so many, each for a reason of its own.
func noLists(squares int) [][]int {
	last := squares - 1
	list := [][]int{nil, {}, {0, 0}, {last, last}, {squares}, {-1}, {-1, 0}, {last, squares}, {0, squares}, {last + 1, 0}, slices.Repeat([]int{0}, 31), make([]int, 100000)}
	for _, n := range strangeInts() {
		if n < 0 || n > last {
			list = append(list, []int{n}, []int{0, n}, []int{n, 0}, []int{n, last}, []int{n, n})
		}
		list = append(list, []int{n, n})
	}
	if last > 0 {
		list = append(list, []int{last, 0}, []int{1, 0}, []int{0, last, last}, []int{0, last, 0}, []int{0, 0, last})
	}
	return list
}

func TestJoinedCutsAreWhatTheyShouldBe(t *testing.T) {
	// How many ways there are to make a tree of squares: 2 to the power of one less, times a Catalan number.
	if n := len(treesOfFive()); n != 1+2+8+40+224 {
		t.Error("trees", n)
	}
	for text, c := range treesOfFive() {
		g, ok := cellsOf(c)
		if !ok || !isByLinesByCells(g) || len(c.Squares) != strings.Count(text, "s") {
			t.Error(text, textOf(c), ok)
		}
		tree := treeByCells(g)
		if again := treesOfFive()[tree]; !same(c, again) {
			t.Error("tree", text, tree, textOf(c), textOf(again))
		}
	}
	for _, text := range noTrees() {
		if c, is := treesOfFive()[text]; is {
			t.Error("a tree", text, textOf(c))
		}
	}
	for _, c := range sampleCuts() {
		g, _ := cellsOf(c)
		if isByLinesByCells(g) != (treeByCells(g) != "") {
			t.Error("by lines", textOf(c))
		}
		h, _ := cellsOf(grown(c, 2))
		if !same(cutOfCells(growCells(g, 2)), cutOfCells(h)) {
			t.Error("grown", textOf(c))
		}
		parts := partsByCells(c, g)
		for _, list := range parts {
			if zero(takenByCells(g, list)) {
				t.Error("a part", textOf(c), list)
			}
		}
		for edge := range 4 {
			d := cutOfCells(putByCells(g, edge, len(c.Squares)))
			length := [4]int{c.Width, c.Height, c.Width, c.Height}[edge]
			if d.Width+d.Height != c.Width+c.Height+length || len(d.Squares) != len(c.Squares)+1 {
				t.Error("put", textOf(c), edge, textOf(d))
			}
		}
	}
}
