package tests

import (
	"fmt"
	"math"
	"slices"
	"strings"
	"sync"
	"testing"

	"loop.example/g01296/impl"
)

// The functions of this file find by cells of side 1, in lists of all cuts and of all clues, what the program must find of puzzles.

func clue(kind, a, b int) impl.Clue {
	return impl.Clue{Kind: kind, A: a, B: b}
}

func puzzle(width, height int, clues ...impl.Clue) impl.Puzzle {
	return impl.Puzzle{Width: width, Height: height, Clues: clues}
}

// allHidden has all hidden cuts, in order, for each of their widths and heights.
var allHidden = sync.OnceValue(func() map[[2]int][]impl.Cut {
	all := map[[2]int][]impl.Cut{}
	for size, cuts := range allCounted() {
		if size[0]*size[1] <= 12 {
			all[size] = cuts
		}
	}
	return all
})

// hiddenSizes has the widths and heights in order.
func hiddenSizes() [][2]int {
	var sizes [][2]int
	for width := 1; width <= 6; width++ {
		for height := 1; height <= 6; height++ {
			if width*height <= 12 {
				sizes = append(sizes, [2]int{width, height})
			}
		}
	}
	return sizes
}

// cluesByCells has all clues that a hidden cut fits.
func cluesByCells(c impl.Cut) map[impl.Clue]bool {
	g, _ := cellsOf(c)
	cellsOfSquare := map[int]int{}
	for _, k := range slices.Concat(g...) {
		cellsOfSquare[k]++
	}
	fit := map[impl.Clue]bool{
		clue(0, len(cellsOfSquare), 0):     true,
		clue(4, len(crossesByCells(g)), 0): true,
		clue(5, longestByCells(g), 0):      true,
	}
	for side := 1; side <= 6; side++ {
		count := 0
		for _, n := range cellsOfSquare {
			if n == side*side {
				count++
			}
		}
		fit[clue(1, side, count)] = true
		for cell, k := range slices.Concat(g...) {
			if cellsOfSquare[k] == side*side {
				fit[clue(2, cell, side)] = true
			}
		}
	}
	for edge, count := range edgesByCells(g) {
		fit[clue(3, edge, count)] = true
	}
	return fit
}

// fittedClues has the clues of each hidden cut, by its text.
var fittedClues = sync.OnceValue(func() map[string]map[impl.Clue]bool {
	all := map[string]map[impl.Clue]bool{}
	for _, cuts := range allHidden() {
		for _, c := range cuts {
			all[textOf(c)] = cluesByCells(c)
		}
	}
	return all
})

// cluesOfSize are all clues of hidden cuts of a width and a height, whether any fits them or not.
func cluesOfSize(width, height int) []impl.Clue {
	var list []impl.Clue
	add := func(kind, leastA, mostA, leastB, mostB int) {
		for a := leastA; a <= mostA; a++ {
			for b := leastB; b <= mostB; b++ {
				list = append(list, clue(kind, a, b))
			}
		}
	}
	add(0, 1, 12, 0, 0)
	add(1, 1, 6, 0, 12)
	add(2, 0, width*height-1, 1, 6)
	add(3, 0, 3, 0, 12)
	add(4, 0, 12, 0, 0)
	add(5, 0, 6, 0, 0)
	return list
}

// noCluesOfSize are no clues of hidden cuts of a width and a height: all those whose numbers are small, and many whose numbers are not.
func noCluesOfSize(width, height int) []impl.Clue {
	are := map[impl.Clue]bool{}
	for _, c := range cluesOfSize(width, height) {
		are[c] = true
	}
	var list []impl.Clue
	for kind := -2; kind <= 7; kind++ {
		for a := -2; a <= 14; a++ {
			for b := -2; b <= 14; b++ {
				if c := clue(kind, a, b); !are[c] {
					list = append(list, c)
				}
			}
		}
	}
	for _, n := range []int{math.MinInt, math.MinInt + 1, -1 << 32, -6, 15, 1 << 31, 1 << 32, 1<<32 + 1, 1<<32 + 2, 1 << 62, math.MaxInt - 1, math.MaxInt} {
		for kind := range 6 {
			list = append(list, clue(kind, n, 0), clue(kind, n, 1), clue(kind, 1, n), clue(kind, 0, n), clue(kind, n, n), clue(n, kind, kind))
		}
		list = append(list, clue(n, n, n), clue(n, 0, 0), clue(n, 1, 1))
	}
	return list
}

// noHiddenSizes are no widths and heights of hidden cuts, each for a reason of its own.
func noHiddenSizes() [][2]int {
	list := append(noSizes(6), [][2]int{{7, 1}, {1, 7}, {12, 1}, {1, 12}, {5, 3}, {3, 5}, {4, 4}, {6, 3}, {3, 6}, {6, 6}, {13, 1}, {1, 13}, {-3, -2}, {-1, -12}, {-4, -3}, {1 << 32, 1 << 32}, {1 << 62, 4}, {4, 1 << 62}}...)
	for size := range allCounted() {
		if size[0]*size[1] > 12 {
			list = append(list, size)
		}
	}
	return list
}

// noHidden are no hidden cuts: those at the end are cuts, but too wide, too high, or with too many cells.
func noHidden() []impl.Cut {
	list := append(noCuts(), nine, through, rowsOfOnes(7, 1), rowsOfOnes(1, 7), rowsOfOnes(12, 1), rowsOfOnes(1, 12), rowsOfOnes(30, 1), grown(one, 4), grown(one, 6), grown(one, 7), grown(one, 500), grown(three, 2))
	for size, cuts := range allCounted() {
		if size[0]*size[1] > 12 {
			list = append(list, cuts[0], cuts[len(cuts)-1])
		}
	}
	return list
}

// fittingCuts has the hidden cuts of a width and a height that fit each clue, each by a bit at its place in their order.
var fittingCuts = sync.OnceValue(func() map[[2]int]map[impl.Clue]int {
	all := map[[2]int]map[impl.Clue]int{}
	for size, cuts := range allHidden() {
		all[size] = map[impl.Clue]int{}
		for k, c := range cuts {
			for own := range fittedClues()[textOf(c)] {
				all[size][own] |= 1 << k
			}
		}
	}
	return all
})

// solutionsByCells looks up which hidden cuts fit each clue.
func solutionsByCells(p impl.Puzzle) []impl.Cut {
	size := [2]int{p.Width, p.Height}
	fit := -1
	for _, c := range p.Clues {
		fit &= fittingCuts()[size][c]
	}
	var list []impl.Cut
	for k, c := range allHidden()[size] {
		if fit>>k&1 == 1 {
			list = append(list, c)
		}
	}
	return list
}

// chosen returns the puzzle with those of its clues alone for which a bit of choice is 1.
func chosen(p impl.Puzzle, choice int) impl.Puzzle {
	q := puzzle(p.Width, p.Height)
	for k, c := range p.Clues {
		if choice>>k&1 == 1 {
			q.Clues = append(q.Clues, c)
		}
	}
	return q
}

// countByChoice counts the solutions of chosen clues.
func countByChoice(p impl.Puzzle, choice int) int {
	return len(solutionsByCells(chosen(p, choice)))
}

// allClues is the choice of all clues of a puzzle.
func allClues(p impl.Puzzle) int {
	return 1<<len(p.Clues) - 1
}

// sureByCells has 0 for each cell that is in squares of different sides.
func sureByCells(cuts []impl.Cut) []int {
	if len(cuts) == 0 {
		return nil
	}
	sides := make([]map[int]bool, cuts[0].Width*cuts[0].Height)
	for cell := range sides {
		sides[cell] = map[int]bool{}
	}
	for _, c := range cuts {
		for own := range fittedClues()[textOf(c)] {
			if own.Kind == 2 {
				sides[own.A][own.B] = true
			}
		}
	}
	sure := make([]int, len(sides))
	for cell, all := range sides {
		for side := range all {
			if len(all) == 1 {
				sure[cell] = side
			}
		}
	}
	return sure
}

// harderByChoice takes out one clue after the other, unless there are more solutions then.
func harderByChoice(p impl.Puzzle) impl.Puzzle {
	choice := allClues(p)
	for k := range p.Clues {
		if fewer := choice &^ (1 << k); countByChoice(p, fewer) == 1 {
			choice = fewer
		}
	}
	return chosen(p, choice)
}

// zAfter has the number that comes so many places behind a seed: 10007 is a prime, and 6812 times 166 is one more than a multiple of it.
func zAfter(seed, places int) int {
	power := 1
	for range places {
		power = power * 167 % 10007
	}
	return (seed*power + 2411*(power-1+10007)%10007*6812) % 10007
}

// madeByCells makes a puzzle of the one clue of each kind that a cut fits and that asks about what the numbers tell.
func madeByCells(c impl.Cut, clues, seed int) impl.Puzzle {
	p := puzzle(c.Width, c.Height)
	places := 0
	next := func() int {
		places++
		return zAfter(seed, places)
	}
	for range clues {
		kind := next() % 6
		about := map[int]int{1: 3, 2: c.Width * c.Height, 3: 4}[kind]
		a := -1
		if about > 0 {
			a = next() % about
		}
		if kind == 1 {
			a++
		}
		for own := range fittedClues()[textOf(c)] {
			if own.Kind == kind && (about == 0 || own.A == a) {
				p.Clues = append(p.Clues, own)
			}
		}
	}
	return p
}

func textOfPuzzle(p impl.Puzzle) string {
	var fields []string
	for _, c := range p.Clues {
		fields = append(fields, fmt.Sprintf("%d.%d.%d", c.Kind, c.A, c.B))
	}
	return fmt.Sprintf("%dx%d:%s", p.Width, p.Height, strings.Join(fields, ","))
}

func samePuzzle(p, q impl.Puzzle) bool {
	return p.Width == q.Width && p.Height == q.Height && slices.Equal(p.Clues, q.Clues)
}

func zeroPuzzle(p impl.Puzzle) bool {
	return samePuzzle(p, impl.Puzzle{})
}

// fitInOrder has all clues that a hidden cut fits, always in the same order.
func fitInOrder(c impl.Cut) []impl.Clue {
	var list []impl.Clue
	for _, own := range cluesOfSize(c.Width, c.Height) {
		if fittedClues()[textOf(c)][own] {
			list = append(list, own)
		}
	}
	return list
}

// somePuzzles are, for each width and height, that without clues, all with one clue, all with two clues that one cut fits, and many with up to six, some of which are of other cuts.
var somePuzzles = sync.OnceValue(func() []impl.Puzzle {
	var list []impl.Puzzle
	for _, size := range hiddenSizes() {
		width, height := size[0], size[1]
		list = append(list, puzzle(width, height))
		for _, c := range cluesOfSize(width, height) {
			list = append(list, puzzle(width, height, c))
		}
		for k, c := range allHidden()[size] {
			fit := fitInOrder(c)
			others := fitInOrder(allHidden()[size][(k+1)%len(allHidden()[size])])
			for i, a := range fit {
				for _, b := range fit[i:] {
					list = append(list, puzzle(width, height, b, a))
				}
				for count := 3; count <= 6; count++ {
					p := puzzle(width, height, a)
					for j := 1; j < count; j++ {
						p.Clues = append(p.Clues, fit[(i*j*5+j*7+k)%len(fit)])
					}
					q := puzzle(width, height, slices.Clone(p.Clues)...)
					q.Clues[count/2] = others[(i+k)%len(others)]
					list = append(list, p, q)
				}
			}
		}
	}
	return list
})

// noPuzzles are not valid, each for a reason of its own; those at the end differ by one clue, at the first, a middle or the last place, from puzzles.
func noPuzzles() []impl.Puzzle {
	fine := []impl.Clue{clue(0, 3, 0), clue(1, 2, 1), clue(2, 0, 2), clue(3, 1, 2), clue(4, 0, 0), clue(5, 2, 0)}
	list := []impl.Puzzle{{}, {Clues: fine}, {Width: 3, Height: 2, Clues: append(slices.Clone(fine), fine[0])}, {Width: 3, Height: 2, Clues: make([]impl.Clue, 6)}, {Width: 3, Height: 2, Clues: make([]impl.Clue, 100000)}, {Width: 1, Height: 1, Clues: slices.Repeat(fine[:1], 100000)}}
	for _, size := range noHiddenSizes() {
		list = append(list, puzzle(size[0], size[1]), puzzle(size[0], size[1], clue(0, 1, 0)), puzzle(size[0], size[1], fine...))
	}
	for _, c := range noCluesOfSize(3, 2) {
		list = append(list, puzzle(3, 2, c), puzzle(3, 2, fine[0], c), puzzle(3, 2, c, fine[0]), puzzle(3, 2, fine[1], fine[2], c, fine[3], fine[4], fine[5]))
	}
	for _, size := range hiddenSizes() {
		// This cell is the first one that there is none of.
		list = append(list, puzzle(size[0], size[1], clue(2, size[0]*size[1], 1)))
	}
	return list
}

// noPuzzleTexts are texts of no puzzle, each for a reason of its own.
func noPuzzleTexts() []string {
	list := []string{
		"", ":", "x", "x:", "3x2", "3x2;", "3:", "3x:", "x2:", "3x2x1:", "3 x2:", "3X2:", " 3x2:", "3x2: ", "3x2:\n", "03x2:", "3x02:", "+3x2:", "3x+2:", "-3x2:", "3x2::", "0x1:", "1x0:", "7x1:", "4x4:", "3x2.", "3,2:",
		"3x2:,", "3x2:,0.3.0", "3x2:0.3.0,", "3x2:0.3.0,,2.0.2", "3x2:0.3.0 2.0.2", "3x2:0.3.0;2.0.2", "3x2:0.3.0:2.0.2", "3x2:0.3.0, 2.0.2", "3x2:0.3.0\x00",
		"3x2:0", "3x2:0.3", "3x2:0.3.", "3x2:0.3.0.0", "3x2:.3.0", "3x2:0..0", "3x2:..", "3x2:00.3.0", "3x2:0.03.0", "3x2:0.3.00", "3x2:+0.3.0", "3x2:-0.3.0", "3x2:0.-3.0", "3x2:0.3.-0", "3x2:0,3,0", "3x2:0-3-0", "3x2:0x3.0",
		"3x2:0.0.0", "3x2:0.13.0", "3x2:0.3.1", "3x2:1.0.0", "3x2:1.7.0", "3x2:1.1.13", "3x2:2.6.1", "3x2:2.0.0", "3x2:2.0.7", "3x2:3.4.0", "3x2:3.0.13", "3x2:4.13.0", "3x2:4.0.1", "3x2:5.7.0", "3x2:5.0.1", "3x2:6.1.0", "3x2:-1.1.0",
		"3x2:0.3.0,2.0.2,6.0.0", "3x2" + strings.Repeat(":", 5000), "3x2:" + strings.Repeat(".", 5000), "3x2:" + strings.Repeat(",", 5000), "3x2:0." + strings.Repeat("9", 5000) + ".0", strings.Repeat("9", 5000) + "x2:", "3x2:" + strings.Repeat("0.3.0,", 5000) + "0.3.0",
		"3x2:" + strings.Repeat("0.3.0,", 6) + "0.3.0", "3x2:" + strings.Repeat("0.3.0,", 6), "3x2:" + strings.Repeat("0.3.0,", 5) + "0.3.0.0", "ü3x2:", "3x2:ü", "\xff", "3x2:\xff.1.1", "1x1;0,0,1", "3:0-2", "(2,1)(1)", "s",
		fmt.Sprintf("3x2:0.%d.0", math.MaxInt), "3x2:0.9223372036854775808.0", "3x2:0.18446744073709551619.0", "4294967299x2:", fmt.Sprintf("%dx%d:", math.MaxInt, math.MaxInt), fmt.Sprintf("%dx%d:%d.%d.%d", math.MinInt, math.MinInt, math.MinInt, math.MinInt, math.MinInt),
	}
	for _, p := range noPuzzles() {
		if len(p.Clues) < 10 {
			list = append(list, textOfPuzzle(p))
		}
	}
	return list
}

func TestPuzzlesAreWhatTheyShouldBe(t *testing.T) {
	if len(allHidden()) != 23 || len(hiddenSizes()) != 23 || zAfter(0, 1) != 2411 || zAfter(0, 2) != 4768 || zAfter(9999, 1) != 1075 || zAfter(5, 0) != 5 {
		t.Error(len(allHidden()), len(hiddenSizes()), zAfter(0, 1), zAfter(0, 2), zAfter(9999, 1), zAfter(5, 0))
	}
	for _, size := range hiddenSizes() {
		are := map[impl.Clue]bool{}
		for _, c := range cluesOfSize(size[0], size[1]) {
			are[c] = true
		}
		for _, c := range allHidden()[size] {
			fit := fittedClues()[textOf(c)]
			// One clue for each cell and for each side; four for the edges; three more.
			if len(fit) != size[0]*size[1]+6+4+3 {
				t.Error(textOf(c), len(fit))
			}
			for own := range fit {
				if !are[own] {
					t.Error(textOf(c), own)
				}
			}
		}
		if len(are) != 162+6*size[0]*size[1] {
			t.Error(size, len(are))
		}
	}
	counts := map[int]int{}
	for _, p := range somePuzzles() {
		counts[len(p.Clues)]++
	}
	solved, none := 0, 0
	for _, p := range somePuzzles() {
		if len(p.Clues) > 2 {
			switch len(solutionsByCells(p)) {
			case 0:
				none++
			case 1:
				solved++
			}
		}
	}
	for count := range 7 {
		if counts[count] < 23 {
			t.Error("too few puzzles", counts)
		}
	}
	if solved < 1000 || none < 1000 {
		t.Error("too few of a kind", solved, none)
	}
}
