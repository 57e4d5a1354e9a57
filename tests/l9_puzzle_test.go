package tests

import (
	"math"
	"slices"
	"testing"

	"loop.example/g01296/impl"
)

var (
	ofExample = puzzle(3, 2, clue(0, 3, 0), clue(2, 0, 2))
	firstOnly = puzzle(3, 2, clue(0, 3, 0))
	twoRight  = cut(3, 2, 0, 0, 1, 1, 0, 2, 0, 1, 1)
	noOneHas  = puzzle(3, 2, clue(0, 1, 0))
	allKinds  = puzzle(3, 2, clue(0, 3, 0), clue(1, 2, 1), clue(2, 5, 1), clue(3, 1, 2), clue(4, 0, 0), clue(5, 2, 0))
)

func TestExampleOfChapter9(t *testing.T) {
	p, ok := impl.ParsePuzzle("3x2:0.3.0,2.0.2")
	if !ok || !samePuzzle(p, ofExample) {
		t.Error("puzzle", p, ok)
	}
	if list, ok := impl.Solutions(p); !ok || len(list) != 1 || textOf(list[0]) != "3x2;0,0,2;2,0,1;2,1,1" {
		t.Error("solutions", list, ok)
	}
	if left, ok := impl.LeftByClues(p); !ok || !slices.Equal(left, []int{3, 2, 1}) {
		t.Error("left", left, ok)
	}
	if sides, ok := impl.SureSides(firstOnly); !ok || !slices.Equal(sides, []int{0, 2, 0, 0, 2, 0}) {
		t.Error("sure", sides, ok)
	}
}

func TestLimitsOfChapter9(t *testing.T) {
	if impl.MaxPuzzled != 12 || impl.MaxClues != 6 {
		t.Error(impl.MaxPuzzled, impl.MaxClues)
	}
}

func TestIsClue(t *testing.T) {
	for _, size := range hiddenSizes() {
		for _, c := range cluesOfSize(size[0], size[1]) {
			if !impl.IsClue(size[0], size[1], c) {
				t.Error(size, c)
			}
		}
		for _, c := range noCluesOfSize(size[0], size[1]) {
			if impl.IsClue(size[0], size[1], c) {
				t.Error("none", size, c)
			}
		}
	}
	// Limits are met, also if no cut of this size fits such a clue.
	for _, c := range []impl.Clue{clue(0, 1, 0), clue(0, 12, 0), clue(1, 1, 0), clue(1, 6, 12), clue(2, 0, 6), clue(3, 0, 12), clue(3, 3, 0), clue(4, 0, 0), clue(4, 12, 0), clue(5, 0, 0), clue(5, 6, 0)} {
		if !impl.IsClue(1, 1, c) || !impl.IsClue(4, 3, c) {
			t.Error(c)
		}
	}
	// Cells are those of the cut.
	for _, w := range []struct {
		width, height, cell int
		is                  bool
	}{{1, 1, 0, true}, {1, 1, 1, false}, {3, 2, 5, true}, {3, 2, 6, false}, {4, 3, 11, true}, {4, 3, 12, false}, {6, 2, 11, true}, {6, 2, 12, false}, {6, 1, 6, false}} {
		if is := impl.IsClue(w.width, w.height, clue(2, w.cell, 1)); is != w.is {
			t.Error(w)
		}
	}
	for _, size := range noHiddenSizes() {
		for _, c := range append(cluesOfSize(1, 1), clue(-1, 0, 0), clue(6, 1, 1), clue(2, math.MaxInt, 1), clue(2, -1, 1)) {
			if impl.IsClue(size[0], size[1], c) {
				t.Error("no size", size, c)
			}
		}
	}
}

func TestIsPuzzle(t *testing.T) {
	for _, p := range somePuzzles() {
		if !impl.IsPuzzle(p) {
			t.Error(textOfPuzzle(p))
		}
	}
	for _, p := range noPuzzles() {
		if impl.IsPuzzle(p) {
			t.Error("none", p.Width, p.Height, len(p.Clues), p.Clues[:min(len(p.Clues), 7)])
		}
	}
	// One clue may be there more than once.
	if six := puzzle(1, 1, slices.Repeat([]impl.Clue{clue(5, 6, 0)}, 6)...); !impl.IsPuzzle(six) {
		t.Error("six", six)
	}
	if seven := puzzle(1, 1, slices.Repeat([]impl.Clue{clue(5, 6, 0)}, 7)...); impl.IsPuzzle(seven) {
		t.Error("seven", seven)
	}
	if !impl.IsPuzzle(impl.Puzzle{Width: 4, Height: 3, Clues: []impl.Clue{}}) {
		t.Error("empty")
	}
}

func TestDoesFit(t *testing.T) {
	for size, cuts := range allHidden() {
		for _, c := range cuts {
			fit := fittedClues()[textOf(c)]
			for _, own := range cluesOfSize(size[0], size[1]) {
				if is, ok := impl.DoesFit(own, c); !ok || is != fit[own] {
					t.Error(textOf(c), own, is, ok)
				}
			}
			for _, none := range noCluesOfSize(size[0], size[1]) {
				if is, ok := impl.DoesFit(none, c); ok || is {
					t.Error("no clue", textOf(c), none, is, ok)
				}
			}
		}
	}
	for _, w := range []struct {
		own impl.Clue
		c   impl.Cut
		is  bool
	}{
		{clue(0, 3, 0), three, true}, {clue(0, 4, 0), three, false}, {clue(0, 12, 0), rowsOfOnes(4, 3), true},
		{clue(1, 1, 2), three, true}, {clue(1, 2, 1), three, true}, {clue(1, 2, 2), three, false}, {clue(1, 3, 0), three, true}, {clue(1, 6, 0), three, true}, {clue(1, 6, 12), three, false}, {clue(1, 1, 12), rowsOfOnes(6, 2), true},
		{clue(2, 2, 1), three, true}, {clue(2, 3, 2), three, true}, {clue(2, 4, 2), three, true}, {clue(2, 4, 1), three, false}, {clue(2, 5, 1), three, true}, {clue(2, 5, 6), three, false},
		{clue(3, 0, 2), three, true}, {clue(3, 1, 2), three, true}, {clue(3, 2, 2), three, true}, {clue(3, 3, 1), three, true}, {clue(3, 3, 2), three, false}, {clue(3, 0, 1), twoRight, false}, {clue(3, 1, 1), twoRight, true}, {clue(3, 3, 2), twoRight, true},
		{clue(4, 1, 0), four, true}, {clue(4, 0, 0), four, false}, {clue(4, 6, 0), rowsOfOnes(4, 3), true}, {clue(4, 0, 0), three, true},
		{clue(5, 2, 0), three, true}, {clue(5, 0, 0), grown(one, 3), true}, {clue(5, 6, 0), rowsOfOnes(6, 2), true}, {clue(5, 6, 0), rowsOfOnes(2, 6), true}, {clue(5, 1, 0), rowsOfOnes(6, 1), true}, {clue(5, 0, 0), one, true},
	} {
		if is, ok := impl.DoesFit(w.own, w.c); !ok || is != w.is {
			t.Error(textOf(w.c), w.own, is, ok)
		}
	}
	for _, c := range noHidden() {
		for _, own := range []impl.Clue{clue(0, 1, 0), clue(1, 1, 1), clue(2, 0, 1), clue(3, 0, 1), clue(4, 0, 0), clue(5, 0, 0), clue(-1, 0, 0), clue(6, 0, 0)} {
			if is, ok := impl.DoesFit(own, c); ok || is {
				t.Error("not hidden", textOf(c), own, is, ok)
			}
		}
	}
	// This cut has four cells, not six.
	if is, ok := impl.DoesFit(clue(2, 5, 1), four); ok || is {
		t.Error("no cell", is, ok)
	}
}

func TestSolutions(t *testing.T) {
	for _, p := range somePuzzles() {
		if list, ok := impl.Solutions(p); !ok || !slices.EqualFunc(list, solutionsByCells(p), same) {
			t.Error(textOfPuzzle(p), list, ok)
		}
	}
	for _, w := range []struct {
		p    impl.Puzzle
		want []impl.Cut
	}{
		{puzzle(1, 1), []impl.Cut{one}}, {puzzle(2, 2), []impl.Cut{four, grown(one, 2)}}, {puzzle(3, 2), []impl.Cut{rowsOfOnes(3, 2), twoRight, three}},
		{firstOnly, []impl.Cut{twoRight, three}}, {ofExample, []impl.Cut{three}}, {allKinds, []impl.Cut{three}}, {noOneHas, nil},
		{puzzle(3, 2, clue(2, 0, 1), clue(2, 2, 1)), []impl.Cut{rowsOfOnes(3, 2)}}, {puzzle(3, 2, clue(2, 0, 2), clue(2, 2, 2)), nil}, {puzzle(6, 2, clue(1, 2, 3)), []impl.Cut{rowOfSame(grown(one, 2), 3)}},
	} {
		if list, ok := impl.Solutions(w.p); !ok || !slices.EqualFunc(list, w.want, same) {
			t.Error(textOfPuzzle(w.p), list, ok)
		}
	}
	for _, p := range noPuzzles() {
		if list, ok := impl.Solutions(p); ok || len(list) > 0 {
			t.Error("none", p.Width, p.Height, len(p.Clues), list, ok)
		}
	}
}

// checkNumbers makes a call for some puzzles, for those that are told with the number, and for what is no puzzle. A number less than 0 is wanted where the call must fail.
func checkNumbers(t *testing.T, f func(p impl.Puzzle) (int, bool), want func(p impl.Puzzle) int, told map[string]int) {
	t.Helper()
	check := func(p impl.Puzzle, number int) {
		t.Helper()
		if n, ok := f(p); ok != (number >= 0) || n != max(number, 0) {
			t.Error(textOfPuzzle(p), n, ok, number)
		}
	}
	for _, p := range somePuzzles() {
		check(p, want(p))
	}
	for text, number := range told {
		p, ok := impl.ParsePuzzle(text)
		if !ok {
			t.Error(text)
		}
		check(p, number)
	}
	for _, p := range noPuzzles() {
		check(p, -1)
	}
}

func TestCountSolutions(t *testing.T) {
	checkNumbers(t, impl.CountSolutions, func(p impl.Puzzle) int { return len(solutionsByCells(p)) }, map[string]int{
		"1x1:": 1, "6x1:": 1, "1x6:": 1, "2x2:": 2, "3x2:": 3, "3x3:": 6, "6x2:": 13, "2x6:": 13, "4x3:": 13, "3x4:": 13, "5x2:": 8,
		"3x2:0.3.0": 2, "3x2:0.3.0,2.0.2": 1, "3x2:0.1.0": 0, "3x2:0.12.0": 0, "6x2:0.12.0": 1, "6x2:0.12.0,0.12.0,0.12.0,0.12.0,0.12.0,0.12.0": 1, "6x2:0.12.0,0.11.0": 0,
		// No square of 2; crosses are behind squares of 1 alone; a square of 3 leaves a line of 3.
		"6x2:1.2.0": 1, "4x3:1.3.1": 2, "4x3:4.6.0": 1, "3x3:4.4.0": 1, "3x3:5.0.0": 1, "3x3:3.0.1": 1, "3x3:3.0.2": 2, "3x3:3.0.3": 3, "3x3:2.4.2": 4, "3x3:2.4.3": 1,
	})
}

func TestFirstSolution(t *testing.T) {
	check := func(p impl.Puzzle, want impl.Cut) {
		t.Helper()
		if c, ok := impl.FirstSolution(p); ok == zero(want) || !same(c, want) {
			t.Error(textOfPuzzle(p), textOf(c), ok, textOf(want))
		}
	}
	for _, p := range somePuzzles() {
		want := impl.Cut{}
		if list := solutionsByCells(p); len(list) > 0 {
			want = list[0]
		}
		check(p, want)
	}
	check(puzzle(1, 1), one)
	check(puzzle(6, 2), rowsOfOnes(6, 2))
	check(firstOnly, twoRight)
	check(ofExample, three)
	check(noOneHas, impl.Cut{})
	for _, p := range noPuzzles() {
		check(p, impl.Cut{})
	}
}

func TestSureSides(t *testing.T) {
	check := func(p impl.Puzzle, want []int) {
		t.Helper()
		if sides, ok := impl.SureSides(p); ok != (len(want) > 0) || !slices.Equal(sides, want) {
			t.Error(textOfPuzzle(p), sides, ok, want)
		}
	}
	for _, p := range somePuzzles() {
		check(p, sureByCells(solutionsByCells(p)))
	}
	check(puzzle(1, 1), []int{1})
	check(puzzle(6, 1), slices.Repeat([]int{1}, 6))
	check(puzzle(2, 2), make([]int, 4))
	check(puzzle(4, 3), make([]int, 12))
	check(ofExample, []int{2, 2, 1, 2, 2, 1})
	// The cell is in another square of the same side.
	check(puzzle(3, 3, clue(1, 2, 1)), []int{0, 0, 0, 0, 2, 0, 0, 0, 0})
	check(puzzle(3, 3, clue(1, 2, 1), clue(2, 0, 1)), []int{1, 0, 0, 0, 2, 0, 0, 0, 0})
	check(puzzle(3, 3, clue(2, 4, 2), clue(3, 0, 2)), []int{0, 2, 0, 0, 2, 0, 1, 1, 1})
	check(noOneHas, nil)
	for _, p := range noPuzzles() {
		check(p, nil)
	}
}

func TestIsSolved(t *testing.T) {
	check := func(p impl.Puzzle, want, fine bool) {
		t.Helper()
		if is, ok := impl.IsSolved(p); ok != fine || is != want {
			t.Error(textOfPuzzle(p), is, ok)
		}
	}
	for _, p := range somePuzzles() {
		check(p, len(solutionsByCells(p)) == 1, true)
	}
	check(puzzle(1, 1), true, true)
	check(puzzle(1, 6), true, true)
	check(puzzle(2, 2), false, true)
	check(ofExample, true, true)
	check(firstOnly, false, true)
	check(noOneHas, false, true)
	for _, p := range noPuzzles() {
		check(p, false, false)
	}
}

// checkLists is checkNumbers for calls that return a list and that fail for what is no puzzle alone.
func checkLists(t *testing.T, f func(p impl.Puzzle) ([]int, bool), want func(p impl.Puzzle) []int, told map[string][]int) {
	t.Helper()
	for _, p := range somePuzzles() {
		if list, ok := f(p); !ok || !slices.Equal(list, want(p)) {
			t.Error(textOfPuzzle(p), list, ok, want(p))
		}
	}
	for text, wanted := range told {
		p, fine := impl.ParsePuzzle(text)
		if list, ok := f(p); !fine || !ok || !slices.Equal(list, wanted) {
			t.Error(text, list, ok, fine)
		}
	}
	for _, p := range noPuzzles() {
		if list, ok := f(p); ok || len(list) > 0 {
			t.Error("none", p.Width, p.Height, len(p.Clues), list, ok)
		}
	}
}

func TestNeedlessClues(t *testing.T) {
	checkLists(t, impl.NeedlessClues, func(p impl.Puzzle) []int {
		var needless []int
		for k := range p.Clues {
			if countByChoice(p, allClues(p)&^(1<<k)) == countByChoice(p, allClues(p)) {
				needless = append(needless, k)
			}
		}
		return needless
	}, map[string][]int{
		"1x1:": nil, "3x2:": nil, "3x2:0.3.0": nil, "3x2:0.3.0,2.0.2": {0}, "1x1:0.1.0": {0}, "1x1:0.2.0": nil, "3x2:1.6.0": {0}, "3x2:3.0.2,0.3.0": {0, 1},
		// Each of two that tell the same is needless, one alone; without solutions, all are that can't alone make some.
		"3x2:0.3.0,0.3.0": {0, 1}, "3x2:2.0.2,0.3.0,2.0.2": {0, 1, 2}, "3x2:0.1.0,0.2.0": {0, 1}, "3x2:0.1.0,0.3.0": {1}, "3x2:0.6.0,0.3.0": nil,
		"3x2:0.3.0,1.2.1,2.5.1,3.1.2,4.0.0,5.2.0": {0, 1, 2, 3, 4, 5}, "3x2:0.3.0,2.5.1,1.1.2,1.3.0": {0, 2, 3},
	})
}

func TestDropClue(t *testing.T) {
	for _, p := range somePuzzles() {
		for k := range p.Clues {
			if q, ok := impl.DropClue(p, k); !ok || !samePuzzle(q, chosen(p, allClues(p)&^(1<<k))) {
				t.Error(textOfPuzzle(p), k, q, ok)
			}
		}
	}
	for _, w := range []struct {
		k    int
		text string
	}{{0, "3x2:1.2.1,2.5.1,3.1.2,4.0.0,5.2.0"}, {2, "3x2:0.3.0,1.2.1,3.1.2,4.0.0,5.2.0"}, {5, "3x2:0.3.0,1.2.1,2.5.1,3.1.2,4.0.0"}} {
		if q, ok := impl.DropClue(allKinds, w.k); !ok || textOfPuzzle(q) != w.text {
			t.Error(w, q, ok)
		}
	}
	if q, ok := impl.DropClue(firstOnly, 0); !ok || !samePuzzle(q, puzzle(3, 2)) {
		t.Error("the only one", q, ok)
	}
	fails := func(p impl.Puzzle, k int) {
		t.Helper()
		if q, ok := impl.DropClue(p, k); ok || !zeroPuzzle(q) {
			t.Error(textOfPuzzle(q), k, ok)
		}
	}
	for _, p := range []impl.Puzzle{puzzle(3, 2), firstOnly, ofExample, allKinds} {
		for _, k := range noRanks(len(p.Clues)) {
			// There are puzzles without clues.
			if k < 0 || k >= len(p.Clues) {
				fails(p, k)
			}
		}
	}
	for _, p := range noPuzzles() {
		for _, k := range []int{-1, 0, 1, len(p.Clues) - 1, len(p.Clues)} {
			fails(p, k)
		}
	}
	// Without a clue that is none, or is too many, it would be a puzzle.
	fails(puzzle(3, 2, clue(6, 0, 0)), 0)
	fails(puzzle(3, 2, append(slices.Clone(allKinds.Clues), clue(0, 3, 0))...), 6)
}

func TestAddClue(t *testing.T) {
	fails := func(p impl.Puzzle, c impl.Clue) {
		t.Helper()
		if q, ok := impl.AddClue(p, c); ok || !zeroPuzzle(q) {
			t.Error(p.Width, p.Height, len(p.Clues), c, textOfPuzzle(q), ok)
		}
	}
	for _, p := range somePuzzles() {
		clues := cluesOfSize(p.Width, p.Height)
		c := clues[len(textOfPuzzle(p))*31%len(clues)]
		if len(p.Clues) == 6 {
			fails(p, c)
			continue
		}
		q, ok := impl.AddClue(p, c)
		if want := puzzle(p.Width, p.Height, append(slices.Clone(p.Clues), c)...); !ok || !samePuzzle(q, want) {
			t.Error(textOfPuzzle(p), c, q, ok)
		}
	}
	for _, size := range hiddenSizes() {
		p := puzzle(size[0], size[1], clue(0, 1, 0))
		for _, c := range cluesOfSize(size[0], size[1]) {
			if q, ok := impl.AddClue(p, c); !ok || !samePuzzle(q, puzzle(size[0], size[1], clue(0, 1, 0), c)) {
				t.Error(textOfPuzzle(p), c, q, ok)
			}
		}
		for _, c := range noCluesOfSize(size[0], size[1]) {
			fails(p, c)
			fails(puzzle(size[0], size[1]), c)
		}
	}
	if q, ok := impl.AddClue(firstOnly, clue(2, 0, 2)); !ok || !samePuzzle(q, ofExample) {
		t.Error("example", q, ok)
	}
	if q, ok := impl.AddClue(puzzle(3, 2, allKinds.Clues[:5]...), clue(5, 2, 0)); !ok || !samePuzzle(q, allKinds) {
		t.Error("the last one", q, ok)
	}
	fails(allKinds, clue(0, 3, 0))
	fails(allKinds, clue(6, 3, 0))
	for _, p := range noPuzzles() {
		fails(p, clue(0, 1, 0))
		fails(p, clue(-1, 1, 0))
	}
}

func TestLeftByClues(t *testing.T) {
	checkLists(t, impl.LeftByClues, func(p impl.Puzzle) []int {
		var left []int
		for k := range len(p.Clues) + 1 {
			left = append(left, countByChoice(p, 1<<k-1))
		}
		return left
	}, map[string][]int{
		"1x1:": {1}, "3x2:": {3}, "4x3:": {13}, "6x2:": {13}, "3x2:0.3.0": {3, 2}, "3x2:0.3.0,2.0.2": {3, 2, 1}, "3x2:2.0.2,0.3.0": {3, 1, 1}, "3x2:0.1.0": {3, 0}, "3x2:0.3.0,0.1.0,0.3.0": {3, 2, 0, 0}, "1x1:0.1.0": {1, 1},
		"3x2:0.3.0,1.2.1,2.5.1,3.1.2,4.0.0,5.2.0": {3, 2, 2, 1, 1, 1, 1},
	})
}

func TestBestClue(t *testing.T) {
	checkNumbers(t, impl.BestClue, func(p impl.Puzzle) int {
		best := -1
		for k := range p.Clues {
			if best < 0 || countByChoice(p, 1<<k) < countByChoice(p, 1<<best) {
				best = k
			}
		}
		return best
	}, map[string]int{
		"1x1:": -1, "3x2:": -1, "6x2:": -1, "3x2:0.3.0": 0, "3x2:0.3.0,2.0.2": 1, "3x2:2.0.2,0.3.0": 0, "3x2:0.3.0,0.6.0,2.0.2": 1, "3x2:0.3.0,2.0.2,0.6.0": 1, "3x2:0.3.0,0.3.0": 0,
		// Fewest are none, too.
		"3x2:0.6.0,0.1.0,0.2.0": 1, "3x2:1.6.0,0.3.0,1.6.0,0.3.0": 1, "1x1:0.1.0,0.1.0,0.1.0,0.1.0,0.1.0,0.2.0": 5, "1x1:0.1.0,0.1.0,0.1.0,0.1.0,0.1.0,0.1.0": 0,
	})
}

func TestHarderPuzzle(t *testing.T) {
	check := func(p, want impl.Puzzle) {
		t.Helper()
		if q, ok := impl.HarderPuzzle(p); ok == zeroPuzzle(want) || !samePuzzle(q, want) {
			t.Error(textOfPuzzle(p), textOfPuzzle(q), ok, textOfPuzzle(want))
		}
	}
	for _, p := range somePuzzles() {
		if len(solutionsByCells(p)) != 1 {
			check(p, impl.Puzzle{})
			continue
		}
		check(p, harderByChoice(p))
	}
	for text, want := range map[string]string{
		"1x1:": "1x1:", "6x1:0.6.0": "6x1:", "3x2:0.3.0,2.0.2": "3x2:2.0.2", "3x2:2.0.2,0.3.0": "3x2:2.0.2", "3x2:2.0.2": "3x2:2.0.2", "1x1:0.1.0,0.1.0,0.1.0,5.0.0,4.0.0,2.0.1": "1x1:",
		// From the first one on, so the last one of those that tell the same stays.
		"3x2:2.0.2,2.5.1,2.1.2": "3x2:2.5.1,2.1.2", "3x2:2.0.2,2.3.2": "3x2:2.3.2", "3x2:2.3.2,2.0.2": "3x2:2.0.2", "3x2:0.3.0,2.5.1,0.3.0": "3x2:2.5.1,0.3.0", "3x2:2.5.1,0.3.0": "3x2:2.5.1,0.3.0", "3x2:0.3.0,1.2.1,2.5.1,3.1.2,4.0.0,5.2.0": "3x2:3.1.2,5.2.0",
	} {
		p, ok := impl.ParsePuzzle(text)
		q, fine := impl.HarderPuzzle(p)
		if !ok || !fine || textOfPuzzle(q) != want {
			t.Error(text, textOfPuzzle(q), ok, fine)
		}
	}
	check(puzzle(2, 2), impl.Puzzle{})
	check(firstOnly, impl.Puzzle{})
	check(noOneHas, impl.Puzzle{})
	for _, p := range noPuzzles() {
		check(p, impl.Puzzle{})
	}
}

func TestMakePuzzle(t *testing.T) {
	check := func(c impl.Cut, clues, seed int, want impl.Puzzle) {
		t.Helper()
		if p, ok := impl.MakePuzzle(c, clues, seed); ok == zeroPuzzle(want) || !samePuzzle(p, want) {
			t.Error(textOf(c), clues, seed, textOfPuzzle(p), ok, textOfPuzzle(want))
		}
	}
	for _, cuts := range allHidden() {
		for k, c := range cuts {
			for clues := range 7 {
				for seed := k; seed < 10000; seed += 499 {
					check(c, clues, seed, madeByCells(c, clues, seed))
				}
				check(c, clues, 9999, madeByCells(c, clues, 9999))
			}
		}
	}
	for seed := range 10000 {
		check(three, 6, seed, madeByCells(three, 6, seed))
	}
	for _, w := range []struct {
		c           impl.Cut
		clues, seed int
		text        string
	}{
		// From 0 come 2411, 4768, 8114 and 6504, 7823, 7942, 7801 and 4268.
		{three, 0, 0, "3x2:"}, {three, 1, 0, "3x2:5.2.0"}, {three, 3, 0, "3x2:5.2.0,4.0.0,2.0.2"}, {three, 6, 0, "3x2:5.2.0,4.0.0,2.0.2,5.2.0,4.0.0,1.3.0"}, {grown(rowsOfOnes(2, 1), 2), 3, 0, "4x2:5.2.0,4.0.0,2.0.2"},
		// From 9999 come 1075 and 1810, 4471 and 8550, 9267 and 8922.
		{one, 0, 9999, "1x1:"}, {three, 1, 9999, "3x2:1.2.1"}, {three, 3, 9999, "3x2:1.2.1,1.1.2,3.2.2"}, {four, 3, 9999, "2x2:1.2.0,1.1.4,3.2.2"}, {twoRight, 3, 9999, "3x2:1.2.1,1.1.2,3.2.2"},
	} {
		if p, ok := impl.MakePuzzle(w.c, w.clues, w.seed); !ok || textOfPuzzle(p) != w.text {
			t.Error(textOf(w.c), w.clues, w.seed, textOfPuzzle(p), ok)
		}
	}
	for _, c := range noHidden() {
		for clues := -1; clues <= 7; clues++ {
			check(c, clues, 0, impl.Puzzle{})
			check(c, clues, 9999, impl.Puzzle{})
		}
	}
	for _, clues := range append(noWidths(6), 7, 12, 100) {
		if clues == 0 {
			continue
		}
		check(three, clues, 0, impl.Puzzle{})
		check(three, clues, 5000, impl.Puzzle{})
		check(three, clues, -1, impl.Puzzle{})
	}
	for _, seed := range []int{math.MinInt, math.MinInt + 1, -10007, -9999, -1, 10000, 10001, 10007, 1 << 32, 1<<32 + 1, 1 << 62, math.MaxInt - 1, math.MaxInt} {
		for clues := -1; clues <= 7; clues++ {
			check(three, clues, seed, impl.Puzzle{})
			check(one, clues, seed, impl.Puzzle{})
		}
	}
}

func TestPuzzleText(t *testing.T) {
	for _, p := range somePuzzles() {
		if s, ok := impl.PuzzleText(p); !ok || s != textOfPuzzle(p) {
			t.Error(textOfPuzzle(p), s, ok)
		}
	}
	for want, p := range map[string]impl.Puzzle{
		"3x2:0.3.0,2.0.2": ofExample, "1x1:": puzzle(1, 1), "6x2:": puzzle(6, 2), "2x6:1.6.12": puzzle(2, 6, clue(1, 6, 12)), "3x2:0.3.0,1.2.1,2.5.1,3.1.2,4.0.0,5.2.0": allKinds,
	} {
		if s, ok := impl.PuzzleText(p); !ok || s != want {
			t.Error(want, s, ok)
		}
	}
	for _, p := range noPuzzles() {
		if s, ok := impl.PuzzleText(p); ok || s != "" {
			t.Error("none", s, ok)
		}
	}
}

func TestParsePuzzle(t *testing.T) {
	for _, p := range append(somePuzzles(), ofExample, allKinds, noOneHas, puzzle(4, 3), puzzle(1, 1)) {
		if q, ok := impl.ParsePuzzle(textOfPuzzle(p)); !ok || !samePuzzle(p, q) {
			t.Error(textOfPuzzle(p), q, ok)
		}
	}
	for _, s := range noPuzzleTexts() {
		if p, ok := impl.ParsePuzzle(s); ok || !zeroPuzzle(p) {
			t.Errorf("%.80q %v %v", s, p, ok)
		}
	}
	// A sign more or less, or another one, leaves no text of a puzzle, or that of another one.
	for _, text := range []string{"3x2:", "3x2:0.3.0,2.0.2", textOfPuzzle(allKinds)} {
		for at := range len(text) + 1 {
			for _, sign := range []string{"", "0", "1", "9", ".", ",", ":", "x", "-", "+", " ", "\n", "\x00", "\xff"} {
				for end := at; end <= min(at+1, len(text)); end++ {
					s := text[:at] + sign + text[end:]
					p, ok := impl.ParsePuzzle(s)
					if ok && textOfPuzzle(p) != s || !ok && !zeroPuzzle(p) {
						t.Errorf("%q %v %v", s, p, ok)
					}
				}
			}
		}
	}
}
