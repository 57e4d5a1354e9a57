package tests

import (
	"slices"
	"testing"

	"loop.example/g01296/impl"
)

// fewPuzzles are some of all kinds of puzzles; those that differ least are not all among them.
func fewPuzzles() []impl.Puzzle {
	var list []impl.Puzzle
	for k, p := range somePuzzles() {
		if k%5 == 0 || len(p.Clues) == 0 {
			list = append(list, p)
		}
	}
	return append(list, ofExample, firstOnly, noOneHas, allKinds)
}

// fitsEach asks for each clue whether a cut fits it.
func fitsEach(t *testing.T, p impl.Puzzle, c impl.Cut) bool {
	t.Helper()
	fits := true
	for _, own := range p.Clues {
		is, ok := impl.DoesFit(own, c)
		if !ok {
			t.Error(textOfPuzzle(p), own, textOf(c))
		}
		fits = fits && is
	}
	return fits
}

func TestPromise9SolutionsFitAllClues(t *testing.T) {
	for _, p := range fewPuzzles() {
		solutions, ok := impl.Solutions(p)
		if !ok {
			t.Fatal(textOfPuzzle(p))
		}
		for _, c := range solutions {
			if !impl.IsCut(c) || c.Width != p.Width || c.Height != p.Height || !fitsEach(t, p, c) {
				t.Error(textOfPuzzle(p), textOf(c))
			}
		}
		// All others do not, and the order is that of all cuts.
		all, _ := impl.AllCuts(p.Width, p.Height)
		fit := slices.DeleteFunc(all, func(c impl.Cut) bool { return !fitsEach(t, p, c) })
		if !slices.EqualFunc(solutions, fit, same) {
			t.Error(textOfPuzzle(p), solutions, fit)
		}
		count, ok := impl.CountSolutions(p)
		is, fine := impl.IsSolved(p)
		if !ok || !fine || count != len(solutions) || is != (count == 1) {
			t.Error(textOfPuzzle(p), count, is, ok, fine)
		}
		first, ok := impl.FirstSolution(p)
		if ok != (count > 0) || ok && !same(first, solutions[0]) {
			t.Error(textOfPuzzle(p), textOf(first), ok)
		}
	}
}

func TestPromise9HarderPuzzlesAreSolvedByTheSameCut(t *testing.T) {
	harderOnes := 0
	for _, p := range append(fewPuzzles(), madePuzzles(t)...) {
		harder, ok := impl.HarderPuzzle(p)
		if is, _ := impl.IsSolved(p); ok != is {
			t.Error(textOfPuzzle(p), is, ok)
		}
		if !ok {
			continue
		}
		if len(harder.Clues) < len(p.Clues) {
			harderOnes++
		}
		solutions, ok := impl.Solutions(harder)
		before, _ := impl.FirstSolution(p)
		if !ok || len(solutions) != 1 || !same(solutions[0], before) || !impl.IsPuzzle(harder) {
			t.Error(textOfPuzzle(p), textOfPuzzle(harder), solutions, ok)
		}
		// Its clues are some of the others, in their order.
		rest := p.Clues
		for _, c := range harder.Clues {
			k := slices.Index(rest, c)
			if k < 0 {
				t.Fatal(textOfPuzzle(p), textOfPuzzle(harder))
			}
			rest = rest[k+1:]
		}
		// None of them can be taken out.
		needless, ok := impl.NeedlessClues(harder)
		again, fine := impl.HarderPuzzle(harder)
		if !ok || !fine || len(needless) > 0 || !samePuzzle(again, harder) {
			t.Error(textOfPuzzle(p), textOfPuzzle(harder), needless, textOfPuzzle(again), ok, fine)
		}
	}
	if harderOnes < 100 {
		t.Error("too few are made harder", harderOnes)
	}
}

// madePuzzles are made for all hidden cuts, of all numbers of clues.
func madePuzzles(t *testing.T) []impl.Puzzle {
	t.Helper()
	var list []impl.Puzzle
	for _, size := range hiddenSizes() {
		for k, c := range allHidden()[size] {
			for clues := range 7 {
				for _, seed := range []int{0, 1, 2*k + clues, 167 * (k + clues), 5000 + k, 9998, 9999} {
					p, ok := impl.MakePuzzle(c, clues, seed)
					if !ok || len(p.Clues) != clues || !impl.IsPuzzle(p) {
						t.Fatal(textOf(c), clues, seed, p, ok)
					}
					list = append(list, p)
				}
			}
		}
	}
	return list
}

func TestPromise9PuzzlesThatAreMadeFitTheirCut(t *testing.T) {
	for _, size := range hiddenSizes() {
		for _, c := range allHidden()[size] {
			for seed := 0; seed < 10000; seed += 303 {
				longest, ok := impl.MakePuzzle(c, 6, seed)
				solutions, fine := impl.Solutions(longest)
				if !ok || !fine || !fitsEach(t, longest, c) || !slices.ContainsFunc(solutions, func(d impl.Cut) bool { return same(c, d) }) {
					t.Error(textOf(c), seed, textOfPuzzle(longest), ok, fine)
				}
				if is, _ := impl.IsSolved(longest); is != (len(solutions) == 1) || is && !same(solutions[0], c) {
					t.Error(textOf(c), seed, textOfPuzzle(longest), is)
				}
				// Fewer clues are the first ones of more.
				for clues := range 6 {
					if p, ok := impl.MakePuzzle(c, clues, seed); !ok || !samePuzzle(p, puzzle(c.Width, c.Height, longest.Clues[:clues]...)) {
						t.Error(textOf(c), clues, seed, textOfPuzzle(p), ok)
					}
				}
			}
		}
	}
}

func TestPromise9SureSidesAreThoseOfAllSolutions(t *testing.T) {
	for _, p := range fewPuzzles() {
		sides, ok := impl.SureSides(p)
		solutions, _ := impl.Solutions(p)
		if ok != (len(solutions) > 0) {
			t.Error(textOfPuzzle(p), sides, ok)
		}
		if !ok {
			continue
		}
		if len(sides) != p.Width*p.Height {
			t.Fatal(textOfPuzzle(p), sides)
		}
		for cell, sure := range sides {
			for side := 1; side <= 6; side++ {
				count := countBy(solutions, func(c impl.Cut) bool {
					is, _ := impl.DoesFit(clue(2, cell, side), c)
					return is
				})
				if (count == len(solutions)) != (side == sure) {
					t.Error(textOfPuzzle(p), cell, side, count, sure)
				}
			}
		}
		// Clues that tell what is sure are needless.
		for cell, sure := range sides {
			told, ok := impl.AddClue(p, clue(2, cell, sure))
			if ok != (sure > 0 && len(p.Clues) < 6) {
				t.Error(textOfPuzzle(p), cell, sure, ok)
			}
			if needless, _ := impl.NeedlessClues(told); ok && !slices.Contains(needless, len(p.Clues)) {
				t.Error(textOfPuzzle(p), cell, sure, needless)
			}
		}
	}
}

func TestPromise9CluesLeaveSolutions(t *testing.T) {
	for _, p := range fewPuzzles() {
		left, ok := impl.LeftByClues(p)
		count, _ := impl.CountSolutions(p)
		all, _ := impl.CountCuts(p.Width, p.Height)
		if !ok || len(left) != len(p.Clues)+1 || left[0] != all || left[len(p.Clues)] != count || !slices.IsSortedFunc(left, func(a, b int) int { return b - a }) {
			t.Fatal(textOfPuzzle(p), left, count, all, ok)
		}
		needless, ok := impl.NeedlessClues(p)
		best, fine := impl.BestClue(p)
		if !ok || fine != (len(p.Clues) > 0) {
			t.Error(textOfPuzzle(p), needless, best, ok, fine)
		}
		var alone []int
		for k, c := range p.Clues {
			fewer, ok := impl.DropClue(p, k)
			others, _ := impl.CountSolutions(fewer)
			if !ok || others < count || slices.Contains(needless, k) != (others == count) {
				t.Error(textOfPuzzle(p), k, textOfPuzzle(fewer), others, count, needless, ok)
			}
			// The order of clues does not change which cuts fit them.
			back, ok := impl.AddClue(fewer, c)
			if n, _ := impl.CountSolutions(back); !ok || n != count {
				t.Error(textOfPuzzle(p), k, textOfPuzzle(back), n, count, ok)
			}
			single, _ := impl.AddClue(puzzle(p.Width, p.Height), c)
			n, _ := impl.CountSolutions(single)
			alone = append(alone, n)
		}
		if fine && (alone[best] != slices.Min(alone) || slices.Contains(alone[:best], alone[best])) {
			t.Error(textOfPuzzle(p), best, alone)
		}
	}
}

func TestPromise9TextsTellPuzzlesAgain(t *testing.T) {
	for _, p := range append(fewPuzzles(), madePuzzles(t)...) {
		s, ok := impl.PuzzleText(p)
		again, fine := impl.ParsePuzzle(s)
		if !ok || !fine || !samePuzzle(p, again) {
			t.Error(textOfPuzzle(p), s, textOfPuzzle(again), ok, fine)
		}
	}
}
