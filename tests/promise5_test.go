package tests

import (
	"slices"
	"testing"

	"loop.example/g01296/impl"
)

// checkNoFewer holds a cut against the fewest squares of its size.
func checkNoFewer(t *testing.T, c impl.Cut) {
	t.Helper()
	fewest, ok := impl.FewestSquares(c.Width, c.Height)
	is, fine := impl.IsFewest(c)
	if !ok || !fine || len(c.Squares) < fewest || is != (len(c.Squares) == fewest) {
		t.Fatal(textOf(c), fewest, is, ok, fine)
	}
}

func TestPromise5NoCutHasFewerSquaresThanTheFewest(t *testing.T) {
	for width := 1; width <= 6; width++ {
		for height := 1; height <= 6; height++ {
			least := 31
			for _, c := range cutsOfSize(width, height) {
				checkNoFewer(t, c)
				least = min(least, len(c.Squares))
			}
			if fewest, ok := impl.FewestSquares(width, height); !ok || fewest != least {
				t.Error("no cut has so few", width, height, fewest, ok)
			}
		}
	}
	for size, fewest := range allFewest() {
		// With one square less there is no cut at all.
		if n, _ := impl.FewestSquares(size[0], size[1]); len(cutsWithin(size[0], size[1], n-1)) > 0 {
			t.Error(size, n)
		}
		for _, c := range fewest {
			checkNoFewer(t, c)
		}
		greedy, _ := impl.GreedyCut(size[0], size[1])
		checkNoFewer(t, greedy)
		lined, _ := impl.CutByLines(size[0], size[1])
		checkNoFewer(t, lined)
	}
}

func TestPromise5CutsWithTheFewestHaveSoFew(t *testing.T) {
	for size := range allFewest() {
		width, height := size[0], size[1]
		fewest, _ := impl.FewestSquares(width, height)
		first, ok := impl.FirstFewest(width, height)
		if _, is := cellsOf(first); !ok || !is || !impl.IsCut(first) || len(first.Squares) != fewest || first.Width != width || first.Height != height {
			t.Error("first", size, textOf(first), ok)
		}
		turns, ok := impl.FewestTurns(width, height)
		if count, fine := impl.CountFewestTurns(width, height); !ok || !fine || count != len(turns) {
			t.Error("turns", size, count, len(turns), ok, fine)
		}
		// Turning and mirroring the first turns makes all cuts with so few again, as many as are counted.
		all := map[string]bool{}
		has := map[int]bool{}
		simple := 0
		for _, c := range turns {
			if d, ok := impl.FirstTurn(c); !ok || !same(c, d) || len(c.Squares) != fewest {
				t.Error("first turn", size, textOf(c), textOf(d), ok)
			}
			for _, d := range turnsOf(c) {
				if d.Width != width || d.Height != height || all[textOf(d)] {
					continue
				}
				all[textOf(d)] = true
				for _, s := range d.Squares {
					has[s.Side] = true
				}
				if is, _ := impl.IsSimple(d); is {
					simple++
				}
			}
		}
		if n, ok := impl.CountFewest(width, height); !ok || n != len(all) || !all[textOf(first)] {
			t.Error("count", size, n, len(all), ok)
		}
		if n, ok := impl.CountSimpleFewest(width, height); !ok || n != simple {
			t.Error("simple", size, n, simple, ok)
		}
		sides, ok := impl.SidesOfFewest(width, height)
		if !ok || len(sides) != len(has) || !slices.IsSorted(sides) {
			t.Error("sides", size, sides, ok)
		}
		for _, side := range sides {
			if !has[side] {
				t.Error("side", size, side)
			}
		}
	}
}

// turnsOf are the cuts that turning and mirroring make of one, some of them more than once.
func turnsOf(c impl.Cut) []impl.Cut {
	var list []impl.Cut
	for range 4 {
		c, _ = impl.TurnCut(c)
		m, _ := impl.MirrorCut(c)
		list = append(list, c, m)
	}
	return list
}

func TestPromise5CutsByLinesAreByLines(t *testing.T) {
	for width := 1; width <= 60; width++ {
		for height := 1; height <= 60; height++ {
			count, ok := impl.FewestByLines(width, height)
			if !ok {
				t.Fatal(width, height, count, ok)
			}
			c, ok := impl.CutByLines(width, height)
			if ok != (count <= impl.MaxSquares) {
				t.Fatal(width, height, count, ok)
			}
			if !ok {
				continue
			}
			g, is := cellsOf(c)
			if !is || !impl.IsCut(c) || c.Width != width || c.Height != height || len(c.Squares) != count || !isByLinesByCells(g) {
				t.Fatal(width, height, count, textOf(c))
			}
		}
	}
}

func TestPromise5NoCutByLinesHasFewerSquaresThanTheFewestByLines(t *testing.T) {
	for width := 1; width <= 5; width++ {
		for height := 1; height <= 6; height++ {
			count, _ := impl.FewestByLines(width, height)
			for _, c := range cutsOfSize(width, height) {
				if g, _ := cellsOf(c); len(c.Squares) < count && isByLinesByCells(g) {
					t.Fatal(textOf(c), count)
				}
			}
		}
	}
	// What greatest squares are taken off is by lines.
	for width := 1; width <= 60; width++ {
		for height := 1; height <= 60; height++ {
			count, _ := impl.FewestByLines(width, height)
			if greedy, ok := impl.CountGreedy(width, height); !ok || greedy < count {
				t.Fatal(width, height, greedy, count)
			}
		}
	}
}

func TestPromise5LossesAndTablesAreOfTheFewest(t *testing.T) {
	for size := range allFewest() {
		width, height := size[0], size[1]
		fewest, _ := impl.FewestSquares(width, height)
		lined, _ := impl.FewestByLines(width, height)
		greedy, _ := impl.CountGreedy(width, height)
		if n, ok := impl.LinesLose(width, height); !ok || n < 0 || n != lined-fewest {
			t.Error("lines", size, n, ok)
		}
		if n, ok := impl.GreedyLose(width, height); !ok || n < 0 || n != greedy-fewest {
			t.Error("greedy", size, n, ok)
		}
		if table, ok := impl.FewestTable(width); ok && height <= width && table[height-1] != fewest {
			t.Error("table", size, table)
		}
		if table, ok := impl.LinedTable(width); !ok || height <= width && table[height-1] != lined {
			t.Error("table by lines", size, table, ok)
		}
		// What is turned, or grown, needs no more.
		if n, _ := impl.FewestSquares(height, width); n != fewest {
			t.Error("turned", size, n)
		}
		if n, ok := impl.FewestSquares(2*width, 2*height); ok && n > fewest {
			t.Error("grown", size, n)
		}
	}
}
