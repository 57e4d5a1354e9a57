package tests

import (
	"slices"
	"testing"

	"loop.example/g01296/impl"
)

func TestPromise7CutsAreCountedBySquares(t *testing.T) {
	for size := range allCounted() {
		width, height := size[0], size[1]
		count, ok := impl.CountCuts(width, height)
		counts, fine := impl.CutsBySquares(width, height)
		if !ok || !fine || count < 1 || len(counts) != width*height {
			t.Fatal(size, count, counts, ok, fine)
		}
		cuts, squares := 0, 0
		for k, n := range counts {
			cuts += n
			squares += n * (k + 1)
		}
		a, b, ok := impl.MeanOfCuts(width, height)
		if cuts != count || !ok || a*count != b*squares {
			t.Error(size, count, counts, a, b, ok)
		}
		// The first number that is not 0 tells of the cuts with the fewest squares, the last one of squares of side 1 alone.
		fewest, _ := impl.FewestSquares(width, height)
		few, _ := impl.CountFewest(width, height)
		if slices.IndexFunc(counts, func(n int) bool { return n > 0 }) != fewest-1 || counts[fewest-1] != few || counts[width*height-1] != 1 {
			t.Error(size, counts, fewest, few)
		}
		// Turning makes as many cuts of the turned rectangle.
		turned, ok := impl.CutsBySquares(height, width)
		if !ok || !slices.Equal(turned, counts) {
			t.Error(size, counts, turned, ok)
		}
	}
}

func TestPromise7CutsAreCountedByGreatestSides(t *testing.T) {
	for size, cuts := range allCounted() {
		width, height := size[0], size[1]
		count, _ := impl.CountCuts(width, height)
		before := 0
		for side := 1; side <= 6; side++ {
			n, ok := impl.CutsWithMost(width, height, side)
			with := countBy(cuts, func(c impl.Cut) bool { return sidesByPlaces(c)[0] == side })
			if turned, fine := impl.CutsWithMost(height, width, side); !ok || !fine || n != before+with || turned != n {
				t.Error(size, side, n, turned, ok, fine)
			}
			if side == 1 && n != 1 || side >= min(width, height) && n != count {
				t.Error(size, side, n, count)
			}
			before = n
		}
	}
}

func TestPromise7CutsAreCountedInLists(t *testing.T) {
	for size := range allListed() {
		width, height := size[0], size[1]
		count, _ := impl.CountCuts(width, height)
		list, ok := impl.AllCuts(width, height)
		if !ok || len(list) != count {
			t.Fatal(size, len(list), count, ok)
		}
		bySquares, byGreatest := make([]int, width*height), make([]int, 7)
		for rank, c := range list {
			if _, is := cellsOf(c); !is || !impl.IsCut(c) || c.Width != width || c.Height != height || rank > 0 && inOrderOfCuts(list[rank-1], c) >= 0 {
				t.Fatal(size, rank, textOf(c))
			}
			again, ok := impl.CutOfRank(width, height, rank)
			if r, fine := impl.RankOfCut(c); !ok || !fine || !same(again, c) || r != rank {
				t.Fatal(size, rank, textOf(c), textOf(again), r, ok, fine)
			}
			bySquares[len(c.Squares)-1]++
			for side := sidesByPlaces(c)[0]; side <= 6; side++ {
				byGreatest[side]++
			}
		}
		if _, ok := impl.CutOfRank(width, height, count); ok {
			t.Error("behind the last one", size)
		}
		if counts, _ := impl.CutsBySquares(width, height); !slices.Equal(counts, bySquares) {
			t.Error(size, counts, bySquares)
		}
		for side := 1; side <= 6; side++ {
			if n, _ := impl.CutsWithMost(width, height, side); n != byGreatest[side] {
				t.Error(size, side, n, byGreatest)
			}
		}
	}
}

func TestPromise7SideListsCountAllCuts(t *testing.T) {
	for size := range allListed() {
		width, height := size[0], size[1]
		lists, ok := impl.SideLists(width, height)
		if !ok || !slices.IsSortedFunc(lists, slices.Compare) {
			t.Error(size, lists, ok)
		}
		bySquares := make([]int, width*height)
		for k, list := range lists {
			n, ok := impl.CountWithSides(width, height, list)
			if !ok || n < 1 || k > 0 && slices.Equal(lists[k-1], list) {
				t.Error(size, list, n, ok)
			}
			bySquares[len(list)-1] += n
		}
		if counts, _ := impl.CutsBySquares(width, height); !slices.Equal(counts, bySquares) {
			t.Error(size, counts, bySquares)
		}
	}
}

func TestPromise7TurnsCountAllCuts(t *testing.T) {
	for size := range allListed() {
		width, height := size[0], size[1]
		turns, ok := impl.FirstTurns(width, height)
		if n, fine := impl.CountTurned(width, height); !ok || !fine || n != len(turns) {
			t.Error(size, n, len(turns), ok, fine)
		}
		// Turning and mirroring the first turns makes all cuts again.
		all := map[string]impl.Cut{}
		for _, c := range turns {
			if d, ok := impl.FirstTurn(c); !ok || !same(c, d) {
				t.Error(size, textOf(c), textOf(d), ok)
			}
			own := map[string]impl.Cut{}
			for _, d := range turnsOf(c) {
				if d.Width == width && d.Height == height {
					own[textOf(d)] = d
				}
			}
			for text, d := range own {
				if _, is := all[text]; is {
					t.Error("two turns of one", size, text)
				}
				all[text] = d
			}
		}
		count, _ := impl.CountCuts(width, height)
		mirrored, simple, without := 0, 0, 0
		for _, c := range all {
			if m, _ := impl.MirrorCut(c); same(m, c) {
				mirrored++
			}
			if is, _ := impl.IsSimple(c); is {
				simple++
			}
			if crosses, _ := impl.CrossesOf(c); len(crosses) == 0 {
				without++
			}
		}
		m, _ := impl.CountMirrored(width, height)
		s, _ := impl.CountSimple(width, height)
		w, _ := impl.CountWithoutCross(width, height)
		if len(all) != count || m != mirrored || s != simple || w != without {
			t.Error(size, len(all), count, m, mirrored, s, simple, w, without)
		}
	}
}
