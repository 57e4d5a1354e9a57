package tests

import (
	"slices"
	"testing"

	"loop.example/g01296/impl"
)

func TestPromise4QuotientsTellRatiosAgain(t *testing.T) {
	check := func(width, height int) {
		t.Helper()
		q, ok := impl.QuotientsOf(width, height)
		low := lowest(max(width, height), min(width, height))
		if a, b, fine := impl.RatioOfQuotients(q); !ok || !fine || a != low[0] || b != low[1] {
			t.Fatal(width, height, q, a, b, ok, fine)
		}
	}
	for width := 1; width <= 100; width++ {
		for height := 1; height <= 100; height++ {
			check(width, height)
		}
	}
	for n := 1; n <= 1000; n++ {
		for _, m := range []int{1, 2, 377, 610, 618, 987, 999, 1000} {
			check(n, m)
			check(m, n)
		}
	}
	for _, list := range shortLists(5, 6) {
		width, height, ok := impl.RatioOfQuotients(list)
		if !ok {
			continue
		}
		if again, ok := impl.QuotientsOf(width, height); !ok || !slices.Equal(list, again) || width < height {
			t.Fatal(list, width, height, again, ok)
		}
	}
}

func TestPromise4WordsMakeARectangleOfAsManySquares(t *testing.T) {
	for length := range 9 {
		for _, w := range wordsOfLength(length) {
			c, ok := impl.CutOfWord(w)
			if _, is := cellsOf(c); !ok || !is || !impl.IsCut(c) || len(c.Squares) != length+1 {
				t.Fatal(w, textOf(c), ok, is)
			}
			width, height, ok := impl.RatioOfWord(w)
			if !ok || width != c.Width || height != c.Height {
				t.Fatal("ratio", w, width, height, ok)
			}
			if count, ok := impl.CountGreedy(width, height); !ok || count != length+1 {
				t.Fatal("squares taken off again", w, count, ok)
			}
			put, ok := impl.SidesOfWord(w)
			sides, _ := impl.SidesOf(c)
			slices.Sort(sides)
			if !ok || !slices.Equal(put, sides) {
				t.Fatal("sides", w, put, sides, ok)
			}
			if again, ok := impl.WordOfRatio(width, height); !ok || again != w {
				t.Fatal("word", w, again, ok)
			}
			if is, ok := impl.IsSquareRatio(width, height, length+1); !ok || !is {
				t.Fatal("so many squares", w, is, ok)
			}
		}
	}
}

func TestPromise4WordsOfRatiosMakeThem(t *testing.T) {
	for width := 1; width <= 60; width++ {
		for height := 1; height <= 60; height++ {
			w, ok := impl.WordOfRatio(width, height)
			count, _ := impl.CountGreedy(width, height)
			if ok != (count <= impl.MaxWord+1) {
				t.Fatal(width, height, w, ok, count)
			}
			if !ok {
				continue
			}
			low := lowest(width, height)
			if a, b, ok := impl.RatioOfWord(w); !ok || a != low[0] || b != low[1] || len(w)+1 != count {
				t.Fatal(width, height, w, a, b, ok)
			}
			c, ok := impl.CutOfWord(w)
			if a, b, fine := impl.RatioOfCut(c); !ok || !fine || a != low[0] || b != low[1] {
				t.Fatal("cut", width, height, textOf(c), ok, fine)
			}
			g, ok := impl.GreedyCut(width, height)
			if a, b, fine := impl.RatioOfCut(g); !ok || !fine || a != low[0] || b != low[1] || len(g.Squares) != count {
				t.Fatal("greatest squares", width, height, textOf(g), ok, fine)
			}
		}
	}
}

func TestPromise4TurnedWordsMakeTurnedRectangles(t *testing.T) {
	for length := range 9 {
		for _, w := range wordsOfLength(length) {
			turned, ok := impl.TurnedWord(w)
			a, b, _ := impl.RatioOfWord(w)
			if c, d, fine := impl.RatioOfWord(turned); !ok || !fine || a != d || b != c {
				t.Fatal(w, turned, c, d, ok, fine)
			}
			if again, ok := impl.TurnedWord(turned); !ok || again != w {
				t.Fatal(w, turned, again, ok)
			}
		}
	}
}

func TestPromise4RanksTellRatiosAgain(t *testing.T) {
	for squares := 1; squares <= 8; squares++ {
		ratios, ok := impl.RatiosOf(squares)
		if count, fine := impl.CountRatios(squares); !ok || !fine || len(ratios) != count {
			t.Fatal(squares, len(ratios), count, ok, fine)
		}
		greatest, most, _ := impl.GreatestRatio(squares)
		for rank, r := range ratios {
			if a, b, ok := impl.RatioOfRank(squares, rank); !ok || a != r[0] || b != r[1] {
				t.Fatal("ratio", squares, rank, a, b, ok)
			}
			if k, ok := impl.RankOfRatio(r[0], r[1]); !ok || k != rank {
				t.Fatal("rank", squares, r, k, ok)
			}
			if max(r[0], r[1]) == greatest {
				most--
			}
			if max(r[0], r[1]) > greatest {
				t.Fatal("greater", squares, r, greatest)
			}
		}
		if most != 0 {
			t.Error("the greatest side", squares, greatest, most)
		}
	}
}
