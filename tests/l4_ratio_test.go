package tests

import (
	"math"
	"runtime"
	"slices"
	"strings"
	"testing"
	"time"

	"loop.example/g01296/impl"
)

func TestExampleOfChapter4(t *testing.T) {
	if q, ok := impl.QuotientsOf(7, 3); !ok || !slices.Equal(q, []int{2, 3}) {
		t.Error("quotients", q, ok)
	}
	if c, ok := impl.GreedyCut(7, 3); !ok || textOf(c) != "7x3;0,0,3;3,0,3;6,0,1;6,1,1;6,2,1" {
		t.Error("cut", textOf(c), ok)
	}
	if w, ok := impl.WordOfRatio(7, 3); !ok || w != "uubb" {
		t.Error("word", w, ok)
	}
	if sides, ok := impl.SidesOfWord("uubb"); !ok || !slices.Equal(sides, []int{1, 1, 1, 3, 3}) {
		t.Error("sides", sides, ok)
	}
	if ratios, ok := impl.RatiosOf(3); !ok || !sameLists(ratios, [][]int{{3, 1}, {2, 3}, {3, 2}, {1, 3}}) {
		t.Error("ratios", ratios, ok)
	}
	if side, _, ok := impl.GreatestRatio(5); !ok || side != 8 {
		t.Error("greatest", side, ok)
	}
	if c, ok := impl.CutOfWord("uubb"); !ok || textOf(c) != "7x3;0,0,1;1,0,3;4,0,3;0,1,1;0,2,1" {
		t.Error("cut of the word", textOf(c), ok)
	}
}

func TestRatioOfCut(t *testing.T) {
	for _, c := range append(sampleCuts(), grown(one, 500), grown(rowsOfOnes(2, 1), 250), grown(rowsOfOnes(1, 2), 250)) {
		low := lowest(c.Width, c.Height)
		if width, height, ok := impl.RatioOfCut(c); !ok || width != low[0] || height != low[1] {
			t.Fatal(textOf(c), width, height, ok)
		}
	}
	for _, w := range []struct {
		c             impl.Cut
		width, height int
	}{
		{one, 1, 1}, {grown(one, 500), 1, 1}, {three, 3, 2}, {split, 2, 1}, {grown(three, 166), 3, 2}, {nine, 33, 32}, {rowsOfOnes(1, 30), 1, 30}, {grown(rowsOfOnes(1, 2), 250), 1, 2},
	} {
		if width, height, ok := impl.RatioOfCut(w.c); !ok || width != w.width || height != w.height {
			t.Error(textOf(w.c), width, height, ok)
		}
	}
	for _, c := range noCuts() {
		if width, height, ok := impl.RatioOfCut(c); ok || width != 0 || height != 0 {
			t.Error(textOf(c), width, height, ok)
		}
	}
}

func checkQuotients(t *testing.T, width, height int, want []int) {
	t.Helper()
	if q, ok := impl.QuotientsOf(width, height); !ok || !slices.Equal(q, want) {
		t.Fatal("quotients", width, height, q, ok)
	}
	if count, ok := impl.CountGreedy(width, height); !ok || count != sumOf(want) {
		t.Fatal("count", width, height, count, ok)
	}
}

func TestQuotientsOfAndCountGreedy(t *testing.T) {
	for width := 1; width <= 32; width++ {
		for height := 1; height <= 32; height++ {
			_, sides := greedyByCells(width, height)
			checkQuotients(t, width, height, runsOf(sides))
		}
	}
	for _, width := range []int{1, 2, 3, 377, 500, 501, 610, 618, 987, 997, 998, 999, 1000} {
		for height := 1; height <= 1000; height++ {
			checkQuotients(t, width, height, quotientsByFraction(width, height))
			checkQuotients(t, height, width, quotientsByFraction(height, width))
		}
	}
	for _, w := range []struct {
		width, height int
		quotients     []int
	}{
		{1, 1, []int{1}}, {5, 5, []int{1}}, {1000, 1000, []int{1}}, {3, 7, []int{2, 3}}, {14, 6, []int{2, 3}}, {1000, 1, []int{1000}}, {1, 1000, []int{1000}}, {1000, 500, []int{2}},
		{3, 2, []int{1, 2}}, {1000, 999, []int{1, 999}}, {1000, 3, []int{333, 3}}, {987, 610, append(slices.Repeat([]int{1}, 13), 2)},
	} {
		checkQuotients(t, w.width, w.height, w.quotients)
	}
}

func TestGreedyCut(t *testing.T) {
	for width := 1; width <= 36; width++ {
		for height := 1; height <= 36; height++ {
			g, sides := greedyByCells(width, height)
			c, ok := impl.GreedyCut(width, height)
			if is := len(sides) <= 30; ok != is || is && !same(c, cutOfCells(g)) || !is && !zero(c) {
				t.Fatal(width, height, c, ok)
			}
		}
	}
	for _, w := range []struct {
		width, height int
		c             impl.Cut
	}{
		{1, 1, one}, {5, 5, grown(one, 5)}, {500, 500, grown(one, 500)}, {30, 1, rowsOfOnes(30, 1)}, {1, 30, rowsOfOnes(1, 30)}, {480, 16, grown(rowsOfOnes(30, 1), 16)},
		{500, 250, grown(rowsOfOnes(2, 1), 250)}, {250, 500, grown(rowsOfOnes(1, 2), 250)}, {3, 2, three},
		{3, 7, cut(3, 7, 0, 0, 3, 0, 3, 3, 0, 6, 1, 1, 6, 1, 2, 6, 1)},
		{500, 300, cut(500, 300, 0, 0, 300, 300, 0, 200, 300, 200, 100, 400, 200, 100)},
	} {
		if c, ok := impl.GreedyCut(w.width, w.height); !ok || !same(c, w.c) {
			t.Error(w.width, w.height, textOf(c), ok)
		}
	}
	// They have too many squares, or a length that no cut has.
	for _, w := range [][2]int{{31, 1}, {1, 31}, {500, 499}, {500, 16}, {500, 1}, {1, 500}, {501, 167}, {167, 501}, {501, 501}, {1000, 500}, {1000, 1000}, {1000, 1}, {1, 1000}} {
		if c, ok := impl.GreedyCut(w[0], w[1]); ok || !zero(c) {
			t.Error(w, textOf(c), ok)
		}
	}
}

func TestRatioOfQuotients(t *testing.T) {
	for _, list := range shortLists(6, 5) {
		is := len(list) == 1 || list[len(list)-1] > 1
		a, b := ratioByFraction(list)
		if !is {
			a, b = 0, 0
		}
		if width, height, ok := impl.RatioOfQuotients(list); width != a || height != b || ok != (a > 0) {
			t.Fatal(list, width, height, ok)
		}
	}
	ones := slices.Repeat([]int{1}, 13)
	for _, w := range []struct {
		list          []int
		width, height int
	}{
		{[]int{1}, 1, 1}, {[]int{2}, 2, 1}, {[]int{999}, 999, 1}, {[]int{1000}, 1000, 1}, {[]int{2, 3}, 7, 3}, {[]int{1, 2}, 3, 2}, {[]int{333, 3}, 1000, 3}, {[]int{3, 333}, 1000, 333},
		{[]int{1, 999}, 1000, 999}, {[]int{499, 2}, 999, 2}, {append(slices.Clone(ones), 2), 987, 610}, {append([]int{1, 1}, 499), 999, 500},
	} {
		if width, height, ok := impl.RatioOfQuotients(w.list); !ok || width != w.width || height != w.height {
			t.Error(w.list, width, height, ok)
		}
	}
}

func TestRatioOfQuotientsFails(t *testing.T) {
	lists := [][]int{
		nil, {}, {0}, {-1}, {1001}, {1, 1}, {2, 1}, {2, 3, 1}, {500, 2}, {2, 500}, {1, 1000}, {1000, 2}, {1, 1001}, {334, 3}, {0, 2}, {2, 0}, {2, 0, 2}, {-2, 3}, {2, -3}, {-2, -3},
		append(slices.Repeat([]int{1}, 14), 2), append(slices.Repeat([]int{1}, 19), 2), append(slices.Repeat([]int{1}, 20), 2), slices.Repeat([]int{1}, 20), slices.Repeat([]int{1}, 21),
		slices.Repeat([]int{1000}, 20), slices.Repeat([]int{2}, 100000), make([]int, 100000), append(make([]int, 20), 2), {1 << 32, 1 << 32}, {1 << 62, 4}, {4, 1 << 62}, {1 << 62, 1 << 62, 1 << 62},
		{math.MaxInt, 2}, {2, math.MaxInt}, {math.MinInt, 2}, {2, math.MinInt}, {math.MaxInt, math.MinInt}, {math.MinInt, math.MaxInt}, {math.MaxInt, math.MaxInt, math.MaxInt},
	}
	for _, n := range []int{math.MinInt, math.MinInt + 1, -1 << 62, -1000, -1, 0, 1001, 1 << 31, 1 << 32, 1<<32 + 1, 1 << 62, math.MaxInt - 1, math.MaxInt} {
		lists = append(lists, []int{n}, []int{n, 2}, []int{1, n}, []int{1, n, 2}, []int{n, n})
	}
	for _, list := range lists {
		if width, height, ok := impl.RatioOfQuotients(list); ok || width != 0 || height != 0 {
			t.Errorf("%.80v %d %d %v", list, width, height, ok)
		}
	}
}

func TestWordOfRatio(t *testing.T) {
	words := wordsOfRatios()
	for ratio, word := range words {
		if w, ok := impl.WordOfRatio(ratio[0], ratio[1]); !ok || w != word {
			t.Fatal(ratio, w, ok)
		}
	}
	for width := 1; width <= 1000; width += 3 {
		for height := 1; height <= 1000; height += 7 {
			low := lowest(width, height)
			word, is := words[[2]int{low[0], low[1]}]
			if w, ok := impl.WordOfRatio(width, height); ok != is || w != word {
				t.Fatal(width, height, w, ok)
			}
		}
	}
	for _, w := range []struct {
		width, height int
		word          string
	}{
		{1, 1, ""}, {5, 5, ""}, {1000, 1000, ""}, {2, 1, "b"}, {1, 2, "u"}, {1000, 500, "b"}, {14, 6, "uubb"}, {3, 7, "bbuu"}, {3, 2, "ub"}, {2, 3, "bu"}, {610, 987, byTurns(14)},
		{21, 1, strings.Repeat("b", 20)}, {1, 21, strings.Repeat("u", 20)}, {987, 47, strings.Repeat("b", 20)}, {39, 2, "u" + strings.Repeat("b", 19)}, {21, 20, strings.Repeat("u", 19) + "b"},
	} {
		if word, ok := impl.WordOfRatio(w.width, w.height); !ok || word != w.word {
			t.Error(w.width, w.height, word, ok)
		}
	}
	// These would need one sign more than there may be, or many.
	for _, w := range [][2]int{{22, 1}, {1, 22}, {44, 2}, {41, 2}, {2, 41}, {22, 21}, {1000, 1}, {1, 1000}, {1000, 999}, {999, 1000}} {
		if word, ok := impl.WordOfRatio(w[0], w[1]); ok || word != "" {
			t.Error("too long", w, word, ok)
		}
	}
}

func TestRatioOfWord(t *testing.T) {
	exact := 0
	growWords("", 1, 1, func(w string, width, height int) bool {
		is := max(width, height) <= 1000
		if max(width, height) == 1000 {
			exact++
		}
		if !is {
			width, height = 0, 0
		}
		if a, b, ok := impl.RatioOfWord(w); ok != is || a != width || b != height {
			t.Fatal(w, a, b, ok)
		}
		return is
	})
	if exact < 100 {
		t.Error("words that make just 1000", exact)
	}
	for length := range 9 {
		for _, w := range wordsOfLength(length) {
			g := cellsOfWord(w)
			if width, height, ok := impl.RatioOfWord(w); !ok || width != len(g[0]) || height != len(g) {
				t.Fatal(w, width, height, ok)
			}
		}
	}
	for _, w := range []string{byTurns(15), byTurns(20), byTurns(19) + "u", "ubububububububu"} {
		if width, height, ok := impl.RatioOfWord(w); ok || width != 0 || height != 0 {
			t.Error("too great", w, width, height, ok)
		}
	}
}

func TestCutOfWord(t *testing.T) {
	for length := range 9 {
		for _, w := range wordsOfLength(length) {
			if c, ok := impl.CutOfWord(w); !ok || !same(c, cutOfCells(cellsOfWord(w))) {
				t.Fatal(w, textOf(c), ok)
			}
		}
	}
	exact := 0
	growWords("", 1, 1, func(w string, width, height int) bool {
		is := max(width, height) <= 500
		if max(width, height) == 500 {
			exact++
		}
		c, ok := impl.CutOfWord(w)
		if ok != is || !is && !zero(c) || is && (c.Width != width || c.Height != height || len(c.Squares) != len(w)+1) {
			t.Fatal(w, textOf(c), ok)
		}
		return is
	})
	if exact < 100 {
		t.Error("words that make just 500", exact)
	}
	if c, ok := impl.CutOfWord(""); !ok || !same(c, one) {
		t.Error("the empty word", textOf(c), ok)
	}
	if c, ok := impl.CutOfWord(strings.Repeat("u", 20)); !ok || !same(c, rowsOfOnes(1, 21)) {
		t.Error("21 squares", textOf(c), ok)
	}
}

func TestTurnedWord(t *testing.T) {
	for length := range 11 {
		words := wordsOfLength(length)
		for k, w := range words {
			// The order of texts turns with the signs.
			if turned, ok := impl.TurnedWord(w); !ok || turned != words[len(words)-1-k] {
				t.Fatal(w, turned, ok)
			}
		}
	}
	// The last word makes a rectangle that is too great for a ratio.
	for _, w := range [][2]string{{"", ""}, {"b", "u"}, {"uubb", "bbuu"}, {strings.Repeat("b", 20), strings.Repeat("u", 20)}, {byTurns(20), "u" + byTurns(19)}} {
		if turned, ok := impl.TurnedWord(w[0]); !ok || turned != w[1] {
			t.Error(w, turned, ok)
		}
	}
}

func TestSidesOfWord(t *testing.T) {
	for length := range 9 {
		for _, w := range wordsOfLength(length) {
			if sides, ok := impl.SidesOfWord(w); !ok || !slices.Equal(sides, sidesByCells(cellsOfWord(w), length+1)) {
				t.Fatal(w, sides, ok)
			}
		}
	}
	for _, w := range []struct {
		word  string
		sides []int
	}{
		{"", []int{1}}, {"b", []int{1, 1}}, {"u", []int{1, 1}}, {strings.Repeat("b", 20), slices.Repeat([]int{1}, 21)}, {"bbbbbu", []int{1, 1, 1, 1, 1, 1, 6}},
		{byTurns(15), []int{1, 1, 2, 3, 5, 8, 13, 21, 34, 55, 89, 144, 233, 377, 610, 987}},
	} {
		if sides, ok := impl.SidesOfWord(w.word); !ok || !slices.Equal(sides, w.sides) {
			t.Error(w.word, sides, ok)
		}
	}
}

// TestSidesOfWordAtLimit puts one square more to words that make rectangles of about 1000.
func TestSidesOfWordAtLimit(t *testing.T) {
	met, exceeded := 0, 0
	check := func(w string, side int) {
		if side < 998 || side > 1003 || len(w) > 20 {
			return
		}
		sides, ok := impl.SidesOfWord(w)
		if ok != (side <= 1000) || ok && sides[len(w)] != side || !ok && sides != nil {
			t.Fatal(w, side, sides, ok)
		}
		if side == 1000 {
			met++
		}
		if side == 1001 {
			exceeded++
		}
	}
	growWords("", 1, 1, func(w string, width, height int) bool {
		check(w+"u", width)
		check(w+"b", height)
		return max(width, height) <= 1000
	})
	if met < 100 || exceeded < 100 {
		t.Error("squares of 1000 and of 1001", met, exceeded)
	}
	for _, w := range []string{byTurns(16), byTurns(20)} {
		if sides, ok := impl.SidesOfWord(w); ok || sides != nil {
			t.Error("too great", w, sides, ok)
		}
	}
}

func TestTextsThatAreNoWords(t *testing.T) {
	for _, w := range noWords() {
		if width, height, ok := impl.RatioOfWord(w); ok || width != 0 || height != 0 {
			t.Errorf("ratio of %.60q %d %d %v", w, width, height, ok)
		}
		if c, ok := impl.CutOfWord(w); ok || !zero(c) {
			t.Errorf("cut of %.60q %v %v", w, c, ok)
		}
		if turned, ok := impl.TurnedWord(w); ok || turned != "" {
			t.Errorf("turned %.60q %.60q %v", w, turned, ok)
		}
		if sides, ok := impl.SidesOfWord(w); ok || sides != nil {
			t.Errorf("sides of %.60q %.60v %v", w, sides, ok)
		}
	}
	for b := range 256 {
		w := "bu" + string([]byte{byte(b)}) + "b"
		if _, ok := impl.TurnedWord(w); ok != (b == 'b' || b == 'u') {
			t.Errorf("%q %v", w, ok)
		}
	}
}

func TestNumbersThatAreNoRatios(t *testing.T) {
	for _, r := range noRatios() {
		if q, ok := impl.QuotientsOf(r[0], r[1]); ok || q != nil {
			t.Error("quotients", r, q, ok)
		}
		if count, ok := impl.CountGreedy(r[0], r[1]); ok || count != 0 {
			t.Error("count", r, count, ok)
		}
		if c, ok := impl.GreedyCut(r[0], r[1]); ok || !zero(c) {
			t.Error("cut", r, c, ok)
		}
		if w, ok := impl.WordOfRatio(r[0], r[1]); ok || w != "" {
			t.Error("word", r, w, ok)
		}
		if rank, ok := impl.RankOfRatio(r[0], r[1]); ok || rank != 0 {
			t.Error("rank", r, rank, ok)
		}
		for _, squares := range []int{0, 1, 5, 21} {
			if is, ok := impl.IsSquareRatio(r[0], r[1], squares); ok || is {
				t.Error("is", r, squares, is, ok)
			}
		}
	}
}

func TestCountRatios(t *testing.T) {
	for squares := 1; squares <= 12; squares++ {
		ratios := map[[2]int]bool{}
		growWords("", 1, 1, func(w string, width, height int) bool {
			if len(w) == squares-1 {
				ratios[[2]int{width, height}] = true
			}
			return len(w) < squares-1
		})
		if count, ok := impl.CountRatios(squares); !ok || count != len(ratios) {
			t.Error(squares, count, ok)
		}
	}
	want := 1
	for squares := 1; squares <= 21; squares++ {
		if count, ok := impl.CountRatios(squares); !ok || count != want {
			t.Error(squares, count, ok)
		}
		want *= 2
	}
	for _, squares := range noCounts() {
		if count, ok := impl.CountRatios(squares); ok || count != 0 {
			t.Error(squares, count, ok)
		}
	}
}

func TestRatiosOf(t *testing.T) {
	for squares := 1; squares <= 8; squares++ {
		var want [][]int
		for _, w := range wordsOfLength(squares - 1) {
			g := cellsOfWord(w)
			want = append(want, []int{len(g[0]), len(g)})
		}
		if ratios, ok := impl.RatiosOf(squares); !ok || !sameLists(ratios, want) {
			t.Error(squares, ratios, ok)
		}
	}
	if ratios, ok := impl.RatiosOf(1); !ok || !sameLists(ratios, [][]int{{1, 1}}) {
		t.Error("the ratio of a square", ratios, ok)
	}
	for _, squares := range append(noCounts(), 9, 10, 20, 21) {
		if ratios, ok := impl.RatiosOf(squares); ok || ratios != nil {
			t.Error(squares, len(ratios), ok)
		}
	}
}

func TestGreatestRatio(t *testing.T) {
	for squares := 1; squares <= 15; squares++ {
		greatest, words := 0, 0
		growWords("", 1, 1, func(w string, width, height int) bool {
			side := max(width, height)
			if len(w) == squares-1 && side > greatest {
				greatest, words = side, 0
			}
			if len(w) == squares-1 && side == greatest {
				words++
			}
			return len(w) < squares-1
		})
		if side, count, ok := impl.GreatestRatio(squares); !ok || side != greatest || count != words {
			t.Error(squares, side, count, ok, greatest, words)
		}
	}
	for _, w := range [][3]int{{1, 1, 1}, {2, 2, 2}, {3, 3, 4}, {5, 8, 4}, {15, 987, 4}} {
		if side, count, ok := impl.GreatestRatio(w[0]); !ok || side != w[1] || count != w[2] {
			t.Error(w, side, count, ok)
		}
	}
	// Sides of more than 15 squares are greater than those of ratios may be.
	for _, squares := range append(noCounts(), 16, 17, 20, 21) {
		if side, count, ok := impl.GreatestRatio(squares); ok || side != 0 || count != 0 {
			t.Error(squares, side, count, ok)
		}
	}
}

// TestRankOfRatioAndRatioOfRank counts the words of each length in their order, those that make no ratio with them.
func TestRankOfRatioAndRatioOfRank(t *testing.T) {
	ranks := make([]int, 16)
	growWords("", 1, 1, func(w string, width, height int) bool {
		rank := ranks[len(w)]
		ranks[len(w)]++
		is := max(width, height) <= 1000
		a, b, ok := impl.RatioOfRank(len(w)+1, rank)
		if ok != is || is && (a != width || b != height) || !is && (a != 0 || b != 0) {
			t.Fatal(w, rank, a, b, ok)
		}
		if is {
			for _, k := range []int{1, 1000 / max(width, height)} {
				if r, ok := impl.RankOfRatio(k*width, k*height); !ok || r != rank {
					t.Fatal(w, k, r, ok)
				}
			}
		}
		return len(w) < 15
	})
}

func TestRankOfRatioAtLimits(t *testing.T) {
	for _, w := range [][3]int{{1, 1, 0}, {1000, 1000, 0}, {2, 1, 0}, {1, 2, 1}, {3, 1, 0}, {2, 3, 1}, {3, 2, 2}, {1, 3, 3}, {7, 3, 12}, {21, 1, 0}, {1, 21, 1<<20 - 1}, {39, 2, 1 << 19}, {20, 21, 1}} {
		if rank, ok := impl.RankOfRatio(w[0], w[1]); !ok || rank != w[2] {
			t.Error(w, rank, ok)
		}
	}
	for _, w := range [][2]int{{22, 1}, {1, 22}, {41, 2}, {22, 21}, {1000, 1}, {1, 1000}, {1000, 999}} {
		if rank, ok := impl.RankOfRatio(w[0], w[1]); ok || rank != 0 {
			t.Error("too long", w, rank, ok)
		}
	}
}

func TestRatioOfRankAtLimits(t *testing.T) {
	for _, w := range [][4]int{{1, 0, 1, 1}, {2, 0, 2, 1}, {2, 1, 1, 2}, {3, 1, 2, 3}, {5, 12, 7, 3}, {21, 0, 21, 1}, {21, 1<<20 - 1, 1, 21}, {21, 1 << 19, 39, 2}} {
		if width, height, ok := impl.RatioOfRank(w[0], w[1]); !ok || width != w[2] || height != w[3] {
			t.Error(w, width, height, ok)
		}
	}
	fails := func(squares, rank int) {
		t.Helper()
		if width, height, ok := impl.RatioOfRank(squares, rank); ok || width != 0 || height != 0 {
			t.Error(squares, rank, width, height, ok)
		}
	}
	for squares := 1; squares <= 21; squares++ {
		for _, rank := range []int{math.MinInt, -1 << 32, -1, 1 << (squares - 1), 1<<(squares-1) + 1, 1 << 32, 1 << 62, math.MaxInt} {
			fails(squares, rank)
		}
	}
	for _, squares := range noCounts() {
		for _, rank := range []int{math.MinInt, -1, 0, 1, math.MaxInt} {
			fails(squares, rank)
		}
	}
	// The words of 16 squares that are put to both sides by turns.
	fails(16, 0b010101010101010)
	fails(16, 0b101010101010101)
}

func TestIsSquareRatio(t *testing.T) {
	check := func(width, height, squares int, want bool) {
		t.Helper()
		if is, ok := impl.IsSquareRatio(width, height, squares); !ok || is != want {
			t.Fatal(width, height, squares, is, ok)
		}
	}
	for width := 1; width <= 32; width++ {
		for height := 1; height <= 32; height++ {
			_, sides := greedyByCells(width, height)
			for squares := 1; squares <= 21; squares++ {
				check(width, height, squares, squares == len(sides))
			}
			for _, squares := range noCounts() {
				if is, ok := impl.IsSquareRatio(width, height, squares); ok || is {
					t.Fatal(width, height, squares, is, ok)
				}
			}
		}
	}
	check(1000, 1000, 1, true)
	check(1000, 500, 2, true)
	check(14, 6, 5, true)
	check(21, 1, 21, true)
	// The words of these are too long.
	check(22, 1, 21, false)
	check(1000, 1, 21, false)
	check(1000, 999, 1, false)
}

// TestGoroutinesEnd makes calls that take all squares off, and calls that stop before.
func TestGoroutinesEnd(t *testing.T) {
	before := runtime.NumGoroutine()
	for range 200 {
		impl.QuotientsOf(1000, 1)
		impl.CountGreedy(1000, 999)
		impl.GreedyCut(1000, 1)
		impl.GreedyCut(1, 1000)
		impl.WordOfRatio(1000, 1)
		impl.WordOfRatio(22, 1)
		impl.RankOfRatio(999, 1000)
		impl.IsSquareRatio(1000, 1, 1)
		impl.GreedyCut(0, 0)
	}
	checkGoroutinesEnd(t, before)
}

// checkGoroutinesEnd gives the last goroutine a moment to be gone.
func checkGoroutinesEnd(t *testing.T, before int) {
	t.Helper()
	for range 1000 {
		if runtime.NumGoroutine() <= before {
			return
		}
		time.Sleep(time.Millisecond)
	}
	t.Error("goroutines", before, runtime.NumGoroutine())
}
