package tests

import (
	"math"
	"slices"
	"testing"

	"loop.example/g01296/impl"
)

func TestExampleOfChapter8(t *testing.T) {
	if n, ok := impl.CountStrips(2, 3); !ok || n != 3 {
		t.Error("2 by 3", n, ok)
	}
	list, ok := impl.AllStrips(2, 3)
	if !ok || !slices.EqualFunc(list, []impl.Cut{rowsOfOnes(3, 2), cut(3, 2, 0, 0, 1, 1, 0, 2, 0, 1, 1), three}, same) {
		t.Error("all", list, ok)
	}
	if n, ok := impl.CountStrips(3, 3); !ok || n != 6 {
		t.Error("3 by 3", n, ok)
	}
	if counts, ok := impl.StripsBySquares(2, 3); !ok || !slices.Equal(counts, []int{0, 0, 0, 2, 0, 0, 1}) {
		t.Error("by squares", counts, ok)
	}
	if sides, ok := impl.FillSides(three); !ok || !slices.Equal(sides, []int{2, 1, 1}) {
		t.Error("sides", sides, ok)
	}
	if rank, ok := impl.RankOfStrip(three); !ok || rank != 2 {
		t.Error("rank", rank, ok)
	}
	for _, w := range [][3]int{{2, 2, 1}, {3, 3, 1}, {3, 2, 2}} {
		if n, ok := impl.CountWholeStrips(w[0], w[1]); !ok || n != w[2] {
			t.Error("whole", w, n, ok)
		}
	}
}

func TestLimitsOfChapter8(t *testing.T) {
	if impl.MaxHigh != 4 || impl.MaxLong != 30 || impl.MaxStrips != 100 {
		t.Error(impl.MaxHigh, impl.MaxLong, impl.MaxStrips)
	}
}

// checkStrips makes a call for all heights and lengths, for those that are told with the number, and for those that the call must fail for.
func checkStrips(t *testing.T, f func(height, length int) (int, bool), want func(size [2]int) int, told [][3]int) {
	t.Helper()
	for size := range stripTallies() {
		if n, ok := f(size[0], size[1]); !ok || n != want(size) {
			t.Error(size, n, ok, want(size))
		}
	}
	for _, w := range told {
		if n, ok := f(w[0], w[1]); !ok || n != w[2] {
			t.Error(w, n, ok)
		}
	}
	for _, size := range noStripSizes() {
		if n, ok := f(size[0], size[1]); ok || n != 0 {
			t.Error(size, n, ok)
		}
	}
}

// checkSides is checkStrips for calls that take a side too.
func checkSides(t *testing.T, f func(height, length, side int) (int, bool), want func(tallies map[tally]int, side int) int, told [][4]int) {
	t.Helper()
	for size, tallies := range stripTallies() {
		for side := 1; side <= 4; side++ {
			if n, ok := f(size[0], size[1], side); !ok || n != want(tallies, side) {
				t.Error(size, side, n, ok, want(tallies, side))
			}
		}
		for _, side := range noWidths(4) {
			if n, ok := f(size[0], size[1], side); ok || n != 0 {
				t.Error(size, side, n, ok)
			}
		}
	}
	for _, w := range told {
		if n, ok := f(w[0], w[1], w[2]); !ok || n != w[3] {
			t.Error(w, n, ok)
		}
	}
	for _, size := range noStripSizes() {
		for side := 0; side <= 5; side++ {
			if n, ok := f(size[0], size[1], side); ok || n != 0 {
				t.Error(size, side, n, ok)
			}
		}
	}
}

func TestCountStrips(t *testing.T) {
	checkStrips(t, impl.CountStrips, func(size [2]int) int { return countOfTallies(stripTallies()[size]) }, [][3]int{
		{1, 1, 1}, {1, 30, 1}, {2, 1, 1}, {2, 2, 2}, {2, 29, 832040}, {2, 30, 1346269},
		{3, 1, 1}, {3, 2, 3}, {3, 3, 6}, {3, 4, 13}, {3, 5, 28}, {3, 6, 60},
		{4, 1, 1}, {4, 2, 5}, {4, 3, 13}, {4, 4, 40}, {4, 5, 117}, {4, 6, 348}, {4, 30, 72003911101089},
	})
	// Strips up to 4 by 6 are cuts that chapter 7 counts.
	for height := 1; height <= 4; height++ {
		for length := 1; length <= 6; length++ {
			if n, ok := impl.CountStrips(height, length); !ok || n != knownCounts()[length-1][height-1] {
				t.Error(height, length, n, ok)
			}
		}
	}
}

func TestStripsBySquares(t *testing.T) {
	for size, tallies := range stripTallies() {
		want := make([]int, size[0]*size[1]+1)
		for counts, n := range tallies {
			want[counts.squares()] += n
		}
		if counts, ok := impl.StripsBySquares(size[0], size[1]); !ok || !slices.Equal(counts, want) {
			t.Error(size, counts, ok, want)
		}
	}
	for _, w := range []struct {
		height, length int
		counts         []int
	}{
		{1, 1, []int{0, 1}}, {1, 3, []int{0, 0, 0, 1}}, {2, 1, []int{0, 0, 1}}, {4, 1, []int{0, 0, 0, 0, 1}}, {2, 2, []int{0, 1, 0, 0, 1}}, {3, 2, []int{0, 0, 0, 2, 0, 0, 1}}, {3, 3, []int{0, 1, 0, 0, 0, 0, 4, 0, 0, 1}},
		{2, 4, []int{0, 0, 1, 0, 0, 3, 0, 0, 1}}, {4, 2, []int{0, 0, 1, 0, 0, 3, 0, 0, 1}}, {4, 4, []int{0, 1, 0, 0, 1, 0, 0, 8, 4, 0, 16, 0, 0, 9, 0, 0, 1}},
	} {
		if counts, ok := impl.StripsBySquares(w.height, w.length); !ok || !slices.Equal(counts, w.counts) {
			t.Error(w.height, w.length, counts, ok)
		}
	}
	// Strips that are counted alone have up to 120 squares: one of 2, at 3 by 29 places, leaves 117 of them.
	if counts, ok := impl.StripsBySquares(4, 30); !ok || len(counts) != 121 || counts[120] != 1 || counts[119] != 0 || counts[117] != 87 || counts[9] != 8 {
		t.Error(counts, ok)
	}
	for _, size := range noStripSizes() {
		if counts, ok := impl.StripsBySquares(size[0], size[1]); ok || len(counts) > 0 {
			t.Error(size, counts, ok)
		}
	}
}

func TestCountStripsWithout(t *testing.T) {
	checkSides(t, impl.CountStripsWithout, func(tallies map[tally]int, side int) int {
		return sumOfTallies(tallies, func(counts tally) int {
			if counts[side-1] == 0 {
				return 1
			}
			return 0
		})
	}, [][4]int{
		// A strip of the height 1 or of the length 1 has squares of 1 alone; a side may be greater than there is room for.
		{1, 1, 1, 0}, {1, 30, 1, 0}, {4, 1, 1, 0}, {1, 30, 2, 1}, {1, 1, 4, 1}, {2, 30, 1, 1}, {2, 29, 1, 0}, {2, 30, 2, 1}, {2, 30, 3, 1346269}, {2, 30, 4, 1346269},
		{2, 2, 1, 1}, {2, 2, 2, 1}, {3, 3, 1, 1}, {3, 3, 2, 2}, {3, 3, 3, 5}, {3, 3, 4, 6}, {4, 4, 1, 2}, {4, 4, 2, 6}, {4, 4, 3, 36}, {4, 4, 4, 39}, {3, 2, 2, 1}, {3, 30, 1, 1}, {3, 29, 1, 0},
	})
}

func TestSquaresOfSide(t *testing.T) {
	checkSides(t, impl.SquaresOfSide, func(tallies map[tally]int, side int) int {
		return sumOfTallies(tallies, func(counts tally) int { return counts[side-1] })
	}, [][4]int{
		{1, 1, 1, 1}, {1, 1, 2, 0}, {1, 30, 1, 30}, {1, 30, 4, 0}, {4, 1, 1, 4}, {4, 1, 4, 0}, {2, 2, 1, 4}, {2, 2, 2, 1}, {2, 3, 1, 10}, {2, 3, 2, 2}, {2, 3, 3, 0}, {3, 2, 1, 10}, {3, 2, 2, 2},
		{3, 3, 1, 29}, {3, 3, 2, 4}, {3, 3, 3, 1}, {4, 4, 3, 4}, {4, 4, 4, 1}, {4, 30, 1, 3862074387295960},
	})
}

func TestMeanSquares(t *testing.T) {
	for size, tallies := range stripTallies() {
		squares := sumOfTallies(tallies, tally.squares)
		a, b, ok := impl.MeanSquares(size[0], size[1])
		// Products of both sides would wrap around for long strips, so the quotients are held against each other.
		divisor := countOfTallies(tallies) / max(b, 1)
		if !ok || b < 1 || b*divisor != countOfTallies(tallies) || a*divisor != squares || !areLowest(a, b) {
			t.Error(size, a, b, ok)
		}
	}
	for _, w := range [][4]int{{1, 1, 1, 1}, {1, 30, 30, 1}, {4, 1, 4, 1}, {2, 2, 5, 2}, {2, 3, 4, 1}, {3, 2, 4, 1}, {3, 3, 17, 3}, {4, 2, 5, 1}, {4, 4, 193, 20}, {3, 4, 98, 13}} {
		if a, b, ok := impl.MeanSquares(w[0], w[1]); !ok || a != w[2] || b != w[3] {
			t.Error(w, a, b, ok)
		}
	}
	for _, size := range noStripSizes() {
		if a, b, ok := impl.MeanSquares(size[0], size[1]); ok || a != 0 || b != 0 {
			t.Error(size, a, b, ok)
		}
	}
}

// areLowest is for numbers that are too great to try all divisors.
func areLowest(a, b int) bool {
	for b > 0 {
		a, b = b, a%b
	}
	return a == 1
}

func TestFewestInStrip(t *testing.T) {
	checkStrips(t, impl.FewestInStrip, func(size [2]int) int {
		fewest := size[0] * size[1]
		for counts := range stripTallies()[size] {
			fewest = min(fewest, counts.squares())
		}
		return fewest
	}, [][3]int{
		{1, 1, 1}, {1, 30, 30}, {2, 1, 2}, {4, 1, 4}, {2, 2, 1}, {3, 2, 3}, {2, 3, 3}, {3, 3, 1}, {4, 4, 1}, {4, 3, 4}, {4, 2, 2}, {2, 29, 16}, {2, 30, 15}, {3, 29, 12}, {3, 30, 10}, {4, 28, 7}, {4, 30, 9},
	})
	// What chapter 5 tells of the lengths of both.
	for height := 1; height <= 4; height++ {
		for length := 1; length <= 13; length++ {
			want, _ := impl.FewestSquares(length, height)
			if n, ok := impl.FewestInStrip(height, length); !ok || n != want {
				t.Error(height, length, n, ok, want)
			}
		}
	}
}

func TestAllStrips(t *testing.T) {
	most := []int{30, 10, 6, 4}
	for size := range stripTallies() {
		list, ok := impl.AllStrips(size[0], size[1])
		if size[1] > most[size[0]-1] {
			// There are 144, 129 and 117 of the least of these.
			if ok || len(list) > 0 {
				t.Error("too many", size, len(list), ok)
			}
			continue
		}
		if !ok || !slices.EqualFunc(list, someStrips()[size], same) {
			t.Error(size, list, ok)
		}
	}
	for _, w := range []struct {
		height, length int
		want           []impl.Cut
	}{
		{1, 1, []impl.Cut{one}}, {1, 30, []impl.Cut{rowsOfOnes(30, 1)}}, {4, 1, []impl.Cut{rowsOfOnes(1, 4)}}, {2, 2, []impl.Cut{four, grown(one, 2)}},
		{3, 2, []impl.Cut{rowsOfOnes(2, 3), cut(2, 3, 0, 0, 1, 1, 0, 1, 0, 1, 2), cut(2, 3, 0, 0, 2, 0, 2, 1, 1, 2, 1)}},
		{2, 4, []impl.Cut{rowsOfOnes(4, 2), cut(4, 2, 0, 0, 1, 1, 0, 1, 2, 0, 2, 0, 1, 1, 1, 1, 1), split, cut(4, 2, 0, 0, 2, 2, 0, 1, 3, 0, 1, 2, 1, 1, 3, 1, 1), cut(4, 2, 0, 0, 2, 2, 0, 2)}},
		// The order is not that of cuts, in which the third one would come behind the fourth one.
		{3, 3, []impl.Cut{rowsOfOnes(3, 3), twoAmongOnes(1, 1), twoAmongOnes(1, 0), twoAmongOnes(0, 1), twoAmongOnes(0, 0), grown(one, 3)}},
	} {
		if list, ok := impl.AllStrips(w.height, w.length); !ok || !slices.EqualFunc(list, w.want, same) {
			t.Error(w.height, w.length, list, ok)
		}
	}
	for _, w := range [][3]int{{2, 10, 89}, {3, 6, 60}, {4, 4, 40}} {
		if list, ok := impl.AllStrips(w[0], w[1]); !ok || len(list) != w[2] {
			t.Error(w, len(list), ok)
		}
	}
	for _, size := range noStripSizes() {
		if list, ok := impl.AllStrips(size[0], size[1]); ok || len(list) > 0 {
			t.Error(size, list, ok)
		}
	}
}

// twoAmongOnes has a square of 2 at a place in 3 by 3 cells.
func twoAmongOnes(x, y int) impl.Cut {
	g := noCells(3, 3)
	paint(g, x, y, 2, 0)
	return cutWithOnes(g)
}

// stripsWithinSquares are strips of many heights and lengths that have no more squares than a cut.
func stripsWithinSquares() []impl.Cut {
	list := longStrips()
	for _, strips := range someStrips() {
		for _, c := range strips {
			if len(c.Squares) <= 30 {
				list = append(list, c)
			}
		}
	}
	return list
}

func TestFillSides(t *testing.T) {
	for _, c := range stripsWithinSquares() {
		if sides, ok := impl.FillSides(c); !ok || !slices.Equal(sides, fillSidesByCells(c)) {
			t.Error(textOf(c), sides, ok)
		}
	}
	for _, w := range []struct {
		c     impl.Cut
		sides []int
	}{
		{one, []int{1}}, {grown(one, 4), []int{4}}, {rowsOfOnes(1, 4), []int{1, 1, 1, 1}}, {rowsOfOnes(30, 1), slices.Repeat([]int{1}, 30)}, {split, []int{1, 1, 2, 1, 1}},
		// The order is not that of the squares.
		{cut(3, 3, 0, 0, 1, 1, 0, 2, 0, 1, 1, 0, 2, 1, 1, 2, 1, 2, 2, 1), []int{1, 1, 1, 2, 1, 1}},
		{cut(5, 3, 0, 0, 3, 3, 0, 1, 4, 0, 1, 3, 1, 2), []int{3, 1, 2, 1}},
	} {
		if sides, ok := impl.FillSides(w.c); !ok || !slices.Equal(sides, w.sides) {
			t.Error(textOf(w.c), sides, ok)
		}
	}
	for _, c := range noStrips() {
		if sides, ok := impl.FillSides(c); ok || len(sides) > 0 {
			t.Error(textOf(c), sides, ok)
		}
	}
}

// noFills are lists of sides with which no strip of any height is filled.
func noFills() [][]int {
	list := [][]int{nil, {}, {0}, {5}, {5, 5}, {0, 1}, {1, 0}, make([]int, 30), make([]int, 100000), slices.Repeat([]int{1}, 31), slices.Repeat([]int{2}, 31), slices.Repeat([]int{4}, 31), slices.Repeat([]int{1}, 100000), slices.Repeat([]int{4}, 100000)}
	for _, n := range noWidths(4) {
		list = append(list, []int{n}, []int{1, n}, []int{n, 1}, []int{2, 1, n}, []int{2, n, 1}, []int{n, 2, 1, 1}, []int{4, n}, []int{n, n}, []int{1, n, 1, -n}, append(slices.Repeat([]int{1}, 29), n))
	}
	return append(list, []int{math.MaxInt, math.MaxInt, 2}, []int{math.MinInt, math.MinInt}, []int{1 << 62, 1 << 62, 1 << 62, 1 << 62}, []int{-1, -1, 2}, []int{2, -1, 1, 1})
}

// sidesUpTo are all lists of at most so many sides, up to 4 each.
func sidesUpTo(most int) [][]int {
	all := [][]int{nil}
	for from := 0; most > 0; most-- {
		longer := all[from:]
		from = len(all)
		for _, sides := range longer {
			for side := 1; side <= 4; side++ {
				all = append(all, append(slices.Clone(sides), side))
			}
		}
	}
	return all
}

func TestCutOfFill(t *testing.T) {
	check := func(height int, sides []int, want impl.Cut) {
		t.Helper()
		if c, ok := impl.CutOfFill(height, sides); ok == zero(want) || !same(c, want) {
			t.Error(height, sides, textOf(c), ok, textOf(want))
		}
	}
	for height := 1; height <= 4; height++ {
		for _, sides := range sidesUpTo(7) {
			check(height, sides, filledByCells(height, sides))
		}
		for _, sides := range noFills() {
			check(height, sides, impl.Cut{})
		}
	}
	for _, c := range stripsWithinSquares() {
		sides := fillSidesByCells(c)
		check(c.Height, sides, c)
		// A square less or more leaves cells free, or begins a column that is not filled, unless the strip is of squares of 1 in one row.
		if c.Height > 1 {
			check(c.Height, sides[1:], filledByCells(c.Height, sides[1:]))
			check(c.Height, sides[:len(sides)-1], filledByCells(c.Height, sides[:len(sides)-1]))
			check(c.Height, append(sides, 1), impl.Cut{})
		}
	}
	for _, c := range noStrips()[len(noCuts()):] {
		check(c.Height, fillSidesByCells(c), impl.Cut{})
		check(4, fillSidesByCells(c), filledByCells(4, fillSidesByCells(c)))
	}
	check(2, []int{2, 1, 1}, three)
	check(1, []int{1}, one)
	check(4, []int{4}, grown(one, 4))
	check(3, []int{4}, impl.Cut{})
	check(2, []int{1, 2}, impl.Cut{})
	check(2, []int{2, 1}, impl.Cut{})
	check(3, []int{2, 2}, impl.Cut{})
	check(2, slices.Repeat([]int{1}, 30), rowsOfOnes(15, 2))
	check(1, slices.Repeat([]int{1}, 30), rowsOfOnes(30, 1))
	// These have just as many squares as a cut may have, or are just as long as a strip may be, and then more.
	check(2, slices.Concat(slices.Repeat([]int{1}, 28), []int{2, 2}), rowOf(rowsOfOnes(14, 2), rowOfSame(grown(one, 2), 2)))
	check(2, slices.Concat(slices.Repeat([]int{1}, 28), []int{2, 2, 2}), impl.Cut{})
	check(3, slices.Repeat([]int{3}, 10), rowOfSame(grown(one, 3), 10))
	check(3, append(slices.Repeat([]int{3}, 10), 1, 1, 1), impl.Cut{})
	check(4, append(slices.Repeat([]int{4}, 7), 2, 2), rowOf(rowOfSame(grown(one, 4), 7), grown(rowsOfOnes(1, 2), 2)))
	check(4, append(slices.Repeat([]int{4}, 7), 2, 2, 1, 1, 1, 1), impl.Cut{})
	check(4, slices.Repeat([]int{4}, 8), impl.Cut{})
	for _, height := range noWidths(4) {
		for _, sides := range [][]int{{1}, {4}, {5}, {2, 1, 1}, slices.Repeat([]int{1}, 5), slices.Repeat([]int{5}, 6), slices.Repeat([]int{1}, 30), nil} {
			check(height, sides, impl.Cut{})
		}
	}
}

func TestRankOfStrip(t *testing.T) {
	for _, strips := range someStrips() {
		for want, c := range strips {
			if len(c.Squares) > 30 {
				continue
			}
			if rank, ok := impl.RankOfStrip(c); !ok || rank != want {
				t.Error(textOf(c), want, rank, ok)
			}
		}
	}
	for _, w := range ranksOfLongStrips() {
		if rank, ok := impl.RankOfStrip(w.c); !ok || rank != w.rank {
			t.Error(textOf(w.c), w.rank, rank, ok)
		}
	}
	for _, c := range noStrips() {
		if rank, ok := impl.RankOfStrip(c); ok || rank != 0 {
			t.Error(textOf(c), rank, ok)
		}
	}
}

// ranksOfLongStrips has strips with their ranks, which follow from how many strips begin as they do.
func ranksOfLongStrips() []struct {
	c    impl.Cut
	rank int
} {
	counts := map[[2]int]int{}
	for size, tallies := range stripTallies() {
		counts[size] = countOfTallies(tallies)
	}
	two, pair := grown(one, 2), grown(rowsOfOnes(1, 2), 2)
	return []struct {
		c    impl.Cut
		rank int
	}{
		{rowsOfOnes(30, 1), 0},
		// The last ones: no square could be greater.
		{rowOfSame(two, 15), counts[[2]int{2, 30}] - 1},
		{rowOfSame(grown(one, 3), 10), counts[[2]int{3, 30}] - 1},
		{rowOf(rowOfSame(grown(one, 4), 7), pair), counts[[2]int{4, 30}] - 1},
		// Those that begin with columns of squares of 1 are the first ones.
		{rowOf(four, rowOfSame(two, 14)), counts[[2]int{2, 28}] - 1},
		{rowOf(rowsOfOnes(1, 3), rowOfSame(grown(one, 3), 9)), counts[[2]int{3, 27}] - 1},
		{rowOf(rowsOfOnes(2, 4), rowOfSame(grown(one, 4), 7)), counts[[2]int{4, 28}] - 1},
		// Those that begin with the greatest square are the last ones.
		{rowOf(rowOfSame(two, 14), four), counts[[2]int{2, 30}] - 2},
		{rowOf(rowOfSame(two, 10), rowsOfOnes(5, 2)), counts[[2]int{2, 25}] - counts[[2]int{2, 5}]},
		{rowOf(rowOfSame(grown(one, 3), 8), rowsOfOnes(6, 3)), counts[[2]int{3, 30}] - counts[[2]int{3, 6}]},
		{rowOf(rowOfSame(grown(one, 4), 6), rowsOfOnes(5, 4)), counts[[2]int{4, 29}] - counts[[2]int{4, 5}]},
		{rowOf(rowOfSame(grown(one, 4), 6), rowsOfOnes(1, 4), grown(one, 4)), counts[[2]int{4, 29}] - counts[[2]int{4, 5}] + counts[[2]int{4, 4}] - 1},
	}
}

func TestStripOfRank(t *testing.T) {
	check := func(size [2]int, rank int, want impl.Cut) {
		t.Helper()
		if c, ok := impl.StripOfRank(size[0], size[1], rank); ok == zero(want) || !same(c, want) {
			t.Error(size, rank, textOf(c), ok, textOf(want))
		}
	}
	tooMany := 0
	for size, strips := range someStrips() {
		for rank, c := range strips {
			if len(c.Squares) > 30 {
				tooMany++
				c = impl.Cut{}
			}
			check(size, rank, c)
		}
		for _, rank := range noRanks(len(strips)) {
			check(size, rank, impl.Cut{})
		}
	}
	if tooMany == 0 {
		t.Error("none has too many squares")
	}
	for _, w := range ranksOfLongStrips() {
		check([2]int{w.c.Height, w.c.Width}, w.rank, w.c)
	}
	for size, tallies := range stripTallies() {
		// The first one has squares of 1 alone.
		if size[0]*size[1] > 30 {
			check(size, 0, impl.Cut{})
		} else {
			check(size, 0, rowsOfOnes(size[1], size[0]))
		}
		for _, rank := range noRanks(countOfTallies(tallies)) {
			check(size, rank, impl.Cut{})
		}
	}
	for _, size := range noStripSizes() {
		for _, rank := range []int{-1, 0, 1, 2, math.MaxInt} {
			check(size, rank, impl.Cut{})
		}
	}
}

// knownWhole has a row for each height and, in it, the number of whole strips for the lengths 1, 2, .., behind which all have the last one.
func knownWhole() [][]int {
	// Longer than the height are strips alone that have two rows of squares of 2, each of which begins behind the last one, or before it.
	return [][]int{{1, 0}, {1, 1, 0}, {1, 2, 1, 0}, {1, 4, 4, 3, 2}}
}

func TestCountWholeStrips(t *testing.T) {
	checkStrips(t, impl.CountWholeStrips, func(size [2]int) int {
		row := knownWhole()[size[0]-1]
		return row[min(size[1], len(row))-1]
	}, [][3]int{{1, 1, 1}, {1, 2, 0}, {1, 30, 0}, {2, 1, 1}, {2, 3, 0}, {3, 1, 1}, {3, 4, 0}, {4, 1, 1}, {4, 2, 4}, {4, 4, 3}, {4, 5, 2}, {4, 30, 2}})
	for size, strips := range someStrips() {
		want := countBy(strips, isWholeByCells)
		if n, ok := impl.CountWholeStrips(size[0], size[1]); !ok || n != want {
			t.Error(size, n, ok, want)
		}
	}
}

func isWholeByCells(c impl.Cut) bool {
	g, _ := cellsOf(c)
	return len(linesDownByCells(g)) == 0
}

func TestIsWholeStrip(t *testing.T) {
	for _, c := range stripsWithinSquares() {
		if is, ok := impl.IsWholeStrip(c); !ok || is != isWholeByCells(c) {
			t.Error(textOf(c), is, ok)
		}
	}
	for _, w := range []struct {
		c     impl.Cut
		whole bool
	}{
		{one, true}, {rowsOfOnes(1, 4), true}, {rowsOfOnes(2, 1), false}, {four, false}, {grown(one, 4), true}, {three, false}, {cut(2, 3, 0, 0, 2, 0, 2, 1, 1, 2, 1), true},
		{rowsOfOnes(30, 1), false}, {staggered(5), true}, {staggered(27), true}, {rowOf(staggered(22), rowsOfOnes(1, 4)), false}, {rowOf(rowsOfOnes(1, 4), staggered(22)), false},
	} {
		if is, ok := impl.IsWholeStrip(w.c); !ok || is != w.whole {
			t.Error(textOf(w.c), is, ok)
		}
	}
	for _, c := range noStrips() {
		if is, ok := impl.IsWholeStrip(c); ok || is {
			t.Error(textOf(c), is, ok)
		}
	}
}

func TestStripsThrough(t *testing.T) {
	check := func(height, length, at, want int, fine bool) {
		t.Helper()
		if n, ok := impl.StripsThrough(height, length, at); ok != fine || n != want {
			t.Error(height, length, at, n, ok, want)
		}
	}
	for size, strips := range someStrips() {
		counts := make([]int, size[1])
		for _, c := range strips {
			g, _ := cellsOf(c)
			for _, at := range linesDownByCells(g) {
				counts[at]++
			}
		}
		for at := 1; at < size[1]; at++ {
			check(size[0], size[1], at, counts[at], true)
		}
	}
	for size := range stripTallies() {
		left, right := 0, 0
		for at := 1; at < size[1]; at++ {
			left, right = countOfTallies(stripTallies()[[2]int{size[0], at}]), countOfTallies(stripTallies()[[2]int{size[0], size[1] - at}])
			check(size[0], size[1], at, left*right, true)
		}
		for _, at := range append(noWidths(size[1]-1), size[1], size[1]+1, 30, 31) {
			if at < 1 || at >= size[1] {
				check(size[0], size[1], at, 0, false)
			}
		}
	}
	for _, w := range [][4]int{{1, 2, 1, 1}, {1, 30, 1, 1}, {1, 30, 29, 1}, {2, 2, 1, 1}, {2, 3, 1, 2}, {2, 3, 2, 2}, {3, 3, 1, 3}, {3, 3, 2, 3}, {4, 4, 1, 13}, {4, 4, 2, 25}, {4, 4, 3, 13}, {2, 30, 1, 832040}, {2, 30, 29, 832040}} {
		check(w[0], w[1], w[2], w[3], true)
	}
	// A strip of the length 1 has no such place.
	for at := -1; at <= 2; at++ {
		check(1, 1, at, 0, false)
		check(4, 1, at, 0, false)
	}
	for _, size := range noStripSizes() {
		for _, at := range []int{-1, 0, 1, 2, 15, 29, 30, 31, math.MaxInt} {
			check(size[0], size[1], at, 0, false)
		}
	}
}
