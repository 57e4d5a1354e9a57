package tests

import (
	"math"
	"slices"
	"testing"

	"loop.example/g01296/impl"
)

func TestExampleOfChapter7(t *testing.T) {
	for _, w := range [][3]int{{2, 2, 2}, {3, 3, 6}, {4, 4, 40}, {3, 2, 3}} {
		if n, ok := impl.CountCuts(w[0], w[1]); !ok || n != w[2] {
			t.Error("cuts", w, n, ok)
		}
	}
	if counts, ok := impl.CutsBySquares(3, 2); !ok || !slices.Equal(counts, []int{0, 0, 2, 0, 0, 1}) {
		t.Error("by squares", counts, ok)
	}
	texts := []string{"3x2;0,0,1;1,0,1;2,0,1;0,1,1;1,1,1;2,1,1", "3x2;0,0,1;1,0,2;0,1,1", "3x2;0,0,2;2,0,1;2,1,1"}
	list, ok := impl.AllCuts(3, 2)
	if !ok || len(list) != len(texts) {
		t.Fatal("all", list, ok)
	}
	for k, c := range list {
		if textOf(c) != texts[k] {
			t.Error("all", k, textOf(c))
		}
	}
	if n, ok := impl.CountTurned(3, 2); !ok || n != 2 {
		t.Error("turned", n, ok)
	}
	if lists, ok := impl.SideLists(3, 2); !ok || !slices.EqualFunc(lists, [][]int{{1, 1, 1, 1, 1, 1}, {2, 1, 1}}, slices.Equal) {
		t.Error("side lists", lists, ok)
	}
	if a, b, ok := impl.MeanOfCuts(3, 2); !ok || a != 4 || b != 1 {
		t.Error("mean", a, b, ok)
	}
}

// countsOfListed are the functions of a width and a height of cuts that are listed that return one number.
func countsOfListed() map[string]func(width, height int) (int, bool) {
	return map[string]func(width, height int) (int, bool){
		"CountTurned": impl.CountTurned, "CountMirrored": impl.CountMirrored, "CountSimple": impl.CountSimple, "CountWithoutCross": impl.CountWithoutCross,
	}
}

// checkListed makes a call for each size of cuts that are listed, for each size that is told with its number, and for sizes that the call must fail for.
func checkListed(t *testing.T, name string, want func(cuts []impl.Cut) int, told [][3]int) {
	t.Helper()
	f := countsOfListed()[name]
	for size, cuts := range allListed() {
		if n, ok := f(size[0], size[1]); !ok || n != want(cuts) {
			t.Error(name, size, n, ok)
		}
	}
	for _, w := range told {
		if n, ok := f(w[0], w[1]); !ok || n != w[2] {
			t.Error(name, w, n, ok)
		}
	}
	for _, size := range noListed() {
		if n, ok := f(size[0], size[1]); ok || n != 0 {
			t.Error(name, size, n, ok)
		}
	}
}

func TestCountCuts(t *testing.T) {
	for width, row := range knownCounts() {
		for height, count := range row {
			if n, ok := impl.CountCuts(width+1, height+1); !ok || n != count {
				t.Error(width+1, height+1, n, ok)
			}
		}
	}
	for _, size := range noSizes(6) {
		if n, ok := impl.CountCuts(size[0], size[1]); ok || n != 0 {
			t.Error(size, n, ok)
		}
	}
}

func TestCutsBySquares(t *testing.T) {
	for size, cuts := range allCounted() {
		want := make([]int, size[0]*size[1])
		for _, c := range cuts {
			want[len(c.Squares)-1]++
		}
		if counts, ok := impl.CutsBySquares(size[0], size[1]); !ok || !slices.Equal(counts, want) {
			t.Error(size, counts, ok)
		}
	}
	for _, w := range []struct {
		width, height int
		counts        []int
	}{
		{1, 1, []int{1}}, {2, 1, []int{0, 1}}, {1, 6, []int{0, 0, 0, 0, 0, 1}}, {2, 2, []int{1, 0, 0, 1}}, {3, 3, []int{1, 0, 0, 0, 0, 4, 0, 0, 1}},
		// One of 4 by 4; four of 2 by 2; three of 2 by 2, of which two or three are at corners; one of 3 by 3; two, one or none of 2 by 2.
		{4, 4, []int{1, 0, 0, 1, 0, 0, 8, 4, 0, 16, 0, 0, 9, 0, 0, 1}},
	} {
		if counts, ok := impl.CutsBySquares(w.width, w.height); !ok || !slices.Equal(counts, w.counts) {
			t.Error(w.width, w.height, counts, ok)
		}
	}
	// Cuts of 6 by 6 have up to 36 squares.
	if counts, ok := impl.CutsBySquares(6, 6); !ok || len(counts) != 36 || counts[35] != 1 || counts[32] != 25 || counts[0] != 1 {
		t.Error(counts, ok)
	}
	for _, size := range noSizes(6) {
		if counts, ok := impl.CutsBySquares(size[0], size[1]); ok || len(counts) > 0 {
			t.Error(size, counts, ok)
		}
	}
}

func TestCutsWithMost(t *testing.T) {
	for size, cuts := range allCounted() {
		for side := 1; side <= 6; side++ {
			want := countBy(cuts, func(c impl.Cut) bool { return sidesByPlaces(c)[0] <= side })
			if n, ok := impl.CutsWithMost(size[0], size[1], side); !ok || n != want {
				t.Error(size, side, n, ok)
			}
		}
		for _, side := range noWidths(6) {
			if n, ok := impl.CutsWithMost(size[0], size[1], side); ok || n != 0 {
				t.Error(size, side, n, ok)
			}
		}
	}
	// Just one cut of 6 by 6 has a side of 6; a side may be greater than there is room for.
	for _, w := range [][4]int{{6, 6, 1, 1}, {6, 6, 5, 10667}, {6, 6, 6, 10668}, {1, 1, 1, 1}, {1, 1, 6, 1}, {3, 2, 1, 1}, {3, 2, 2, 3}, {3, 2, 3, 3}, {2, 2, 1, 1}, {4, 4, 2, 35}, {4, 4, 3, 39}} {
		if n, ok := impl.CutsWithMost(w[0], w[1], w[2]); !ok || n != w[3] {
			t.Error(w, n, ok)
		}
	}
	for _, size := range noSizes(6) {
		for _, side := range []int{0, 1, 2, 6, 7} {
			if n, ok := impl.CutsWithMost(size[0], size[1], side); ok || n != 0 {
				t.Error(size, side, n, ok)
			}
		}
	}
}

func TestAllCuts(t *testing.T) {
	for size, cuts := range allListed() {
		if list, ok := impl.AllCuts(size[0], size[1]); !ok || !slices.EqualFunc(list, cuts, same) {
			t.Error(size, list, ok)
		}
	}
	if list, ok := impl.AllCuts(6, 1); !ok || len(list) != 1 || !same(list[0], rowsOfOnes(6, 1)) {
		t.Error("all of side 1", list, ok)
	}
	if list, ok := impl.AllCuts(2, 2); !ok || !slices.EqualFunc(list, []impl.Cut{four, grown(one, 2)}, same) {
		t.Error("2 by 2", list, ok)
	}
	for _, size := range noListed() {
		if list, ok := impl.AllCuts(size[0], size[1]); ok || len(list) > 0 {
			t.Error(size, list, ok)
		}
	}
}

// noRanks are no places among a number of cuts.
func noRanks(count int) []int {
	return []int{math.MinInt, math.MinInt + 1, -1 << 32, -count, -1, count, count + 1, 2 * count, 1 << 31, 1 << 32, 1<<32 + 1, 1 << 62, math.MaxInt - 1, math.MaxInt}
}

func TestCutOfRank(t *testing.T) {
	for size, cuts := range allListed() {
		for rank, want := range cuts {
			if c, ok := impl.CutOfRank(size[0], size[1], rank); !ok || !same(c, want) {
				t.Error(size, rank, textOf(c), ok)
			}
		}
		for _, rank := range noRanks(len(cuts)) {
			if c, ok := impl.CutOfRank(size[0], size[1], rank); ok || !zero(c) {
				t.Error(size, rank, textOf(c), ok)
			}
		}
	}
	for _, w := range []struct {
		width, height, rank int
		want                impl.Cut
	}{
		{1, 1, 0, one}, {6, 1, 0, rowsOfOnes(6, 1)}, {1, 6, 0, rowsOfOnes(1, 6)}, {3, 2, 2, three}, {2, 2, 0, four}, {4, 4, 0, rowsOfOnes(4, 4)}, {4, 4, 39, grown(one, 4)},
	} {
		if c, ok := impl.CutOfRank(w.width, w.height, w.rank); !ok || !same(c, w.want) {
			t.Error(w, textOf(c), ok)
		}
	}
	for _, size := range noListed() {
		for _, rank := range []int{-1, 0, 1, math.MaxInt} {
			if c, ok := impl.CutOfRank(size[0], size[1], rank); ok || !zero(c) {
				t.Error(size, rank, textOf(c), ok)
			}
		}
	}
}

func TestRankOfCut(t *testing.T) {
	for _, cuts := range allListed() {
		for want, c := range cuts {
			if rank, ok := impl.RankOfCut(c); !ok || rank != want {
				t.Error(textOf(c), rank, ok)
			}
		}
	}
	given := append(noCuts(), nine, grown(one, 5), grown(one, 500), rowsOfOnes(7, 2), rowsOfOnes(2, 7), rowsOfOnes(7, 1), rowsOfOnes(1, 7), rowsOfOnes(16, 1), rowsOfOnes(8, 2), rowsOfOnes(6, 3), rowsOfOnes(5, 4), rowsOfOnes(6, 6))
	for size, cuts := range allCounted() {
		if size[0]*size[1] > 16 {
			given = append(given, cuts[0], cuts[len(cuts)-1])
		}
	}
	for _, c := range given {
		if rank, ok := impl.RankOfCut(c); ok || rank != 0 {
			t.Error(textOf(c), rank, ok)
		}
	}
	// A cut whose squares are in another order is none.
	if rank, ok := impl.RankOfCut(cut(3, 2, 0, 0, 2, 2, 1, 1, 2, 0, 1)); ok || rank != 0 {
		t.Error("order", rank, ok)
	}
}

func TestCountTurned(t *testing.T) {
	checkListed(t, "CountTurned", func(cuts []impl.Cut) int { return len(turnsByCells(cuts)) },
		[][3]int{{1, 1, 1}, {2, 2, 2}, {3, 2, 2}, {2, 3, 2}, {3, 3, 3}, {4, 4, 13}, {4, 3, 6}, {3, 4, 6}, {6, 1, 1}, {1, 6, 1}, {5, 3, 10}, {6, 2, 9}})
}

func TestFirstTurns(t *testing.T) {
	for size, cuts := range allListed() {
		if list, ok := impl.FirstTurns(size[0], size[1]); !ok || !slices.EqualFunc(list, turnsByCells(cuts), same) {
			t.Error(size, list, ok)
		}
	}
	// Those that are higher than wide are turned.
	for _, size := range [][2]int{{3, 2}, {2, 3}} {
		want := []impl.Cut{rowsOfOnes(3, 2), cut(3, 2, 0, 0, 1, 1, 0, 2, 0, 1, 1)}
		if list, ok := impl.FirstTurns(size[0], size[1]); !ok || !slices.EqualFunc(list, want, same) {
			t.Error(size, list, ok)
		}
	}
	if list, ok := impl.FirstTurns(1, 6); !ok || len(list) != 1 || !same(list[0], rowsOfOnes(6, 1)) {
		t.Error("all of side 1", list, ok)
	}
	for _, size := range noListed() {
		if list, ok := impl.FirstTurns(size[0], size[1]); ok || len(list) > 0 {
			t.Error(size, list, ok)
		}
	}
}

func TestCountMirrored(t *testing.T) {
	checkListed(t, "CountMirrored", func(cuts []impl.Cut) int {
		return countBy(cuts, func(c impl.Cut) bool {
			g, _ := cellsOf(c)
			return same(cutOfCells(mirrorCells(g)), c)
		})
	}, [][3]int{{1, 1, 1}, {2, 2, 2}, {3, 2, 1}, {2, 3, 3}, {3, 3, 2}, {4, 2, 3}, {2, 4, 5}, {4, 4, 12}, {6, 1, 1}, {1, 6, 1}, {2, 6, 13}, {6, 2, 5}})
}

func TestSideLists(t *testing.T) {
	for size, cuts := range allListed() {
		var want [][]int
		for _, c := range cuts {
			want = append(want, sidesByPlaces(c))
		}
		slices.SortFunc(want, slices.Compare)
		want = slices.CompactFunc(want, slices.Equal)
		if lists, ok := impl.SideLists(size[0], size[1]); !ok || !slices.EqualFunc(lists, want, slices.Equal) {
			t.Error(size, lists, ok)
		}
	}
	ones := slices.Repeat([]int{1}, 16)
	for _, w := range []struct {
		width, height int
		lists         [][]int
	}{
		{1, 1, [][]int{{1}}}, {6, 1, [][]int{ones[:6]}}, {1, 6, [][]int{ones[:6]}}, {2, 2, [][]int{ones[:4], {2}}}, {2, 3, [][]int{ones[:6], {2, 1, 1}}},
		{4, 4, [][]int{ones, {2, 1, 1, 1, 1, 1, 1, 1, 1, 1, 1, 1, 1}, {2, 2, 1, 1, 1, 1, 1, 1, 1, 1}, {2, 2, 2, 1, 1, 1, 1}, {2, 2, 2, 2}, {3, 1, 1, 1, 1, 1, 1, 1}, {4}}},
		{5, 3, [][]int{ones[:15], {2, 1, 1, 1, 1, 1, 1, 1, 1, 1, 1, 1}, {2, 2, 1, 1, 1, 1, 1, 1, 1}, {3, 1, 1, 1, 1, 1, 1}, {3, 2, 1, 1}}},
	} {
		if lists, ok := impl.SideLists(w.width, w.height); !ok || !slices.EqualFunc(lists, w.lists, slices.Equal) {
			t.Error(w.width, w.height, lists, ok)
		}
	}
	for _, size := range noListed() {
		if lists, ok := impl.SideLists(size[0], size[1]); ok || len(lists) > 0 {
			t.Error(size, lists, ok)
		}
	}
}

// someOrders has a list in several orders.
func someOrders(list []int) [][]int {
	back := slices.Clone(list)
	slices.Reverse(back)
	half := len(list) / 2
	return [][]int{list, back, slices.Concat(list[half:], list[:half]), slices.Concat(back[half:], back[:half])}
}

func TestCountWithSides(t *testing.T) {
	check := func(size [2]int, sides []int, want int, fine bool) {
		t.Helper()
		if n, ok := impl.CountWithSides(size[0], size[1], sides); ok != fine || n != want {
			t.Error(size, sides, n, ok)
		}
	}
	var all [][]int
	for _, cuts := range allListed() {
		for _, c := range cuts {
			all = append(all, sidesByPlaces(c))
		}
	}
	slices.SortFunc(all, slices.Compare)
	all = slices.CompactFunc(all, slices.Equal)
	// No cut has these.
	all = append(all, []int{5}, []int{6}, []int{6, 6, 6}, []int{2, 1}, slices.Repeat([]int{6}, 16), slices.Repeat([]int{2}, 16))
	for size, cuts := range allListed() {
		for _, list := range all {
			want := countBy(cuts, func(c impl.Cut) bool { return slices.Equal(sidesByPlaces(c), list) })
			for _, sides := range someOrders(list) {
				check(size, sides, want, true)
			}
		}
		for _, sides := range noSideLists() {
			check(size, sides, 0, false)
		}
	}
	check([2]int{3, 2}, []int{1, 2, 1}, 2, true)
	check([2]int{3, 2}, []int{2, 1, 1, 1}, 0, true)
	check([2]int{3, 2}, []int{2, 1}, 0, true)
	check([2]int{4, 4}, []int{1, 2, 1, 2, 1, 2, 1}, 8, true)
	check([2]int{4, 4}, slices.Repeat([]int{1}, 16), 1, true)
	check([2]int{6, 1}, slices.Repeat([]int{1}, 6), 1, true)
	for _, size := range noListed() {
		check(size, []int{1}, 0, false)
		check(size, []int{2, 1, 1}, 0, false)
		check(size, slices.Repeat([]int{1}, 16), 0, false)
	}
}

// noSideLists are no lists of sides, each for a reason of its own.
func noSideLists() [][]int {
	list := [][]int{nil, {}, slices.Repeat([]int{1}, 17), slices.Repeat([]int{7}, 17), make([]int, 16), make([]int, 100000), slices.Repeat([]int{1}, 100000)}
	for _, n := range noWidths(6) {
		list = append(list, []int{n}, []int{2, 1, n}, []int{n, 2, 1, 1}, []int{2, n, 1}, append(slices.Repeat([]int{1}, 15), n))
	}
	return list
}

func TestCountSimple(t *testing.T) {
	checkListed(t, "CountSimple", func(cuts []impl.Cut) int {
		return countBy(cuts, func(c impl.Cut) bool {
			g, _ := cellsOf(c)
			return len(partsByCells(c, g)) == 0
		})
	}, [][3]int{{1, 1, 1}, {2, 1, 1}, {1, 2, 1}, {3, 1, 0}, {1, 6, 0}, {2, 2, 1}, {3, 2, 0}, {3, 3, 1}, {4, 2, 1}, {2, 4, 1}, {4, 4, 1}, {5, 3, 0}, {6, 2, 0}})
}

func TestCountWithoutCross(t *testing.T) {
	checkListed(t, "CountWithoutCross", func(cuts []impl.Cut) int {
		return countBy(cuts, func(c impl.Cut) bool {
			g, _ := cellsOf(c)
			return len(crossesByCells(g)) == 0
		})
	}, [][3]int{{1, 1, 1}, {6, 1, 1}, {1, 6, 1}, {2, 2, 1}, {3, 2, 2}, {2, 3, 2}, {3, 3, 1}, {4, 2, 2}, {4, 4, 5}, {5, 3, 5}, {6, 2, 4}})
}

func TestMeanOfCuts(t *testing.T) {
	for size, cuts := range allCounted() {
		squares := 0
		for _, c := range cuts {
			squares += len(c.Squares)
		}
		a, b, ok := impl.MeanOfCuts(size[0], size[1])
		if !ok || b < 1 || a*len(cuts) != b*squares || hasCommonDivisor(a, b) {
			t.Error(size, a, b, ok)
		}
	}
	for _, w := range [][4]int{{1, 1, 1, 1}, {6, 1, 6, 1}, {1, 6, 6, 1}, {2, 2, 5, 2}, {3, 3, 17, 3}, {4, 4, 193, 20}, {6, 6, 55418, 2667}} {
		if a, b, ok := impl.MeanOfCuts(w[0], w[1]); !ok || a != w[2] || b != w[3] {
			t.Error(w, a, b, ok)
		}
	}
	for _, size := range noSizes(6) {
		if a, b, ok := impl.MeanOfCuts(size[0], size[1]); ok || a != 0 || b != 0 {
			t.Error(size, a, b, ok)
		}
	}
}

func hasCommonDivisor(a, b int) bool {
	for k := 2; k <= b; k++ {
		if a%k == 0 && b%k == 0 {
			return true
		}
	}
	return false
}
