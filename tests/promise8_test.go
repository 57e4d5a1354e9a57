package tests

import (
	"slices"
	"testing"

	"loop.example/g01296/impl"
)

func TestPromise8StripsAreCountedBySquaresAndBySidesAlike(t *testing.T) {
	for size := range stripTallies() {
		height, length := size[0], size[1]
		count, ok := impl.CountStrips(height, length)
		counts, fine := impl.StripsBySquares(height, length)
		if !ok || !fine || count < 1 || len(counts) != height*length+1 {
			t.Fatal(size, count, counts, ok, fine)
		}
		strips, squares := 0, 0
		for k, n := range counts {
			strips += n
			squares += k * n
		}
		ofAllSides, cells := 0, 0
		for side := 1; side <= 4; side++ {
			n, ok := impl.SquaresOfSide(height, length, side)
			if !ok || n < 0 || side > min(height, length) && n != 0 || side <= min(height, length) && n == 0 {
				t.Error(size, side, n, ok)
			}
			ofAllSides += n
			cells += n * side * side
		}
		if strips != count || squares != ofAllSides || cells != height*length*count {
			t.Error(size, count, strips, squares, ofAllSides, cells)
		}
		a, b, ok := impl.MeanSquares(height, length)
		if !ok || b < 1 || count%b != 0 || a*(count/b) != squares {
			t.Error("mean", size, a, b, ok)
		}
		fewest, ok := impl.FewestInStrip(height, length)
		if !ok || slices.IndexFunc(counts, func(n int) bool { return n > 0 }) != fewest || counts[height*length] != 1 {
			t.Error("fewest", size, fewest, ok)
		}
	}
}

func TestPromise8StripsWithoutASide(t *testing.T) {
	for size := range stripTallies() {
		height, length := size[0], size[1]
		count, _ := impl.CountStrips(height, length)
		for side := 1; side <= 4; side++ {
			without, ok := impl.CountStripsWithout(height, length, side)
			squares, fine := impl.SquaresOfSide(height, length, side)
			// Each other strip has one such square at least, and no more than there is room for.
			with := count - without
			if !ok || !fine || without < 0 || with < 0 || squares < with || squares > with*(height*length/side/side) {
				t.Error(size, side, count, without, squares, ok, fine)
			}
			if side > 1 && without < 1 || side > min(height, length) && without != count {
				t.Error(size, side, count, without)
			}
		}
	}
}

func TestPromise8StripsAreCountedInLists(t *testing.T) {
	for size := range someStrips() {
		height, length := size[0], size[1]
		list, ok := impl.AllStrips(height, length)
		count, _ := impl.CountStrips(height, length)
		if ok != (count <= 100) || ok && len(list) != count {
			t.Fatal(size, len(list), count, ok)
		}
		if !ok {
			continue
		}
		bySquares, bySides, without, whole, through := make([]int, height*length+1), make([]int, 5), make([]int, 5), 0, make([]int, length)
		for rank, c := range list {
			if !impl.IsCut(c) || c.Height != height || c.Width != length {
				t.Fatal(size, rank, textOf(c))
			}
			sides, ok := impl.FillSides(c)
			if before, _ := impl.FillSides(list[max(rank-1, 0)]); !ok || rank > 0 && slices.Compare(before, sides) >= 0 {
				t.Fatal("order", size, rank, before, sides, ok)
			}
			bySquares[len(sides)]++
			for side := 1; side <= 4; side++ {
				n := countOf(sides, side)
				bySides[side] += n
				if n == 0 {
					without[side]++
				}
			}
			if is, _ := impl.IsWholeStrip(c); is {
				whole++
			}
			lines, _ := impl.LinesDown(c)
			for _, x := range lines {
				through[x]++
			}
		}
		if counts, _ := impl.StripsBySquares(height, length); !slices.Equal(counts, bySquares) {
			t.Error(size, counts, bySquares)
		}
		for side := 1; side <= 4; side++ {
			n, _ := impl.SquaresOfSide(height, length, side)
			w, _ := impl.CountStripsWithout(height, length, side)
			if n != bySides[side] || w != without[side] {
				t.Error(size, side, n, bySides[side], w, without[side])
			}
		}
		if n, ok := impl.CountWholeStrips(height, length); !ok || n != whole {
			t.Error("whole", size, n, whole, ok)
		}
		for at := 1; at < length; at++ {
			if n, ok := impl.StripsThrough(height, length, at); !ok || n != through[at] {
				t.Error("through", size, at, n, through[at], ok)
			}
		}
	}
}

func countOf(list []int, n int) int {
	count := 0
	for _, m := range list {
		if m == n {
			count++
		}
	}
	return count
}

func TestPromise8StripsAreCountedFromBothEnds(t *testing.T) {
	for size := range stripTallies() {
		height, length := size[0], size[1]
		count, _ := impl.CountStrips(height, length)
		sum, _ := impl.CountWholeStrips(height, length)
		// What is at the left of the first line down is whole.
		for at := 1; at < length; at++ {
			whole, _ := impl.CountWholeStrips(height, at)
			rest, _ := impl.CountStrips(height, length-at)
			sum += whole * rest
			n, ok := impl.StripsThrough(height, length, at)
			if m, fine := impl.StripsThrough(height, length, length-at); !ok || !fine || n != m || n < whole*rest || n > count {
				t.Error(size, at, n, m, ok, fine)
			}
		}
		if sum != count {
			t.Error(size, sum, count)
		}
		if length > 4 {
			continue
		}
		// Turning makes as many strips, with as many squares of the same sides, of the turned rectangle.
		turned, _ := impl.CountStrips(length, height)
		counts, _ := impl.StripsBySquares(height, length)
		if turnedCounts, _ := impl.StripsBySquares(length, height); turned != count || !slices.Equal(counts, turnedCounts) {
			t.Error(size, count, turned, counts, turnedCounts)
		}
		for side := 1; side <= 4; side++ {
			n, _ := impl.SquaresOfSide(height, length, side)
			if m, _ := impl.SquaresOfSide(length, height, side); n != m {
				t.Error(size, side, n, m)
			}
		}
	}
}

// someRanks are ranks of many places among so many strips.
func someRanks(count int) []int {
	ranks := []int{0, 1, 2, count / 3, count / 2, count - 3, count - 2, count - 1}
	// The first half of the first half, and so on, and the same from the last one on.
	for n := count; n > 0; n /= 2 {
		ranks = append(ranks, n-1, count-n)
	}
	return ranks
}

func TestPromise8RanksTellStripsAgain(t *testing.T) {
	for size := range stripTallies() {
		height, length := size[0], size[1]
		count, _ := impl.CountStrips(height, length)
		found := map[int][]int{}
		for _, rank := range someRanks(count) {
			c, ok := impl.StripOfRank(height, length, rank)
			if rank < 0 || rank >= count {
				if ok {
					t.Error("no rank", size, rank, textOf(c))
				}
				continue
			}
			if !ok {
				// Only squares of which there are too many keep a rank from telling a strip.
				if height*length <= 30 {
					t.Error(size, rank)
				}
				continue
			}
			r, ok := impl.RankOfStrip(c)
			sides, fine := impl.FillSides(c)
			again, full := impl.CutOfFill(height, sides)
			if !ok || !fine || !full || r != rank || !same(c, again) || c.Height != height || c.Width != length {
				t.Error(size, rank, textOf(c), r, sides, textOf(again), ok, fine, full)
			}
			found[rank] = sides
		}
		for a, sides := range found {
			for b, others := range found {
				if a < b && slices.Compare(sides, others) >= 0 {
					t.Error("order", size, a, sides, b, others)
				}
			}
		}
		if len(found) == 0 {
			t.Error("no strip has few enough squares", size)
		}
	}
}
