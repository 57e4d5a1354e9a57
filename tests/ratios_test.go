package tests

import (
	"math"
	"math/big"
	"slices"
	"strings"
	"testing"

	"loop.example/g01296/impl"
)

// The functions of this file find by cells of side 1, by fractions and by trying all words what the program must find of ratios.

// greedyByCells paints, at the first free cell, the greatest square that has room in the cells that are free, and returns the sides as they come.
func greedyByCells(width, height int) (cells, []int) {
	g := noCells(width, height)
	var sides []int
	for {
		x, y := firstFree(g)
		if y == height {
			return g, sides
		}
		side := min(width-x, height-y)
		paint(g, x, y, side, len(sides))
		sides = append(sides, side)
	}
}

// runsOf returns how many numbers that are the same come one after the other.
func runsOf(list []int) []int {
	var runs []int
	for len(list) > 0 {
		runs = append(runs, lengthOfRun(list))
		list = list[lengthOfRun(list):]
	}
	return runs
}

// quotientsByFraction takes the whole part of a fraction, and goes on with 1 divided by what is left.
func quotientsByFraction(width, height int) []int {
	r := big.NewRat(int64(max(width, height)), int64(min(width, height)))
	var list []int
	for {
		whole := new(big.Int).Quo(r.Num(), r.Denom())
		list = append(list, int(whole.Int64()))
		r.Sub(r, new(big.Rat).SetInt(whole))
		if r.Sign() == 0 {
			return list
		}
		r.Inv(r)
	}
}

// ratioByFraction is 0, 0 if it is too great.
func ratioByFraction(quotients []int) (int, int) {
	r := new(big.Rat)
	for _, q := range slices.Backward(quotients) {
		if r.Sign() > 0 {
			r.Inv(r)
		}
		r.Add(r, big.NewRat(int64(q), 1))
	}
	if r.Num().Cmp(big.NewInt(impl.MaxRatio)) > 0 {
		return 0, 0
	}
	return int(r.Num().Int64()), int(r.Denom().Int64())
}

// cellsOfWord puts columns at the right and rows below, told by the number of their square.
func cellsOfWord(w string) cells {
	g := cells{{0}}
	for k, sign := range w {
		width, height := len(g[0]), len(g)
		if sign == 'b' {
			for y := range g {
				g[y] = append(g[y], slices.Repeat([]int{k + 1}, height)...)
			}
			continue
		}
		for range width {
			g = append(g, slices.Repeat([]int{k + 1}, width))
		}
	}
	return g
}

// sidesByCells returns the side of each of so many squares.
func sidesByCells(g cells, squares int) []int {
	sides := make([]int, squares)
	for _, row := range g {
		for from := 0; from < len(row); from += lengthOfRun(row[from:]) {
			sides[row[from]] = lengthOfRun(row[from:])
		}
	}
	return sides
}

// wordsOfLength are in the order of texts.
func wordsOfLength(length int) []string {
	words := []string{""}
	for range length {
		var longer []string
		for _, w := range words {
			longer = append(longer, w+"b", w+"u")
		}
		words = longer
	}
	return words
}

// growWords calls what for a word and its rectangle and, as long as it says so, for all words that go on with it.
func growWords(w string, width, height int, what func(w string, width, height int) bool) {
	if what(w, width, height) && len(w) < 20 {
		growWords(w+"b", width+height, height, what)
		growWords(w+"u", width, width+height, what)
	}
}

// wordsOfRatios has the words of all ratios that have one.
func wordsOfRatios() map[[2]int]string {
	words := map[[2]int]string{}
	growWords("", 1, 1, func(w string, width, height int) bool {
		is := max(width, height) <= 1000
		if is {
			words[[2]int{width, height}] = w
		}
		return is
	})
	return words
}

func byTurns(length int) string {
	return strings.Repeat("bu", length)[:length]
}

// noWords are not valid, each for a reason of its own.
func noWords() []string {
	return []string{
		"B", "U", "bB", "x", "0", " ", "b ", " b", "b u", "bu\n", "\nbu", "\x00", "b\x00", "\xff", "u\xff", "ü", "bü", "ub,", "-", "b-", "bub1ub",
		strings.Repeat("b", 21), strings.Repeat("u", 21), byTurns(21), strings.Repeat("b", 20) + "\x00", strings.Repeat("b", 100000), strings.Repeat("ü", 10), strings.Repeat("ü", 11),
	}
}

// noRatios are not valid, each for a reason of its own.
func noRatios() [][2]int {
	list := [][2]int{{0, 0}, {-1, -1}, {1001, 1001}, {2000, 1000}, {1000, 1001}, {1001, 1000}, {math.MinInt, math.MaxInt}}
	for _, n := range []int{math.MinInt, math.MinInt + 1, -1 << 32, -1000, -1, 0, 1001, 1 << 31, 1<<32 + 1, 1 << 62, math.MaxInt - 1, math.MaxInt} {
		list = append(list, [2]int{n, 1}, [2]int{1, n}, [2]int{n, 7}, [2]int{1000, n}, [2]int{n, n})
	}
	return list
}

// noCounts are numbers of squares that no word has.
func noCounts() []int {
	return []int{math.MinInt, math.MinInt + 1, -1 << 32, -1, 0, 22, 23, 63, 64, 65, 1000, 1 << 32, 1<<32 + 1, 1 << 62, math.MaxInt - 1, math.MaxInt}
}

func TestRatiosAreWhatTheyShouldBe(t *testing.T) {
	for length := range 9 {
		words := wordsOfLength(length)
		if len(words) != 1<<length || !slices.IsSorted(words) {
			t.Error("words", length, words)
		}
	}
	// The ways to find what the program must find agree.
	growWords("", 1, 1, func(w string, width, height int) bool {
		g := cellsOfWord(w)
		if len(g[0]) != width || len(g) != height {
			t.Error("cells", w, width, height)
		}
		_, sides := greedyByCells(width, height)
		if !slices.Equal(runsOf(sides), quotientsByFraction(width, height)) || len(sides) != len(w)+1 {
			t.Error("sides", w, sides)
		}
		if a, b := ratioByFraction(runsOf(sides)); a != max(width, height) || b != min(width, height) {
			t.Error("fraction", w, a, b)
		}
		return len(w) < 8
	})
	if words := wordsOfRatios(); len(words) < 100000 || words[[2]int{7, 3}] != "uubb" {
		t.Error("words of ratios", len(words))
	}
}
